/- Shares of one secret, in plain words; append of shares. -/
import Derived.Test.YtjkojjimlebmjaaDoorSplit
import Derived.Test.YtjkojjimlebmjaaDoorJoin
import Derived.Test.YtjkojjimlebmjaaDoorExP
import Derived.Test.YtjkojjimlebmjaaDoorSome
import Derived.Laws.AppendOwnNone
namespace Go.Proofs.YtjkojjimlebmjaaDoor
set_option linter.unusedVariables false

/-- Points. -/
def isP (xs ys : List UInt8) : Prop := xs.length = ys.length ∧ xs.Nodup
theorem co_ok {xs ys : List UInt8} (h : isP xs ys) : co xs ys = lk xs ys xs.length ∧ coe xs ys = 0 := ⟨if_pos h, if_pos h⟩
theorem co_no {xs ys : List UInt8} (h : ¬ isP xs ys) : co xs ys = [] ∧ coe xs ys = 1 := ⟨if_neg h, if_neg h⟩
theorem co_len {xs ys : List UInt8} (h : isP xs ys) : (co xs ys).length = xs.length := by rw [(co_ok h).1, lk_length]
theorem co_at {xs ys : List UInt8} (h : isP xs ys) (i : Nat) (hi : i < xs.length) : hv (co xs ys) (xs.getD i 0) = ys.getD i 0 := by
  rw [(co_ok h).1]
  exact lk_hv xs ys h.2 xs.length (Nat.le_refl _) i hi
/-- A polynomial with at most as many coefficients that has these values is this one. -/
theorem co_only {xs ys m : List UInt8} (h : isP xs ys) (hm : m.length ≤ xs.length) (hv' : ∀ i, i < xs.length → hv m (xs.getD i 0) = ys.getD i 0) (i : Nat) (hi : i < xs.length) : (co xs ys).getD i 0 = m.getD i 0 := by
  refine unique (xs := xs) (co_len h) hm h.2 (fun x hx => ?_) i (by rw [co_len h]; exact hi)
  obtain ⟨j, hj, rfl⟩ := List.mem_iff_getElem.1 hx
  have e : xs[j] = xs.getD j 0 := by rw [List.getD_eq_getElem?_getD, List.getElem?_eq_getElem hj]; rfl
  rw [e, co_at h j hj, hv' j hj]
/-- Whether the first k values are those of a polynomial. -/
def smk (xs ys m : List UInt8) : Nat → Bool
  | 0 => decide (m.length ≤ xs.length)
  | k + 1 => smk xs ys m k && decide (hv m (xs.getD k 0) = ys.getD k 0)
theorem smk_all {xs ys m : List UInt8} : ∀ {k}, smk xs ys m k = true → m.length ≤ xs.length ∧ ∀ i, i < k → hv m (xs.getD i 0) = ys.getD i 0
  | 0, h => ⟨by simpa [smk] using h, fun i hi => by omega⟩
  | k + 1, h => by
    simp only [smk, Bool.and_eq_true, decide_eq_true_eq] at h
    have ih := smk_all h.1
    refine ⟨ih.1, fun i hi => ?_⟩
    by_cases e : i = k
    · subst e; exact h.2
    · exact ih.2 i (by omega)
/-- The first k values. -/
def vals (l xs : List UInt8) (k : Nat) : List UInt8 := (xs.take k).map (hv l)
theorem vals_succ {l xs : List UInt8} {k : Nat} (h : k < xs.length) : vals l xs (k + 1) = vals l xs k ++ [hv l (xs.getD k 0)] := by
  unfold vals
  rw [List.take_succ_eq_append_getElem h, List.map_append, List.getD_eq_getElem?_getD, List.getElem?_eq_getElem h]
  rfl
theorem vals_length {l xs : List UInt8} {k : Nat} (h : k ≤ xs.length) : (vals l xs k).length = k := by
  unfold vals
  rw [List.length_map, List.length_take]
  omega
theorem vals_at {l xs : List UInt8} {i : Nat} (h : i < xs.length) : (vals l xs xs.length).getD i 0 = hv l (xs.getD i 0) := by
  unfold vals
  rw [List.take_length, List.getD_eq_getElem?_getD, List.getD_eq_getElem?_getD, List.getElem?_map, List.getElem?_eq_getElem h]
  rfl

theorem selk_sub (l : List Shr) (m : Nat) : ∀ k, (selk l m k).Sublist (l.take k)
  | 0 => by simp [selk]
  | k + 1 => by
    simp only [selk]
    rw [List.take_add_one]
    refine List.Sublist.append (selk_sub l m k) ?_
    split
    · exact List.Sublist.refl _
    · exact List.nil_sublist _
theorem sel_sub (l : List Shr) (m : UInt8) : (sel l m).Sublist l := by
  have := selk_sub l m.toNat l.length
  rwa [List.take_length] at this
theorem alkFrom_of {o : Shr} : ∀ {l : List Shr} {b : Int}, (∀ s ∈ l, same1 s o = true ∧ b < s.ix ∧ s.ix ≤ s.mn) → l.Pairwise (fun a c => a.ix < c.ix) → alkFrom o b l = true
  | [], _, _, _ => rfl
  | a :: l, b, h, hp => by
    rw [List.pairwise_cons] at hp
    have ha := h a (by simp)
    simp only [alkFrom, Bool.and_eq_true, decide_eq_true_eq]
    exact ⟨⟨⟨ha.1, ha.2.1⟩, ha.2.2⟩, alkFrom_of (fun s hs => ⟨(h s (by simp [hs])).1, hp.1 s hs, (h s (by simp [hs])).2.2⟩) hp.2⟩

/-- Split has accepted: what the numbers are. -/
theorem spe_zero {s coins : List UInt8} {ep th mn : Int} (h : spe s ep th mn coins = 0) : s.length ≤ 64 ∧ (1 ≤ th ∧ th ≤ mn ∧ mn ≤ 8) ∧ (0 ≤ ep ∧ ep ≤ 1048576) ∧ coins.length = s.length * (th.toNat - 1) := by
  unfold spe at h
  split at h
  · omega
  · split at h
    · omega
    · split at h
      · omega
      · split at h
        · omega
        · rename_i h1 h2 h3 h4
          exact ⟨by omega, Decidable.not_not.1 h2, Decidable.not_not.1 h3, Decidable.not_not.1 h4⟩
theorem spl_eq {s coins : List UInt8} {ep th mn : Int} (h : spe s ep th mn coins = 0) : spl s ep th mn coins = (List.range mn.toNat).map (psh ep th mn (pols s coins (th.toNat - 1))) := if_pos h
/-- A share of a split secret. -/
theorem spl_mem {s coins : List UInt8} {ep th mn : Int} (h : spe s ep th mn coins = 0) {u : Shr} (hu : u ∈ spl s ep th mn coins) : ∃ i, i < mn.toNat ∧ u = psh ep th mn (pols s coins (th.toNat - 1)) i := by
  rw [spl_eq h] at hu
  obtain ⟨i, hi, rfl⟩ := List.mem_map.1 hu
  exact ⟨i, List.mem_range.1 hi, rfl⟩
theorem spl_pair {s coins : List UInt8} {ep th mn : Int} (h : spe s ep th mn coins = 0) : (spl s ep th mn coins).Pairwise (fun a c => a.ix < c.ix) := by
  rw [spl_eq h, List.pairwise_map]
  refine List.Pairwise.imp ?_ List.pairwise_lt_range
  intro a b hab
  show ((a + 1 : Nat) : Int) < ((b + 1 : Nat) : Int)
  omega
/-- Some shares of a split secret are alike, and of one epoch. -/
theorem sub_chk {s coins : List UInt8} {ep th mn : Int} (h : spe s ep th mn coins = 0) {x : List Shr} (hx : x.Sublist (spl s ep th mn coins)) (hp : 0 < x.length) : chk x = 0 := by
  obtain ⟨h1, h2, h3, h4⟩ := spe_zero h
  obtain ⟨a, l, rfl⟩ : ∃ a l, x = a :: l := by
    cases x with
    | nil => simp at hp
    | cons a l => exact ⟨a, l, rfl⟩
  have hm : ∀ u ∈ a :: l, u.ep = ep ∧ u.th = th ∧ u.mn = mn ∧ u.data.length = s.length ∧ 0 < u.ix ∧ u.ix ≤ mn := fun u hu => by
    obtain ⟨i, hi, rfl⟩ := spl_mem h (hx.subset hu)
    refine ⟨rfl, rfl, rfl, by simp [psh, pols], ?_, ?_⟩
    · show (0 : Int) < ((i + 1 : Nat) : Int)
      omega
    · show ((i + 1 : Nat) : Int) ≤ mn
      omega
  have ha := hm a (by simp)
  have hal : alk (a :: l) = true := by
    rw [alk_cons (s0 := a) rfl]
    simp only [Bool.and_eq_true, decide_eq_true_eq]
    refine ⟨⟨by rw [ha.2.1, ha.2.2.1]; exact h2, by rw [ha.2.2.2.1]; exact h1⟩, alkFrom_of (fun u hu => ?_) ((spl_pair h).sublist hx)⟩
    have hu' := hm u hu
    refine ⟨?_, hu'.2.2.2.2.1, by rw [hu'.2.2.1]; exact hu'.2.2.2.2.2⟩
    unfold same1
    rw [decide_eq_true_eq, hu'.2.1, hu'.2.2.1, hu'.2.2.2.1, ha.2.1, ha.2.2.1, ha.2.2.2.1]
    exact ⟨rfl, rfl, rfl⟩
  have hon : onee (a :: l) = true := by
    rw [onee_cons (s0 := a) rfl, Bool.and_eq_true, decide_eq_true_eq, ha.1]
    refine ⟨?_, h3⟩
    unfold sameEp
    rw [List.all_eq_true]
    intro u hu
    simpa using (hm u hu).1
  unfold chk
  rw [hal, hon]
  rfl
theorem head_th {s coins : List UInt8} {ep th mn : Int} (h : spe s ep th mn coins = 0) {x : List Shr} (hx : x.Sublist (spl s ep th mn coins)) (hp : 0 < x.length) : ∃ a, x[0]? = some a ∧ a.th = th ∧ a.data.length = s.length := by
  refine ⟨x[0], List.getElem?_eq_getElem hp, ?_⟩
  obtain ⟨i, hi, e⟩ := spl_mem h (hx.subset (List.getElem_mem hp))
  rw [e]
  exact ⟨rfl, by simp [psh, pols]⟩
theorem take_getD {α : Type} {l : List α} {t i : Nat} (h : i < t) : (l.take t)[i]? = l[i]? := by
  rw [List.getElem?_take, if_pos h]
/-- Enough shares lead back. -/
theorem sub_join {s coins : List UInt8} {ep th mn : Int} (h : spe s ep th mn coins = 0) {x : List Shr} (hx : x.Sublist (spl s ep th mn coins)) (ht : th ≤ x.length) : jne x = 0 ∧ jn x = s := by
  obtain ⟨h1, h2, h3, h4⟩ := spe_zero h
  have hp : 0 < x.length := by omega
  obtain ⟨a, ha, hat, had⟩ := head_th h hx hp
  have hj : jne x = 0 := by
    unfold jne
    rw [if_neg (fun hh => hh (sub_chk h hx hp)), ha]
    show (if (x.length : Int) < a.th then (60 : Int) else 0) = 0
    rw [hat, if_neg (by omega)]
  refine ⟨hj, ?_⟩
  obtain ⟨t, hte⟩ : ∃ t : Nat, th = (t : Int) := ⟨th.toNat, by omega⟩
  have hf : fsts x = x.take t := by
    unfold fsts
    rw [ha]
    show x.take a.th.toNat = _
    rw [hat, hte]
    rfl
  unfold jn
  rw [if_pos hj, hf, ha]
  show ((List.range a.data.length).map fun place => hv (co (idxs (x.take t)) (colm (x.take t) place)) 0) = s
  rw [had]
  apply List.ext_getElem?
  intro p
  by_cases hpl : p < s.length
  · rw [List.getElem?_map, List.getElem?_range hpl, List.getElem?_eq_getElem hpl]
    show some _ = some _
    congr 1
    have hlt : (x.take t).length = t := by rw [List.length_take]; omega
    have hxs : (x.take t).Sublist (spl s ep th mn coins) := (List.take_sublist _ _).trans hx
    have hchk := chk_zero (sub_chk h hxs (by omega))
    obtain ⟨s0, h0⟩ := alk_pos hchk.1
    have hnd : (idxs (x.take t)).Nodup := by
      have := places_nodup hchk.1 0 (by omega)
      rw [List.nodup_append] at this
      exact this.1
    have hP : isP (idxs (x.take t)) (colm (x.take t) p) := ⟨by rw [idxs_length, colm_length], hnd⟩
    have hpc := pcf_length h4 hpl
    have hone := co_only (m := pcf s coins (th.toNat - 1) p) hP (by rw [idxs_length, hlt, hpc]; omega) (fun i hi => by
      rw [idxs_length, hlt] at hi
      have hg : (x.take t)[i]? = some ((x.take t)[i]'(by omega)) := List.getElem?_eq_getElem _
      obtain ⟨q, hq, e⟩ := spl_mem h (hxs.subset (List.mem_of_getElem? hg))
      have e1 : (idxs (x.take t)).getD i 0 = UInt8.ofNat (q + 1) := by
        unfold idxs
        rw [List.getD_eq_getElem?_getD, List.getElem?_map, List.getElem?_range (by omega)]
        simp only [Option.map_some, Option.getD_some]
        rw [hg, e]
        show UInt8.ofNat (((q + 1 : Nat) : Int).toNat) = _
        rfl
      have e2 : (colm (x.take t) p).getD i 0 = hv (pcf s coins (th.toNat - 1) p) (UInt8.ofNat (q + 1)) := by
        unfold colm
        rw [List.getD_eq_getElem?_getD, List.getElem?_map, List.getElem?_range (by omega)]
        simp only [Option.map_some, Option.getD_some]
        rw [hg, e]
        show ((psh ep th mn (pols s coins (th.toNat - 1)) q).data).getD p 0 = _
        simp only [psh, pols_length]
        rw [List.getD_eq_getElem?_getD, List.getElem?_map, List.getElem?_range hpl]
        show hv ((pols s coins (th.toNat - 1)).getD p []) _ = _
        unfold pols
        rw [List.getD_eq_getElem?_getD, List.getElem?_map, List.getElem?_range hpl]
        rfl
      rw [e1, e2])
    have hz := hone 0 (by rw [idxs_length, hlt]; omega)
    have hv0 : ∀ l : List UInt8, hv l 0 = l.getD 0 0 := fun l => by
      cases l with
      | nil => rfl
      | cons c l => simp [hv, zero_gm]
    show hv (co (idxs (x.take t)) (colm (x.take t) p)) 0 = s[p]
    rw [hv0, hz]
    show s.getD p 0 = s[p]
    rw [List.getD_eq_getElem?_getD, List.getElem?_eq_getElem hpl]
    rfl
  · rw [List.getElem?_eq_none (by simp; omega), List.getElem?_eq_none (by omega)]

/-! append of shares, in regions that draw their order. -/
open Go.RowKit
theorem step_append_five {base : Nat} {w : World} {ops : Array Oper} {o : Oper} {a : Act} {K : Act → World → Prop} {Q : Exit → Act → World → Prop} {E : Prop} (hgd : o.guard = none) (s x : Operand)
    (ho : o.op = .call { callee := .builtin .append, args := #[s, x], argTypes := #[22, 22] })
    (v : Value) (n : Nat) (xs : List Value) (hs : a.eval s = v) (hown : w.ownsRow base 36 5 v n xs)
    (ad : Addr) (m c : Nat) (news : List Value) (hx : a.eval x = .slice (some ad) m c) (hl : news.length = m * 5) (hn : ∀ j u, news[j]? = some u → w.cell? (ad.add j) = some u) (h1 : ∀ u ∈ news, u.oneCell' = true) (N : Nat) (hN : n + m = N) (hb : N ≤ 1000000) (hbase : base ≤ w.heap.size)
    (h : ∀ A' c' w', w'.ownsRow base 36 5 (.slice A' N c') N (xs ++ news) → w.grownBy w' v.ownBlock → K (a.put o.dst (.slice A' N c')) w') :
    if Region.wanted o (yielded ops a.tmps) = true then Oper.wp Tryd.prog o a w K Q else E := by
  have hw : Region.wanted o (yielded ops a.tmps) = true := by simp [Region.wanted, hgd]
  rw [if_pos hw]
  subst hN
  obtain ⟨i0, hi0, hz0, hz1, hz2⟩ := info_parts sh_info
  refine wp_append_own w s x 22 ho base 36 i0 (.agg #[.int .i64 0, .int .i64 0, .int .i64 0, .int .i64 0, .slice none 0 0]) 5 56 Tryd.underlying22 hi0 hz0 hz1 hz2 rfl (by decide) v n xs hs hown ad m c news hx hl hn h1 (le_maxLen (by omega)) (by omega) hbase ?_
  intro v' w' ho' hg' _
  obtain ⟨A1, c1, rfl⟩ := own_form ho'
  exact h A1 c1 w' ho' hg'

theorem ss_at' {W : World} {b off c : Nat} {l : List Shr} (h : SS W (some ⟨b, off, none⟩) l c) (i : Nat) (s : Shr) (hi : l[i]? = some s) : ShAt W b (off + i * 5) s := by
  obtain ⟨b', off', e, _, hs⟩ := h.1 (by have := (List.getElem?_eq_some_iff.1 hi).1; omega)
  cases e
  exact hs i s hi
/-- The cells of a slice of shares, block by block. -/
theorem SS.blocks {w : World} {b off c : Nat} {l : List Shr} (h : SS w (some ⟨b, off, none⟩) l c) : ∃ bs : List (List Value), bs.length = l.length ∧ (∀ k ∈ bs, k.length = 5) ∧ (∀ u ∈ bs.flatten, u.oneCell' = true) ∧ (∀ (i : Nat) (s : Shr), l[i]? = some s → ∃ D d, bs[i]? = some (shc s D d) ∧ Sl w D s.data d) ∧
    ∀ j u, bs.flatten[j]? = some u → w.cell? ((⟨b, off, none⟩ : Addr).add j) = some u := by
  have hex : ∀ i, ∃ p : Option Addr × Nat, ∀ s, l[i]? = some s → Sl w p.1 s.data p.2 ∧ ∀ j, j < 5 → w.cell? ⟨b, off + i * 5 + j, none⟩ = (shc s p.1 p.2)[j]? := by
    intro i
    cases hi : l[i]? with
    | none => exact ⟨(none, 0), fun s hs => by cases hs⟩
    | some s =>
      obtain ⟨D, d, h0, h1, h2, h3, h4, hs⟩ := ss_at' h i s hi
      refine ⟨(D, d), fun s' e => ?_⟩
      cases e
      refine ⟨hs, fun j hj => ?_⟩
      match j, hj with
      | 0, _ => exact h0
      | 1, _ => exact h1
      | 2, _ => exact h2
      | 3, _ => exact h3
      | 4, _ => exact h4
      | j + 5, hj => omega
  obtain ⟨p, hp⟩ : ∃ p : Nat → Option Addr × Nat, ∀ i s, l[i]? = some s → Sl w (p i).1 s.data (p i).2 ∧ ∀ j, j < 5 → w.cell? ⟨b, off + i * 5 + j, none⟩ = (shc s (p i).1 (p i).2)[j]? := ⟨fun i => Classical.choose (hex i), fun i => Classical.choose_spec (hex i)⟩
  have h5 : ∀ k ∈ (List.range l.length).map (fun i => shc ((l[i]?).getD ⟨0, 0, 0, 0, []⟩) (p i).1 (p i).2), k.length = 5 := fun k hk => by
    obtain ⟨i, _, rfl⟩ := List.mem_map.1 hk
    rfl
  have hget : ∀ (i : Nat) (s : Shr), l[i]? = some s → ((List.range l.length).map (fun i => shc ((l[i]?).getD ⟨0, 0, 0, 0, []⟩) (p i).1 (p i).2))[i]? = some (shc s (p i).1 (p i).2) := fun i s hi => by
    have hil := (List.getElem?_eq_some_iff.1 hi).1
    rw [List.getElem?_map, List.getElem?_range hil]
    simp only [Option.map_some, hi, Option.getD_some]
  refine ⟨_, by simp, h5, fun u hu => ?_, fun i s hi => ⟨_, _, hget i s hi, (hp i s hi).1⟩, fun j u hj => ?_⟩
  · obtain ⟨k, hk, hu⟩ := List.mem_flatten.1 hu
    obtain ⟨i, _, rfl⟩ := List.mem_map.1 hk
    exact shc_one _ _ _ u hu
  · have hjl : j < l.length * 5 := by
      have h1 := (List.getElem?_eq_some_iff.1 hj).1
      rw [flat5 _ h5] at h1
      simpa using h1
    have hi : l[j / 5]? = some (l[j / 5]'(by omega)) := List.getElem?_eq_getElem _
    have h1 := flat5_at _ h5 (j / 5) _ (j % 5) (hget _ _ hi) (by omega)
    rw [show j / 5 * 5 + j % 5 = j by omega, hj] at h1
    have h2 := (hp _ _ hi).2 (j % 5) (by omega)
    rw [add_off, show off + j = off + j / 5 * 5 + j % 5 by omega, h2, ← h1]

theorem alk_pair {o : Shr} : ∀ {l : List Shr} {b : Int}, alkFrom o b l = true → l.Pairwise (fun a c => a.ix < c.ix)
  | [], _, _ => List.Pairwise.nil
  | a :: l, b, h => by
    simp only [alkFrom, Bool.and_eq_true, decide_eq_true_eq] at h
    exact List.pairwise_cons.2 ⟨fun s hs => (alkFrom_mem h.2 s hs).2.1, alk_pair h.2⟩
theorem jne_unsorted {l : List Shr} (h : ¬ l.Pairwise (fun a c => a.ix < c.ix)) : jne l = 60 ∧ jn l = [] := by
  have ha : alk l = false := by
    cases hal : alk l with
    | false => rfl
    | true =>
      obtain ⟨s0, h0⟩ := alk_pos hal
      rw [alk_cons h0, Bool.and_eq_true] at hal
      exact absurd (alk_pair hal.2) h
  have hc : chk l = 60 := by
    unfold chk
    rw [if_pos ha]
  have hj : jne l = 60 := by
    unfold jne
    rw [hc]
    rfl
  refine ⟨hj, ?_⟩
  unfold jn
  rw [hj]
  rfl

/-- Join of enough shares of a split secret. -/
theorem join_sub {s coins : List UInt8} {ep th mn : Int} (h : spe s ep th mn coins = 0) {Z : List Shr} (hZ : Z.Sublist (spl s ep th mn coins)) (ht : th ≤ Z.length) (h8 : Z.length ≤ 1000000) (A : Option Addr) (c n p : Nat) (hn : s.length = n) (hp : Z.length = p) (w1 : World) (hK : KT w1) (hs : SS w1 A Z c) :
    Calls Tryd.prog 11 #[.slice A p c] w1 fun e w' => ∃ A' c', e = .returned (.tuple #[.slice A' n c', .int .i64 0]) ∧ Sl w' A' s c' ∧ Below w1.heap.size w1 w' := by
  have := join_any A c Z w1 hK hs h8
  unfold JoinPost at this
  rw [(sub_join h hZ ht).1, (sub_join h hZ ht).2, hn, hp] at this
  exact this
/-- Join of shares that are not in order. -/
theorem join_not {Z : List Shr} (h : ¬ Z.Pairwise (fun a c => a.ix < c.ix)) (h8 : Z.length ≤ 1000000) (A : Option Addr) (c p : Nat) (hp : Z.length = p) (w1 : World) (hK : KT w1) (hs : SS w1 A Z c) :
    Calls Tryd.prog 11 #[.slice A p c] w1 fun e w' => ∃ A' c', e = .returned (.tuple #[.slice A' 0 c', .int .i64 60]) ∧ Below w1.heap.size w1 w' := by
  have := join_any A c Z w1 hK hs h8
  unfold JoinPost at this
  rw [(jne_unsorted h).1, (jne_unsorted h).2, hp] at this
  refine this.mono ?_
  rintro e w' ⟨A', c', he, _, hb⟩
  exact ⟨A', c', he, hb⟩
theorem dup_not {l : List Shr} {u : Shr} (hu : u ∈ l) : ¬ (l ++ [u]).Pairwise (fun a c => a.ix < c.ix) := fun h => by
  have := (List.pairwise_append.1 h).2.2 u hu u (by simp)
  omega
theorem swap_not {l : List Shr} {a b : Shr} (h : l.Pairwise (fun a c => a.ix < c.ix)) (h0 : l[0]? = some a) (h1 : l[1]? = some b) : ¬ [b, a].Pairwise (fun a c => a.ix < c.ix) := fun hs => by
  match l, h0, h1 with
  | x :: y :: l, h0, h1 =>
    simp at h0 h1
    subst h0 h1
    have e1 := (List.pairwise_cons.1 h).1 y (by simp)
    have e2 := (List.pairwise_cons.1 hs).1 x (by simp)
    omega
end Go.Proofs.YtjkojjimlebmjaaDoor
