/- SharesRefresh: LawHide's lemmas, Sumq, Mixq, OwT and LawRef in one text (for the limit of files). -/
import Derived.Test.YtmchnkfnnodecaaDoorAnyP
import Derived.Test.YtmchnkfnnodecaaDoorExplain
import Derived.Test.YtmchnkfnnodecaaDoorRef
import Derived.Test.YtmchnkfnnodecaaDoorQl
import Derived.Test.YtmchnkfnnodecaaDoorSum
import Derived.Test.YtmchnkfnnodecaaDoorSane
import Derived.Lib.QuietBelow
import Derived.Deep.QuietTactic
import Derived.Deep.AppendLies
import Derived.Deep.RegionHeld3
import Derived.Deep.Cut
import Derived.Deep.CutRange
import Derived.Deep.CutBlock
import Derived.LoopTactic
namespace Go.Proofs.YtmchnkfnnodecaaDoor
section
open Go.RowKit Go.Sort
set_option linter.unusedVariables false

set_option maxHeartbeats 2000000 in
set_option maxRecDepth 100000 in
theorem samesh_any (s : Shr) (A1 A2 : Option Addr) (c1 c2 : Nat) (w : World) (h1 : Sl w A1 s.data c1) (h2 : Sl w A2 s.data c2) : Calls Tryd.prog 36 #[shv s A1 c1, shv s A2 c2] w fun e w' => e = .returned (.bool true) ∧ Below w.heap.size w w' := by
  have hb0 : Below w.heap.size w ((w.alloc (.cells #[.int .i64 s.ep, .int .i64 s.ix, .int .i64 s.th, .int .i64 s.mn, .slice A1 s.data.length c1] 41)).alloc (.cells #[.int .i64 s.ep, .int .i64 s.ix, .int .i64 s.th, .int .i64 s.mn, .slice A2 s.data.length c2] 41)) :=
    ((Below.refl _ w).alloc (Nat.le_refl _) _).alloc (by simp) _
  have e1 := sl_str (h1.up hb0) rfl
  have e2 := sl_str (h2.up hb0) rfl
  have HB := Lib.hid hb0
  clear hb0 h1 h2
  unfold shv
  generalize (ByteArray.mk s.data.toArray) = str at *
  generalize s.data.length = n at *
  go_enter Tryd.func36, Tryd.ntmps36
  go_wp2_with fail
  go_ret
  exact ⟨rfl, HB.out⟩

set_option maxHeartbeats 2000000 in
set_option maxRecDepth 100000 in
theorem sames_any (A A2 : Option Addr) (c c2 n : Nat) (l : List Shr) (w : World) (hS : SS w A l c) (hS2 : SS w A2 l c2) (hn : l.length = n) (hl : n ≤ 1000000) :
    Calls Tryd.prog 16 #[.slice A n c, .slice A2 n c2] w fun e w' => e = .returned (.bool true) ∧ Below w.heap.size w w' := by
  have HS := Lib.hid (And.intro hS hS2)
  have HN := Lib.hid hn
  clear hS hS2 hn
  go_enter Tryd.func16, Tryd.ntmps16
  go_wp2_with fail
  go_loopw [5] (fun i wr => ∃ k : Nat, k ≤ n ∧ i = .int .i64 k ∧ Below w.heap.size w wr) (fun i _ => n - (intOf i).toNat)
  case atStart => exact ⟨0, Nat.zero_le _, rfl, Below.refl _ _⟩
  case round =>
    obtain ⟨k, hk, rfl, hbw⟩ := hrel
    have HBW := Lib.hid hbw
    by_cases hlt : k < n
    · obtain ⟨b, off, rfl, hb, hat⟩ := HS.out.1.1 (by rw [HN.out]; omega)
      obtain ⟨b2, off2, rfl, hb2, hat2⟩ := HS.out.2.1 (by rw [HN.out]; omega)
      obtain ⟨s, hs⟩ : ∃ s, l[k]? = some s := ⟨l[k]'(by rw [HN.out]; exact hlt), List.getElem?_eq_getElem _⟩
      obtain ⟨D1, d1, a0, a1, a2, a3, a4, aD⟩ := (hat k s hs).up hb hbw
      obtain ⟨D2, d2, e0, e1, e2, e3, e4, eD⟩ := (hat2 k s hs).up hb2 hbw
      have hsn := fun W (h : Below wr.heap.size wr W) => samesh_any s D1 D2 d1 d2 W (aD.up h) (eD.up h)
      unfold shv at hsn
      have HSN := Lib.hid hsn
      have g0 := fun d os => cell_regrown a0 d os
      have g1 := fun d os => cell_regrown a1 d os
      have g2 := fun d os => cell_regrown a2 d os
      have g3 := fun d os => cell_regrown a3 d os
      have g4 := fun d os => cell_regrown a4 d os
      have f0 := fun d os => cell_regrown e0 d os
      have f1 := fun d os => cell_regrown e1 d os
      have f2 := fun d os => cell_regrown e2 d os
      have f3 := fun d os => cell_regrown e3 d os
      have f4 := fun d os => cell_regrown e4 d os
      have i1 : (0 : Int) ≤ (k : Int) := by omega
      have i2 : (k : Int) < (n : Int) := by omega
      clear a0 a1 a2 a3 a4 e0 e1 e2 e3 e4 aD eD hsn hat hat2 hs hbw
      generalize s.data.length = sl at *
      go_wp2_with fail
      refine wp_region_quiet_below (by kernel_rfl) (by kernel_rfl) ?_
      repeat (quiet_step ((go_at_call 36; exact Calls.regrownAll HSN.out _ _)))
      refine wpQuiet_nil ?_
      intro w6 hw'
      have hb6 : Below wr.heap.size wr w6 := by
        obtain ⟨p, rfl⟩ := hw'
        exact below_regrown wr p.d p.os
      have B6 := Lib.hid (HBW.out.trans (hb6.mono HBW.out.size))
      clear hw' hb6 g0 g1 g2 g3 g4 f0 f1 f2 f3 f4 HSN
      go_wp2_with fail
      go_roundw
      case rel => exact ⟨k + 1, by omega, by go_num, B6.out⟩
      case measure => simp [intOf]; omega
    · obtain rfl : k = n := by omega
      clear hbw
      go_wp2_with fail
      go_ret
      exact ⟨rfl, HBW.out⟩
end
section
set_option linter.unusedVariables false

theorem flat_row {α : Type} (e : Nat) : ∀ (ls : List (List α)), (∀ l ∈ ls, l.length = e) → ∀ p r, ls[p]? = some r → (ls.flatten.drop (p * e)).take e = r
  | [], _, p, r, h => by simp at h
  | l :: ls, h, 0, r, hr => by
    simp at hr
    subst hr
    have := h l (by simp)
    rw [Nat.zero_mul, List.drop_zero, List.flatten_cons, List.take_append_of_le_length (by omega), ← this, List.take_length]
  | l :: ls, h, p + 1, r, hr => by
    have hl := h l (by simp)
    have ih := flat_row e ls (fun x hx => h x (by simp [hx])) p r (by simpa using hr)
    rw [List.flatten_cons, Nat.add_mul, Nat.one_mul, Nat.add_comm, ← List.drop_drop, ← hl, List.drop_left, hl]
    exact ih
theorem flat_len {α : Type} (e : Nat) : ∀ (ls : List (List α)), (∀ l ∈ ls, l.length = e) → ls.flatten.length = ls.length * e
  | [], _ => by simp
  | l :: ls, h => by
    rw [List.flatten_cons, List.length_append, flat_len e ls (fun x hx => h x (by simp [hx])), h l (by simp), List.length_cons, Nat.add_mul]
    omega
theorem hv_zero (l : List UInt8) : hv l 0 = l.getD 0 0 := by
  cases l with
  | nil => rfl
  | cons c l => simp [hv, zero_gm]

/-- The points through which Explain's polynomial goes. -/
def exp_ (X : List Shr) (s : List UInt8) (q p : Nat) : List UInt8 := co (idxs X ++ oths q) (colm X p ++ othv (s.getD p 0) q)
theorem exp_isP {X : List Shr} (h : alk X = true) (s : List UInt8) (q p : Nat) (hq : 0 < q) (hq8 : q ≤ 8) : isP (idxs X ++ oths q) (colm X p ++ othv (s.getD p 0) q) :=
  ⟨by rw [List.length_append, List.length_append, idxs_length, oths_length, colm_length, othv_length _ _ hq], places_nodup h q hq8⟩
theorem exp_zero {X : List Shr} (h : alk X = true) (s : List UInt8) (q p : Nat) (hq : 0 < q) (hq8 : q ≤ 8) : (exp_ X s q p).getD 0 0 = s.getD p 0 := by
  have hP := exp_isP h s q p hq hq8
  have hl : (idxs X ++ oths q).length = X.length + q := by rw [List.length_append, idxs_length, oths_length]
  have h1 := co_at hP X.length (by omega)
  have e1 : (idxs X ++ oths q).getD X.length 0 = 0 := by
    rw [List.getD_eq_getElem?_getD, List.getElem?_append_right (by rw [idxs_length]; exact Nat.le_refl _), idxs_length, Nat.sub_self]
    unfold oths
    rw [List.getElem?_map, List.getElem?_range hq]
    rfl
  have e2 : (colm X p ++ othv (s.getD p 0) q).getD X.length 0 = s.getD p 0 := by
    rw [List.getD_eq_getElem?_getD, List.getElem?_append_right (by rw [colm_length]; exact Nat.le_refl _), colm_length, Nat.sub_self]
    rfl
  rw [e1, e2, hv_zero] at h1
  exact h1
theorem exp_len {X : List Shr} (h : alk X = true) (s : List UInt8) (q p : Nat) (hq : 0 < q) (hq8 : q ≤ 8) : (exp_ X s q p).length = X.length + q := by
  unfold exp_
  rw [co_len (exp_isP h s q p hq hq8), List.length_append, idxs_length, oths_length]
theorem exp_at {X : List Shr} (h : alk X = true) (s : List UInt8) (q p : Nat) (hq : 0 < q) (hq8 : q ≤ 8) {u : Shr} (hu : u ∈ X) : hv (exp_ X s q p) (ixb u) = u.data.getD p 0 := by
  obtain ⟨i, hi, e⟩ := List.mem_iff_getElem.1 hu
  have hg : X[i]? = some u := by rw [List.getElem?_eq_getElem hi, e]
  have hP := exp_isP h s q p hq hq8
  have h1 := co_at hP i (by rw [List.length_append, idxs_length]; omega)
  have e1 : (idxs X ++ oths q).getD i 0 = ixb u := by
    rw [List.getD_eq_getElem?_getD, List.getElem?_append_left (by rw [idxs_length]; exact hi)]
    unfold idxs
    rw [List.getElem?_map, List.getElem?_range hi]
    simp only [Option.map_some, Option.getD_some]
    rw [hg]
    rfl
  have e2 : (colm X p ++ othv (s.getD p 0) q).getD i 0 = u.data.getD p 0 := by
    rw [List.getD_eq_getElem?_getD, List.getElem?_append_left (by rw [colm_length]; exact hi)]
    unfold colm
    rw [List.getElem?_map, List.getElem?_range hi]
    simp only [Option.map_some, Option.getD_some]
    rw [hg]
    rfl
  rw [e1, e2] at h1
  exact h1
/-- The polynomial of a byte with the explaining coins is the one through the points. -/
theorem pcf_exp {X : List Shr} (h : alk X = true) (s : List UInt8) (q m p : Nat) (hq : 0 < q) (hq8 : q ≤ 8) (hX : 0 < X.length) (hp : p < m) : pcf s (((List.range m).map (exc X s q)).flatten) (X.length + q - 1) p = exp_ X s q p := by
  have hall : ∀ l ∈ (List.range m).map (exc X s q), l.length = X.length + q - 1 := fun l hl => by
    obtain ⟨i, _, rfl⟩ := List.mem_map.1 hl
    exact exc_length h hq hq8
  unfold pcf
  rw [flat_row _ _ hall p (exc X s q p) (by rw [List.getElem?_map, List.getElem?_range hp]; rfl)]
  have hl := exp_len h s q p hq hq8
  have hz := exp_zero h s q p hq hq8
  show s.getD p 0 :: (exp_ X s q p).drop 1 = exp_ X s q p
  cases hE : exp_ X s q p with
  | nil => rw [hE] at hl; simp at hl; omega
  | cons a l =>
    rw [hE] at hz
    simp at hz
    simp [hz]

theorem selk_congr {l l' : List Shr} {m : Nat} : ∀ {k : Nat}, (∀ i, i < k → i < 8 → m.testBit i = true → l[i]? = l'[i]?) → selk l m k = selk l' m k
  | 0, _ => rfl
  | k + 1, h => by
    simp only [selk]
    rw [selk_congr (fun i hi => h i (by omega))]
    by_cases hb : k < 8 ∧ m.testBit k = true
    · rw [if_pos hb, if_pos hb, h k (by omega) hb.1 hb.2]
    · rw [if_neg hb, if_neg hb]
theorem selk_mem {l : List Shr} {m : Nat} {i : Nat} {u : Shr} (h8 : i < 8) (ht : m.testBit i = true) (hi : l[i]? = some u) : ∀ {k : Nat}, i < k → u ∈ selk l m k
  | 0, h => by omega
  | k + 1, h => by
    simp only [selk, List.mem_append]
    by_cases e : i = k
    · subst e
      right
      rw [if_pos ⟨h8, ht⟩, hi]
      simp
    · left
      exact selk_mem h8 ht hi (by omega)

theorem spl_get {s coins : List UInt8} {ep th mn : Int} (h : spe s ep th mn coins = 0) {i : Nat} (hi : i < mn.toNat) : (spl s ep th mn coins)[i]? = some (psh ep th mn (pols s coins (th.toNat - 1)) i) := by
  rw [spl_eq h, List.getElem?_map, List.getElem?_range hi]
  rfl
theorem pols_get {s coins : List UInt8} {e p : Nat} (hp : p < s.length) : (pols s coins e).getD p [] = pcf s coins e p := by
  unfold pols
  rw [List.getD_eq_getElem?_getD, List.getElem?_map, List.getElem?_range hp]
  rfl

/-- Fewer shares than are needed: Join refuses them, and Explain's coins give the same shares back. -/
theorem hide_few {s other coins : List UInt8} {ep th mn : Int} (h : spe s ep th mn coins = 0) (ho : other.length = s.length) (mask : UInt8) (X : List Shr) (hX : sel (spl s ep th mn coins) mask = X) (hp : 0 < X.length) (hlt : (X.length : Int) < th) :
    (jne X = 60 ∧ jn X = []) ∧ (exe X other = 0 ∧ (ex X other).length ≤ 1000000) ∧ spe other ep th mn (ex X other) = 0 ∧ sel (spl other ep th mn (ex X other)) mask = X := by
  obtain ⟨h1, h2, h3, h4⟩ := spe_zero h
  have hsub : X.Sublist (spl s ep th mn coins) := hX ▸ sel_sub _ mask
  have hchk := sub_chk h hsub hp
  obtain ⟨a, ha, hath, had⟩ := head_th h hsub hp
  obtain ⟨hal, _⟩ := chk_zero hchk
  obtain ⟨t, hte⟩ : ∃ t : Nat, th = (t : Int) := ⟨th.toNat, by omega⟩
  have htt : th.toNat = t := by omega
  obtain ⟨q, hq⟩ : ∃ q, X.length + q = t := ⟨t - X.length, by omega⟩
  have hq0 : 0 < q := by omega
  have hq8 : q ≤ 8 := by omega
  have hthn : thn X = t := by unfold thn; rw [ha]; show a.th.toNat = t; rw [hath, htt]
  have hdln : dln X = s.length := by unfold dln; rw [ha]; exact had
  have hj : jne X = 60 := by
    unfold jne
    rw [if_neg (fun hh => hh hchk), ha]
    show (if (X.length : Int) < a.th then (60 : Int) else 0) = 60
    rw [hath, if_pos hlt]
  have hjn : jn X = [] := by unfold jn; rw [hj]; rfl
  have he : exe X other = 0 := by
    unfold exe
    rw [if_neg (fun hh => hh hchk), hthn, hdln, if_neg (by omega), if_neg (fun hh => hh ho)]
  have hex : ex X other = ((List.range s.length).map (exc X other q)).flatten := by
    unfold ex
    rw [if_pos he, hthn, hdln, show t - X.length = q by omega]
  have hall : ∀ l ∈ (List.range s.length).map (exc X other q), l.length = X.length + q - 1 := fun l hl => by
    obtain ⟨i, _, rfl⟩ := List.mem_map.1 hl
    exact exc_length hal hq0 hq8
  have hlen : (ex X other).length = other.length * (th.toNat - 1) := by
    rw [hex, flat_len _ _ hall, List.length_map, List.length_range, ho, htt, hq]
  have hsp : spe other ep th mn (ex X other) = 0 := by
    unfold spe
    rw [if_neg (by omega), if_neg (fun hh => hh h2), if_neg (fun hh => hh h3), if_neg (fun hh => hh hlen)]
  refine ⟨⟨hj, hjn⟩, ⟨he, ?_⟩, hsp, ?_⟩
  · rw [hlen, ho, htt]
    have := Nat.mul_le_mul h1 (show t - 1 ≤ 8 by omega)
    omega
  · have hl1 := (spl_facts h).1
    have hl2 := (spl_facts hsp).1
    refine Eq.trans ?_ hX
    unfold sel
    rw [hl1, hl2]
    refine selk_congr fun i hi h8 hb => ?_
    have hg1 := spl_get h hi
    have hg2 := spl_get hsp hi
    rw [hg1, hg2]
    congr 1
    have hmem : psh ep th mn (pols s coins (th.toNat - 1)) i ∈ X := by
      rw [← hX]
      unfold sel
      exact selk_mem h8 hb hg1 (by rw [hl1]; exact hi)
    obtain ⟨u, hu⟩ : ∃ u, psh ep th mn (pols s coins (th.toNat - 1)) i = u := ⟨_, rfl⟩
    have hud : u.data.length = s.length := by rw [← hu]; simp [psh, pols]
    have hui : ixb u = UInt8.ofNat (i + 1) := by rw [← hu]; rfl
    have hdat : (psh ep th mn (pols other (ex X other) (th.toNat - 1)) i).data = u.data := by
      apply List.ext_getElem?
      intro p
      by_cases hpl : p < s.length
      · simp only [psh, pols_length]
        rw [List.getElem?_map, List.getElem?_range (by omega)]
        show some (hv ((pols other (ex X other) (th.toNat - 1)).getD p []) (UInt8.ofNat (i + 1))) = _
        rw [pols_get (by omega), hex, htt, show t - 1 = X.length + q - 1 by omega, pcf_exp hal other q s.length p hq0 hq8 hp hpl, ← hui, exp_at hal other q p hq0 hq8 (hu ▸ hmem)]
        rw [List.getD_eq_getElem?_getD, List.getElem?_eq_getElem (by omega)]
        rfl
      · rw [List.getElem?_eq_none (by simp [psh, pols]; omega), List.getElem?_eq_none (by omega)]
    rw [hu]
    rw [← hu] at hdat ⊢
    unfold psh at hdat ⊢
    simp only at hdat
    rw [hdat]
end
open Go.RowKit
set_option linter.unusedVariables false
set_option linter.unusedVariables false

theorem hv_xor (x : UInt8) : ∀ (l v : List UInt8), l.length = v.length → hv (List.zipWith (· ^^^ ·) l v) x = hv l x ^^^ hv v x
  | [], [], _ => by simp [hv]
  | a :: l, b :: v, h => by
    show (a ^^^ b) ^^^ gm x (hv (List.zipWith (· ^^^ ·) l v) x) = (a ^^^ gm x (hv l x)) ^^^ (b ^^^ gm x (hv v x))
    rw [hv_xor x l v (by simpa using h), gm_right]
    exact x4 _ _ _ _
theorem sumb_zip {a b : List UInt8} (h : a.length = b.length) : sumb a b = List.zipWith (· ^^^ ·) a b := by
  apply List.ext_getElem
  · rw [sumb_length, List.length_zipWith]; omega
  · intro i h1 h2
    rw [sumb_length] at h1
    simp only [sumb, List.getElem_map, List.getElem_range, List.getElem_zipWith]
    rw [List.getD_eq_getElem?_getD, List.getD_eq_getElem?_getD, List.getElem?_eq_getElem h1, List.getElem?_eq_getElem (by omega : i < b.length)]
    rfl
theorem sumb_getD {a b : List UInt8} (h : a.length = b.length) (i : Nat) : (sumb a b).getD i 0 = a.getD i 0 ^^^ b.getD i 0 := by
  rw [sumb_zip h]
  simp only [List.getD_eq_getElem?_getD]
  by_cases hi : i < a.length
  · rw [List.getElem?_zipWith, List.getElem?_eq_getElem hi, List.getElem?_eq_getElem (by omega : i < b.length)]
    rfl
  · rw [List.getElem?_eq_none (by rw [List.length_zipWith]; omega), List.getElem?_eq_none (by omega), List.getElem?_eq_none (by omega)]
    rfl
theorem pcf_sum {a b p q : List UInt8} (each i : Nat) (h : a.length = b.length) (hp : p.length = q.length) : pcf (sumb a b) (sumb p q) each i = List.zipWith (· ^^^ ·) (pcf a p each i) (pcf b q each i) := by
  unfold pcf
  rw [sumb_getD h, sumb_zip hp, List.drop_zipWith, List.take_zipWith]
  rfl
theorem pols_getD {s coins : List UInt8} {each k : Nat} (h : k < s.length) : (pols s coins each).getD k [] = pcf s coins each k := by
  unfold pols
  rw [List.getD_eq_getElem?_getD, List.getElem?_map, List.getElem?_range h]
  rfl
theorem psh_data {s coins : List UInt8} {each i k : Nat} {ep th mn : Int} (h : k < s.length) : (psh ep th mn (pols s coins each) i).data.getD k 0 = hv (pcf s coins each k) (UInt8.ofNat (i + 1)) := by
  show (((List.range (pols s coins each).length).map fun k => hv ((pols s coins each).getD k []) (UInt8.ofNat (i + 1))).getD k 0) = _
  rw [pols_length, List.getD_eq_getElem?_getD, List.getElem?_map, List.getElem?_range h]
  show hv ((pols s coins each).getD k []) _ = _
  rw [pols_getD h]
theorem psh_len {s coins : List UInt8} {each i : Nat} {ep th mn : Int} : (psh ep th mn (pols s coins each) i).data.length = s.length := by simp [psh, pols]
/-- A share of the sum. -/
theorem psh_sum {a b p q : List UInt8} {each i : Nat} {ep ep2 th mn : Int} (h : a.length = b.length) (hp : p.length = a.length * each) (hq : q.length = b.length * each) :
    psh ep th mn (pols (sumb a b) (sumb p q) each) i = rsh (psh ep th mn (pols a p each) i) (psh ep2 th mn (pols b q each) i) := by
  have hd : (psh ep th mn (pols (sumb a b) (sumb p q) each) i).data = sumb (psh ep th mn (pols a p each) i).data (psh ep2 th mn (pols b q each) i).data := by
    apply List.ext_getElem
    · rw [psh_len, sumb_length, sumb_length, psh_len]
    · intro k h1 h2
      rw [psh_len, sumb_length] at h1
      have e1 : (psh ep th mn (pols (sumb a b) (sumb p q) each) i).data.getD k 0 = hv (pcf (sumb a b) (sumb p q) each k) (UInt8.ofNat (i + 1)) := psh_data (by rw [sumb_length]; exact h1)
      have e2 : (sumb (psh ep th mn (pols a p each) i).data (psh ep2 th mn (pols b q each) i).data).getD k 0 = hv (pcf a p each k) (UInt8.ofNat (i + 1)) ^^^ hv (pcf b q each k) (UInt8.ofNat (i + 1)) := by
        rw [sumb_getD (by rw [psh_len, psh_len]; exact h), psh_data h1, psh_data (by omega)]
      rw [pcf_sum each k h (by rw [hp, hq, h]), hv_xor _ _ _ (by rw [pcf_length hp h1, pcf_length hq (by omega)]), ← e2] at e1
      rw [List.getD_eq_getElem?_getD, List.getD_eq_getElem?_getD, List.getElem?_eq_getElem (by rw [psh_len, sumb_length]; exact h1), List.getElem?_eq_getElem h2] at e1
      exact e1
  unfold rsh
  rw [← hd]
  rfl
theorem spe_of {s coins : List UInt8} {ep th mn : Int} (h1 : s.length ≤ 64) (h2 : 1 ≤ th ∧ th ≤ mn ∧ mn ≤ 8) (h3 : 0 ≤ ep ∧ ep ≤ 1048576) (h4 : coins.length = s.length * (th.toNat - 1)) : spe s ep th mn coins = 0 := by
  unfold spe
  rw [if_neg (by omega), if_neg (fun h => h h2), if_neg (fun h => h h3), if_neg (fun h => h h4)]
theorem spl_length {s coins : List UInt8} {ep th mn : Int} (h : spe s ep th mn coins = 0) : (spl s ep th mn coins).length = mn.toNat := by
  rw [spl_eq h]; simp
theorem spl_at {s coins : List UInt8} {ep th mn : Int} (h : spe s ep th mn coins = 0) {i : Nat} (hi : i < mn.toNat) : (spl s ep th mn coins)[i]? = some (psh ep th mn (pols s coins (th.toNat - 1)) i) := by
  rw [spl_eq h, List.getElem?_map, List.getElem?_range hi]
  rfl
/-- Sums of shares are the shares of the sum. -/
theorem spl_sum {a b p q : List UInt8} {ep ep2 th mn : Int} (ha : spe a ep th mn p = 0) (hb : spe b ep2 th mn q = 0) (h : a.length = b.length) :
    spe (sumb a b) ep th mn (sumb p q) = 0 ∧ ∀ (i : Nat) (u v : Shr), (spl a ep th mn p)[i]? = some u → (spl b ep2 th mn q)[i]? = some v → (spl (sumb a b) ep th mn (sumb p q))[i]? = some (rsh u v) := by
  obtain ⟨h1, h2, h3, h4⟩ := spe_zero ha
  obtain ⟨_, _, _, h5⟩ := spe_zero hb
  have h0 : spe (sumb a b) ep th mn (sumb p q) = 0 := spe_of (by rw [sumb_length]; exact h1) h2 h3 (by rw [sumb_length, sumb_length]; exact h4)
  refine ⟨h0, fun i u v hu hv' => ?_⟩
  have hi : i < mn.toNat := by
    have := (List.getElem?_eq_some_iff.1 hu).1
    rw [spl_length ha] at this
    exact this
  rw [spl_at ha hi] at hu
  rw [spl_at hb hi] at hv'
  cases hu
  cases hv'
  rw [spl_at h0 hi, psh_sum h h4 h5]
set_option linter.unusedVariables false

theorem sumb_zero (s : List UInt8) : sumb (List.replicate s.length 0) s = s := by
  apply List.ext_getElem
  · rw [sumb_length, List.length_replicate]
  · intro i h1 h2
    have h3 := sumb_getD (a := List.replicate s.length 0) (b := s) (by rw [List.length_replicate]) i
    rw [List.getD_eq_getElem?_getD, List.getElem?_eq_getElem h1, List.getD_eq_getElem?_getD, List.getElem?_replicate, if_pos h2, List.getD_eq_getElem?_getD, List.getElem?_eq_getElem h2] at h3
    simpa using h3
theorem ref_spl {s c m : List UInt8} {ep th mn : Int} (h : spe s ep th mn c = 0) (he : ep + 1 ≤ 1048576) :
    (m.length = c.length → rfe (spl s ep th mn c) m = 0 ∧ rfl' (spl s ep th mn c) m = spl s (ep + 1) th mn (sumb m c) ∧ spe s (ep + 1) th mn (sumb m c) = 0) ∧ (m.length ≠ c.length → rfe (spl s ep th mn c) m ≠ 0 ∧ rfl' (spl s ep th mn c) m = []) := by
  obtain ⟨h1, h2, h3, h4⟩ := spe_zero h
  have hln := spl_length h
  have h0 := spl_at h (i := 0) (by omega)
  have hz : zer (spl s ep th mn c) = List.replicate s.length 0 := by
    unfold zer
    rw [h0]
    show List.replicate (psh ep th mn (pols s c (th.toNat - 1)) 0).data.length 0 = _
    rw [psh_len]
  have hchk := sub_chk h (List.Sublist.refl _) (by rw [hln]; omega)
  obtain ⟨r1, r2, _⟩ := rf_cons h0 m
  rw [if_neg (fun hh => hh hchk), if_neg (fun hh => hh (by rw [hln]; show ((mn.toNat : Nat) : Int) = mn; omega)), hz] at r1
  have r1' : rfe (spl s ep th mn c) m = spe (List.replicate s.length 0) (ep + 1) th mn m := r1
  refine ⟨fun hm => ?_, fun hm => ?_⟩
  · have hs0 : spe (List.replicate s.length 0) (ep + 1) th mn m = 0 := spe_of (by rw [List.length_replicate]; exact h1) h2 (by omega) (by rw [List.length_replicate, hm]; exact h4)
    have hs1 : spe s (ep + 1) th mn (sumb m c) = 0 := spe_of h1 h2 (by omega) (by rw [sumb_length, hm]; exact h4)
    have hr : rfe (spl s ep th mn c) m = 0 := r1'.trans hs0
    refine ⟨hr, ?_, hs1⟩
    rw [r2, if_pos hr, hz, hln, spl_eq hs1]
    apply List.map_congr_left
    intro i hi
    have hi' := List.mem_range.1 hi
    have e1 : (spl (List.replicate s.length 0) (ep + 1) (psh ep th mn (pols s c (th.toNat - 1)) 0).th (psh ep th mn (pols s c (th.toNat - 1)) 0).mn m)[i]? = some (psh (ep + 1) th mn (pols (List.replicate s.length 0) m (th.toNat - 1)) i) := spl_at hs0 hi'
    show rsh (((spl (List.replicate s.length 0) (ep + 1) (psh ep th mn (pols s c (th.toNat - 1)) 0).th (psh ep th mn (pols s c (th.toNat - 1)) 0).mn m)[i]?).getD _) (((spl s ep th mn c)[i]?).getD _) = _
    rw [e1, spl_at h hi']
    have := psh_sum (a := List.replicate s.length 0) (b := s) (p := m) (q := c) (each := th.toNat - 1) (i := i) (ep := ep + 1) (ep2 := ep) (th := th) (mn := mn) (by rw [List.length_replicate]) (by rw [List.length_replicate, hm]; exact h4) h4
    rw [sumb_zero] at this
    exact this.symm
  · have hne : spe (List.replicate s.length 0) (ep + 1) th mn m ≠ 0 := fun e => by
      obtain ⟨_, _, _, k4⟩ := spe_zero e
      rw [List.length_replicate] at k4
      exact hm (k4.trans h4.symm)
    have hr : rfe (spl s ep th mn c) m ≠ 0 := fun e => hne (r1'.symm.trans e)
    exact ⟨hr, by rw [r2, if_neg hr]⟩

/-! Shares of two epochs. -/
theorem selk_map (F : Nat → Shr) (N m : Nat) : ∀ k, k ≤ N → selk ((List.range N).map F) m k = ((List.range k).filter (fun i => decide (i < 8 ∧ m.testBit i = true))).map F
  | 0, _ => rfl
  | k + 1, hk => by
    rw [selk, selk_map F N m k (by omega), List.range_succ, List.filter_append, List.map_append]
    congr 1
    rw [List.getElem?_map, List.getElem?_range (by omega)]
    by_cases h : k < 8 ∧ m.testBit k = true
    · rw [if_pos h]
      simp [h]
    · rw [if_neg h]
      simp [h]
theorem filter_range (N k : Nat) (q : Nat → Bool) (hk : k < N) : (List.range N).filter (fun i => q i && decide (i = k)) = if q k then [k] else [] := by
  induction N with
  | zero => omega
  | succ n ih =>
    rw [List.range_succ, List.filter_append]
    by_cases h : k = n
    · subst h
      have : (List.range k).filter (fun i => q i && decide (i = k)) = [] := by
        rw [List.filter_eq_nil_iff]
        intro i hi
        have := List.mem_range.1 hi
        simp
        omega
      rw [this]
      by_cases hq : q k = true
      · simp [hq]
      · simp [hq]
    · rw [ih (by omega)]
      have : ([n] : List Nat).filter (fun i => q i && decide (i = k)) = [] := by simp; omega
      rw [this, List.append_nil]
def mixf (m : Nat) (F G : Nat → Shr) (i : Nat) : Shr := if m.testBit i then F i else G i
theorem filt_one {F G : Nat → Shr} {N m m' : Nat} (hF : ∀ i, (F i).ix = ((i + 1 : Nat) : Int)) (hG : ∀ i, (G i).ix = ((i + 1 : Nat) : Int)) (h8 : N ≤ 8) (hm : ∀ i, i < 8 → m'.testBit i = !m.testBit i) {k : Nat} (hk : k < N) :
    (selk ((List.range N).map F) m N ++ selk ((List.range N).map G) m' N).filter (fun s => decide (s.ix = ((k + 1 : Nat) : Int))) = [mixf m F G k] := by
  have hone : ∀ (F : Nat → Shr) (m : Nat), (∀ i, (F i).ix = ((i + 1 : Nat) : Int)) → (selk ((List.range N).map F) m N).filter (fun s => decide (s.ix = ((k + 1 : Nat) : Int))) = if m.testBit k then [F k] else [] := by
    intro F m hF
    rw [selk_map F N m N (Nat.le_refl _), List.filter_map, List.filter_filter]
    have : ((List.range N).filter fun a => ((fun s : Shr => decide (s.ix = ((k + 1 : Nat) : Int))) ∘ F) a && decide (a < 8 ∧ m.testBit a = true)) = (List.range N).filter (fun i => m.testBit i && decide (i = k)) := by
      apply List.filter_congr
      intro i hi
      have := List.mem_range.1 hi
      simp only [Function.comp, hF]
      by_cases e : i = k
      · subst e
        simp
        omega
      · have h1 : decide (((i + 1 : Nat) : Int) = ((k + 1 : Nat) : Int)) = false := decide_eq_false (by omega)
        rw [h1, decide_eq_false e]
        simp
    rw [this, filter_range N k _ hk]
    split <;> rfl
  rw [List.filter_append, hone F m hF, hone G m' hG, hm k (by omega)]
  unfold mixf
  cases m.testBit k <;> rfl
/-- Shares of two epochs, in order. -/
theorem mix_join {F G : Nat → Shr} {N m : Nat} {th mn e1 e2 : Int} {n : Nat} (hF : ∀ i, (F i).ix = ((i + 1 : Nat) : Int) ∧ (F i).th = th ∧ (F i).mn = mn ∧ (F i).data.length = n ∧ (F i).ep = e1) (hG : ∀ i, (G i).ix = ((i + 1 : Nat) : Int) ∧ (G i).th = th ∧ (G i).mn = mn ∧ (G i).data.length = n ∧ (G i).ep = e2)
    (hN : mn.toNat = N) (ht : 1 ≤ th ∧ th ≤ mn ∧ mn ≤ 8) (hn : n ≤ 64) (hne : e1 ≠ e2) {i j : Nat} (hi : i < N) (hj : j < N) (hbi : m.testBit i = true) (hbj : m.testBit j = false) : jne ((List.range N).map (mixf m F G)) = 61 ∧ jn ((List.range N).map (mixf m F G)) = [] := by
  have hM : ∀ i, (mixf m F G i).ix = ((i + 1 : Nat) : Int) ∧ (mixf m F G i).th = th ∧ (mixf m F G i).mn = mn ∧ (mixf m F G i).data.length = n := fun i => by
    unfold mixf
    split
    · exact ⟨(hF i).1, (hF i).2.1, (hF i).2.2.1, (hF i).2.2.2.1⟩
    · exact ⟨(hG i).1, (hG i).2.1, (hG i).2.2.1, (hG i).2.2.2.1⟩
  obtain ⟨a, l, hal⟩ : ∃ a l, (List.range N).map (mixf m F G) = a :: l := by
    cases h : (List.range N).map (mixf m F G) with
    | nil =>
      have := congrArg List.length h
      simp at this
      omega
    | cons a l => exact ⟨a, l, rfl⟩
  have hmem : ∀ u ∈ a :: l, ∃ i, i < N ∧ u = mixf m F G i := fun u hu => by
    rw [← hal] at hu
    obtain ⟨i, hi, rfl⟩ := List.mem_map.1 hu
    exact ⟨i, List.mem_range.1 hi, rfl⟩
  have hall : ∀ u ∈ a :: l, u.th = th ∧ u.mn = mn ∧ u.data.length = n ∧ 0 < u.ix ∧ u.ix ≤ mn := fun u hu => by
    obtain ⟨i, hi, rfl⟩ := hmem u hu
    obtain ⟨m1, m2, m3, m4⟩ := hM i
    refine ⟨m2, m3, m4, by rw [m1]; omega, by rw [m1]; omega⟩
  have hpw : (a :: l).Pairwise (fun a c => a.ix < c.ix) := by
    rw [← hal, List.pairwise_map]
    refine List.Pairwise.imp ?_ List.pairwise_lt_range
    intro x y hxy
    rw [(hM x).1, (hM y).1]
    omega
  have ha := hall a (by simp)
  have halk : alk (a :: l) = true := by
    rw [alk_cons (s0 := a) rfl]
    simp only [Bool.and_eq_true, decide_eq_true_eq]
    refine ⟨⟨by rw [ha.1, ha.2.1]; exact ht, by rw [ha.2.2.1]; exact hn⟩, alkFrom_of (fun u hu => ?_) hpw⟩
    have hu' := hall u hu
    refine ⟨?_, hu'.2.2.2.1, by rw [hu'.2.1]; exact hu'.2.2.2.2⟩
    unfold same1
    rw [decide_eq_true_eq, hu'.1, hu'.2.1, hu'.2.2.1, ha.1, ha.2.1, ha.2.2.1]
    exact ⟨rfl, rfl, rfl⟩
  have hon : onee (a :: l) = false := by
    cases ho : onee (a :: l) with
    | false => rfl
    | true =>
      exfalso
      rw [onee_cons (s0 := a) rfl, Bool.and_eq_true] at ho
      have h1 := ho.1
      unfold sameEp at h1
      rw [List.all_eq_true] at h1
      have q1 : mixf m F G i ∈ a :: l := by rw [← hal]; exact List.mem_map.2 ⟨i, List.mem_range.2 hi, rfl⟩
      have q2 : mixf m F G j ∈ a :: l := by rw [← hal]; exact List.mem_map.2 ⟨j, List.mem_range.2 hj, rfl⟩
      have r1 := h1 _ q1
      have r2 := h1 _ q2
      simp only [decide_eq_true_eq] at r1 r2
      unfold mixf at r1 r2
      rw [if_pos hbi] at r1
      rw [hbj] at r2
      simp only [Bool.false_eq_true, if_false] at r2
      rw [(hF i).2.2.2.2] at r1
      rw [(hG j).2.2.2.2] at r2
      exact hne (r1.trans r2.symm)
  rw [hal]
  have hc : chk (a :: l) = 61 := by
    unfold chk
    rw [halk, hon]
    rfl
  have hj : jne (a :: l) = 61 := by
    unfold jne
    rw [if_pos (by rw [hc]; decide), hc]
  exact ⟨hj, by unfold jn; rw [hj]; rfl⟩
theorem not_bit (x : UInt8) : ∀ i, i < 8 → (~~~x).toNat.testBit i = !x.toNat.testBit i := by
  intro i hi
  have h : (~~~x).toNat = 2 ^ 8 - (x.toNat + 1) := by
    rw [UInt8.toNat_not]
    show 256 - 1 - x.toNat = 256 - (x.toNat + 1)
    omega
  rw [h, Nat.testBit_two_pow_sub_succ x.toNat_lt]
  simp [hi]
open Go.RowKit
set_option linter.unusedVariables false
set_option linter.unusedSimpArgs false

theorem OwnS.below {B c : Nat} {w W W' : World} {A : Option Addr} {l : List Shr} (h : OwnS B w W A c l) (hb : Below W.heap.size W W') : OwnS B w W' A c l := by
  obtain ⟨bs, h1, h2, h3, h4⟩ := h
  exact ⟨bs, h1, h2, own_below h3 hb, h4⟩
theorem OwnS.grown {B c : Nat} {w W W' : World} {A : Option Addr} {l : List Shr} {row : Option Nat} (h : OwnS B w W A c l) (hg : W.grownBy W' row) (hne : ∀ g, A = some ⟨g, 0, none⟩ → some g ≠ row) : OwnS B w W' A c l := by
  obtain ⟨bs, h1, h2, h3, h4⟩ := h
  refine ⟨bs, h1, h2, h3.kept hg ?_, h4⟩
  rcases h3.2 with ⟨hv, _⟩ | ⟨g, cap, cur, hv, _⟩
  · injection hv with hA
    subst hA
    exact .inl rfl
  · injection hv with hA
    subst hA
    exact .inr (hne g rfl)
theorem OwnS.lt {B c : Nat} {w W : World} {A : Option Addr} {l : List Shr} (h : OwnS B w W A c l) : ∀ g off sp, A = some ⟨g, off, sp⟩ → B ≤ g ∧ g < W.heap.size := by
  intro g off sp e
  obtain ⟨bs, h1, h2, h3, h4⟩ := h
  subst e
  exact h3.lt g rfl
theorem OwnS.at_ {B c g : Nat} {w W : World} {l : List Shr} (h : OwnS B w W (some ⟨g, 0, none⟩) c l) {i : Nat} {s : Shr} (hi : l[i]? = some s) : ∃ D d, (∀ j, j < 5 → W.cell? ⟨g, i * 5 + j, none⟩ = (shc s D d)[j]?) ∧ Sl w D s.data d := by
  obtain ⟨bs, hl, h5, ho, hs⟩ := h
  obtain ⟨D, d, hbi, hD⟩ := hs i s hi
  have hil : i < l.length := (List.getElem?_eq_some_iff.1 hi).1
  exact ⟨D, d, fun j hj => by rw [ho.cellAt _ (by omega), flat5_at bs h5 i _ j hbi hj], hD⟩
theorem OwnS.form {B c : Nat} {w W : World} {A : Option Addr} {l : List Shr} (h : OwnS B w W A c l) (hp : 0 < l.length) : ∃ g, A = some ⟨g, 0, none⟩ := by
  obtain ⟨bs, h1, h2, h3, h4⟩ := h
  rcases h3.2 with ⟨hv, h0⟩ | ⟨g, cap, cur, hv, _⟩
  · omega
  · injection hv with hA
    exact ⟨g, hA⟩
theorem OwnS.own {B c n : Nat} {w W : World} {A : Option Addr} {l : List Shr} (h : OwnS B w W A c l) {i : Nat} (hi : (Value.slice A n c).ownBlock = some i) : A = some ⟨i, 0, none⟩ := by
  obtain ⟨bs, h1, h2, h3, h4⟩ := h
  rcases h3.2 with ⟨hv, _⟩ | ⟨g, cap, cur, hv, _⟩
  · injection hv with hA
    subst hA
    cases hi
  · injection hv with hA
    subst hA
    injection hi with hi
    rw [← hi]
/-- append of one share whose bytes lie in the older world. -/
theorem wpList_append_os1 {B : Nat} {w W : World} {ops : Array Oper} {rest : List Oper} {o : Oper} {a : Act} {Q : Exit → Act → World → Prop} (hgd : o.guard = none) (s x : Operand)
    (ho : o.op = .call { callee := .builtin .append, args := #[s, x], argTypes := #[22, 22] })
    (A : Option Addr) (l : List Shr) (n c : Nat) (hn : l.length = n) (hs : a.eval s = .slice A n c) (hO : OwnS B w W A c l) (q : Nat) (u : Shr) (D : Option Addr) (d : Nat) (hx : a.eval x = .slice (some ⟨q, 0, none⟩) 1 1)
    (hq : Box W q #[.int .i64 u.ep, .int .i64 u.ix, .int .i64 u.th, .int .i64 u.mn, .slice D u.data.length d] 41) (hD : Sl w D u.data d) (hb : n ≤ 100000) (hbase : B ≤ W.heap.size)
    (h : ∀ g c' W', OwnS B w W' (some ⟨g, 0, none⟩) c' (l ++ [u]) → W.grownBy W' (Value.slice A n c).ownBlock → ((Value.slice A n c).ownBlock = some g ∨ g = W.heap.size) → (∀ i, (Value.slice A n c).ownBlock = some i → B ≤ i) → wpList Tryd.prog ops Q rest (a.put o.dst (.slice (some ⟨g, 0, none⟩) (n + 1) c')) W') : wpList Tryd.prog ops Q (o :: rest) a W := by
  subst hn
  obtain ⟨i0, hi0, hz0, hz1, hz2⟩ := info_parts sh_info
  obtain ⟨bs, hl, h5, hown, hss⟩ := hO
  have hnews : ∀ j v, (shc u D d)[j]? = some v → W.cell? ((⟨q, 0, none⟩ : Addr).add j) = some v := World.news_of_block hq
  refine wpList_append_lies W hgd s x 22 ho B 41 i0 (.agg #[.int .i64 0, .int .i64 0, .int .i64 0, .int .i64 0, .slice none 0 0]) 5 56 Tryd.underlying22 hi0 hz0 hz1 hz2 rfl (by decide) _ l.length bs.flatten hs hown ⟨q, 0, none⟩ 1 1 (shc u D d) hx rfl hnews (shc_one u D d) (by decide) (le_maxLen (by omega)) (by omega) hbase _ rfl ?_
  intro g c1 w' ho' hg' hat _
  exact h g c1 w' (OwnS.more (W := W) (A := A) (c := c) hl h5 hss ho' hD) hg' hat (fun i hi => (hown.lt i hi).1)
/-- append of shares that lie in the older world. -/
theorem wpList_append_oss {B : Nat} {w W : World} {ops : Array Oper} {rest : List Oper} {o : Oper} {a : Act} {Q : Exit → Act → World → Prop} (hgd : o.guard = none) (s x : Operand)
    (ho : o.op = .call { callee := .builtin .append, args := #[s, x], argTypes := #[22, 22] })
    (A : Option Addr) (l : List Shr) (n c : Nat) (hn : l.length = n) (hs : a.eval s = .slice A n c) (hO : OwnS B w W A c l) (X : List Shr) (A2 : Option Addr) (m c2 : Nat) (hm : X.length = m) (hp : 0 < m) (hx : a.eval x = .slice A2 m c2) (hX : SS w A2 X c2) (hb0 : Below w.heap.size w W) (t : Nat) (ht : n + m = t) (Z : List Shr) (hZ : l ++ X = Z) (hb : t ≤ 100000) (hbase : B ≤ W.heap.size)
    (h : ∀ g c' W', OwnS B w W' (some ⟨g, 0, none⟩) c' Z → Below B W W' → wpList Tryd.prog ops Q rest (a.put o.dst (.slice (some ⟨g, 0, none⟩) t c')) W') : wpList Tryd.prog ops Q (o :: rest) a W := by
  subst hn hm ht hZ
  obtain ⟨i0, hi0, hz0, hz1, hz2⟩ := info_parts sh_info
  obtain ⟨bs, hl, h5, hown, hss⟩ := hO
  obtain ⟨b, off, rfl, hlb, _⟩ := hX.1 hp
  obtain ⟨cs, k1, k2, k3, k4, k5⟩ := hX.blocks
  have hnews : ∀ j v, cs.flatten[j]? = some v → W.cell? ((⟨b, off, none⟩ : Addr).add j) = some v := fun j v hv => by
    have := k5 j v hv
    rw [add_off] at this ⊢
    exact (hb0.cell (p := ⟨b, off + j, none⟩) hlb).trans this
  refine wpList_append_lies W hgd s x 22 ho B 41 i0 (.agg #[.int .i64 0, .int .i64 0, .int .i64 0, .int .i64 0, .slice none 0 0]) 5 56 Tryd.underlying22 hi0 hz0 hz1 hz2 rfl (by decide) _ l.length bs.flatten hs hown ⟨b, off, none⟩ X.length c2 cs.flatten hx (by rw [flat5 cs k2, k1]) hnews k3 hp (le_maxLen (by omega)) (by omega) hbase _ rfl ?_
  intro g c1 w' ho' hg' hat _
  refine h g c1 w' ⟨bs ++ cs, by simp [hl, k1], fun y hy => ?_, by rw [List.length_append, List.flatten_append]; exact ho', fun i t hi => ?_⟩ ((Below.refl B W).grown hg' hbase (fun i hi => (hown.lt i hi).1))
  · rcases List.mem_append.1 hy with h | h
    · exact h5 y h
    · exact k2 y h
  · by_cases e : i < l.length
    · rw [List.getElem?_append_left e] at hi
      obtain ⟨D2, d2, h1, h2⟩ := hss i t hi
      exact ⟨D2, d2, by rw [List.getElem?_append_left (by omega)]; exact h1, h2⟩
    · rw [List.getElem?_append_right (by omega)] at hi
      obtain ⟨D2, d2, h1, h2⟩ := k4 _ t hi
      exact ⟨D2, d2, by rw [List.getElem?_append_right (by omega), hl]; exact h1, h2⟩
theorem OwnS.start {B : Nat} {w W : World} (hb : B ≤ W.heap.size) : OwnS B w (W.alloc (.cells #[] 41)) (some ⟨W.heap.size, 0, none⟩) 0 [] :=
  ⟨[], rfl, by simp, World.ownsRow_lit W #[] 0 hb (by unfold maxLen; omega) rfl, fun i s hi => by cases hi⟩
open Go.RowKit
set_option linter.unusedVariables false
set_option linter.unusedSimpArgs false

theorem bthen' {a b c : World} (h : Below a.heap.size a b) (k : Below b.heap.size b c) : Below a.heap.size a c := h.trans (k.mono h.size)

theorem un_xor (m : UInt8) (w : World) : (Op.unary .xor (bv m)).run Tryd.prog w = .ok (bv (~~~m)) w := by
  have h : bits .xor .u8 255 (m.toNat : Int) = ((~~~m).toNat : Int) := by
    have h1 := xor_u8' 255 m
    rw [show ((255 : UInt8).toNat : Int) = 255 from rfl] at h1
    have h2 := u8_all (fun m => (255 ^^^ m) == ~~~m) (by decide +kernel) m
    rw [h1, eq_of_beq h2]
  show (Op.intBits .xor .u8 255 (m.toNat : Int)).run _ w = _
  rw [intBits_xor, h]
  rfl
theorem sel_bit {F : Nat → Shr} {N m : Nat} (h : 0 < (selk ((List.range N).map F) m N).length) : ∃ i, i < N ∧ i < 8 ∧ m.testBit i = true := by
  rw [selk_map F N m N (Nat.le_refl _), List.length_map] at h
  obtain ⟨a, ha⟩ := List.exists_mem_of_length_pos h
  obtain ⟨h1, h2⟩ := List.mem_filter.1 ha
  exact ⟨a, List.mem_range.1 h1, (of_decide_eq_true h2).1, (of_decide_eq_true h2).2⟩
theorem mixes {s coins cc : List UInt8} {ep th mn : Int} {ln : Nat} {mixed : UInt8} (h1 : spe s 3 th mn coins = 0) (h2 : spe s ep th mn cc = 0) (hln : mn.toNat = ln) (hne : ep ≠ 3) (O Y : List Shr) (hO : sel (spl s 3 th mn coins) mixed = O) (hY : sel (spl s ep th mn cc) (~~~mixed) = Y) (p1 : 0 < O.length) (p2 : 0 < Y.length) :
    ∃ MX : Nat → Shr, (∀ k, k < ln → (O ++ Y).filter (fun s => decide (s.ix = ((k + 1 : Nat) : Int))) = [MX k]) ∧ jne ((List.range ln).map MX) = 61 ∧ jn ((List.range ln).map MX) = [] := by
  obtain ⟨f1, f2, _, _⟩ := spe_zero h1
  have l1 := spl_length h1
  have l2 := spl_length h2
  rw [hln] at l1 l2
  unfold sel at hO hY
  rw [l1, spl_eq h1, hln] at hO
  rw [l2, spl_eq h2, hln] at hY
  subst hO hY
  obtain ⟨i, i1, i2, i3⟩ := sel_bit p1
  obtain ⟨j, j1, j2, j3⟩ := sel_bit p2
  rw [not_bit mixed j j2] at j3
  have hF : ∀ i, (psh 3 th mn (pols s coins (th.toNat - 1)) i).ix = ((i + 1 : Nat) : Int) := fun i => rfl
  have hG : ∀ i, (psh ep th mn (pols s cc (th.toNat - 1)) i).ix = ((i + 1 : Nat) : Int) := fun i => rfl
  have hmj := mix_join (F := psh 3 th mn (pols s coins (th.toNat - 1))) (G := psh ep th mn (pols s cc (th.toNat - 1))) (N := ln) (m := mixed.toNat) (th := th) (mn := mn) (e1 := 3) (e2 := ep) (n := s.length) (fun i => ⟨rfl, rfl, rfl, psh_len, rfl⟩) (fun i => ⟨rfl, rfl, rfl, psh_len, rfl⟩) hln f2 f1 (fun h => hne h.symm) i1 j1 i3 (by simpa using j3)
  exact ⟨mixf mixed.toNat (psh 3 th mn (pols s coins (th.toNat - 1))) (psh ep th mn (pols s cc (th.toNat - 1))), fun k hk => filt_one hF hG (by omega) (not_bit mixed) hk, hmj.1, hmj.2⟩
theorem filts (T : List Shr) (tn : Nat) (hT : T.length = tn) (kk : Nat) (x : Shr) (hx : T.filter (fun s => decide (s.ix = ((kk + 1 : Nat) : Int))) = [x]) :
    ∃ FT : Nat → List Shr, FT 0 = [] ∧ (∀ j u, T[j]? = some u → FT (j + 1) = FT j ++ (if u.ix = (kk : Int) + 1 then [u] else [])) ∧ FT tn = [x] ∧ ∀ j, (FT j).length ≤ tn := by
  refine ⟨fun j => (T.take j).filter (fun s => decide (s.ix = ((kk + 1 : Nat) : Int))), rfl, fun j u hu => ?_, ?_, fun j => ?_⟩
  · show (T.take (j + 1)).filter _ = _
    rw [List.take_add_one, hu, List.filter_append]
    congr 1
    show [u].filter _ = _
    by_cases h : u.ix = (kk : Int) + 1
    · rw [if_pos h]
      simp [h]
    · rw [if_neg h]
      simp [h]
  · show (T.take tn).filter _ = _
    rw [List.take_of_length_le (by omega)]
    exact hx
  · have h1 := List.length_filter_le (fun s : Shr => decide (s.ix = ((kk + 1 : Nat) : Int))) (T.take j)
    have h2 := List.length_take_le' j T
    show ((T.take j).filter _).length ≤ tn
    omega

theorem ref_step {wr w6 W7 : World} {V g5 t c9 c5' g6 : Nat} {A9 : Option Addr} {T L : List Shr} {C C2 : Obj} (hO : OwnS w6.heap.size w6 wr A9 c9 L) (hT : OwnS V w6 wr (some ⟨g5, 0, none⟩) c5' T) (hn : ∀ g, A9 = some ⟨g, 0, none⟩ → g ≠ g5) (hb : Below w6.heap.size w6 wr)
    (hg : ((wr.alloc C).alloc C2).grownBy W7 (Value.slice A9 t c9).ownBlock) (hat : (Value.slice A9 t c9).ownBlock = some g6 ∨ g6 = ((wr.alloc C).alloc C2).heap.size) (hbb : ∀ i, (Value.slice A9 t c9).ownBlock = some i → w6.heap.size ≤ i) :
    OwnS V w6 W7 (some ⟨g5, 0, none⟩) c5' T ∧ (∀ g, (some ⟨g6, 0, none⟩ : Option Addr) = some ⟨g, 0, none⟩ → g ≠ g5) ∧ Below w6.heap.size w6 W7 := by
  have B1 := (Below.refl wr.heap.size wr).alloc (Nat.le_refl _) C
  have B2 := B1.alloc B1.size C2
  have hb2 := hb.trans (B2.mono hb.size)
  refine ⟨(hT.below B2).grown hg (fun g e h => ?_), fun g e h => ?_, hb2.grown hg hb2.size hbb⟩
  · injection e with e
    injection e with e
    subst e
    exact hn _ (hO.own h.symm) rfl
  · injection e with e
    injection e with e
    subst e
    rcases hat with h2 | h2
    · exact hn _ (hO.own h2) h
    · have h3 := (hT.lt g5 0 none rfl).2
      rw [World.size_alloc, World.size_alloc] at h2
      omega

set_option maxHeartbeats 8000000 in
set_option maxRecDepth 100000 in
theorem lawRef_any (A0 : Option Addr) (c0 : Nat) (s : List UInt8) (A1 : Option Addr) (c1 : Nat) (other : List UInt8) (th mn : Int) (A4 : Option Addr) (c4 : Nat) (coins : List UInt8) (A5 : Option Addr) (c5 : Nat) (more : List (List UInt8)) (mask mixed : UInt8) (w : World) (hK : KT w) (hS0 : Sl w A0 s c0) (hS1 : Sl w A1 other c1) (hS4 : Sl w A4 coins c4) (hS5 : RR w A5 more c5) :
    Calls Tryd.prog 7 #[.slice A0 s.length c0, .slice A1 other.length c1, .int .i64 th, .int .i64 mn, .slice A4 coins.length c4, .slice A5 more.length c5, bv mask, bv mixed] w fun e w' => e = .returned (.bool true) ∧ Below w.heap.size w w' := by
  have HS := Lib.hid (sane_any w hK)
  have b0 := Nat.le_trans hS0.2.1 hS0.2.2.1
  have b1 := Nat.le_trans hS1.2.1 hS1.2.2.1
  have b4 := Nat.le_trans hS4.2.1 hS4.2.2.1
  have b5 := Nat.le_trans hS5.2.1 hS5.2.2.1
  unfold maxLen at b0 b1 b4 b5
  by_cases g1 : 10 < s.length
  · have d1 : decide ((10 : Int) < (s.length : Int)) = true := decide_eq_true (by omega)
    have d2 : (10 : Int) < (s.length : Int) := by omega
    generalize s.length = n at *
    generalize other.length = no at *
    generalize coins.length = mp at *
    generalize more.length = nm at *
    go_enter Tryd.func7, Tryd.ntmps7
    go_wp2_with fail
    refine HS.out.mono ?_
    rintro e w1 ⟨rfl, hb1⟩
    go_wp2_with fail
    go_ret
    exact ⟨rfl, hb1⟩

  · have d1 : decide ((10 : Int) < (s.length : Int)) = false := decide_eq_false (by omega)
    have d2 : ¬ (10 : Int) < (s.length : Int) := by omega
    by_cases g2 : 80 < coins.length
    · have d3 : decide ((80 : Int) < (coins.length : Int)) = true := decide_eq_true (by omega)
      have d4 : (80 : Int) < (coins.length : Int) := by omega
      generalize s.length = n at *
      generalize other.length = no at *
      generalize coins.length = mp at *
      generalize more.length = nm at *
      go_enter Tryd.func7, Tryd.ntmps7
      go_wp2_with fail
      refine HS.out.mono ?_
      rintro e w1 ⟨rfl, hb1⟩
      go_wp2_with fail
      go_ret
      exact ⟨rfl, hb1⟩

    · have d3 : decide ((80 : Int) < (coins.length : Int)) = false := decide_eq_false (by omega)
      have d4 : ¬ (80 : Int) < (coins.length : Int) := by omega
      by_cases g3 : 5 < more.length
      · have d5 : decide ((5 : Int) < (more.length : Int)) = true := decide_eq_true (by omega)
        have d6 : (5 : Int) < (more.length : Int) := by omega
        generalize s.length = n at *
        generalize other.length = no at *
        generalize coins.length = mp at *
        generalize more.length = nm at *
        go_enter Tryd.func7, Tryd.ntmps7
        go_wp2_with fail
        refine HS.out.mono ?_
        rintro e w1 ⟨rfl, hb1⟩
        go_wp2_with fail
        go_ret
        exact ⟨rfl, hb1⟩

      · have d5 : decide ((5 : Int) < (more.length : Int)) = false := decide_eq_false (by omega)
        have d6 : ¬ (5 : Int) < (more.length : Int) := by omega
        by_cases g4 : other.length = s.length
        · have HP0 := Lib.hid (fun w1 (hb : Below w.heap.size w w1) => split_any A0 A4 c0 c4 s coins 3 th mn w1 (hK.below hb) (hS0.up hb) (hS4.up hb) (by omega) (by omega))
          unfold SplitPost at HP0
          have HA := Lib.hid (And.intro hK (And.intro hS0 (And.intro hS1 hS5)))
          have HO := Lib.hid g4
          rw [g4] at b1 ⊢
          clear hK hS0 hS1 hS4 hS5 g4
          obtain ⟨E, hE⟩ : ∃ E, spe s 3 th mn coins = E := ⟨_, rfl⟩
          obtain ⟨Lx, hLx⟩ : ∃ Lx, spl s 3 th mn coins = Lx := ⟨_, rfl⟩
          have HP := HP0
          rw [hE, hLx] at HP
          clear HP0
          by_cases g5 : E = 0
          · subst g5
            have hl1 := spl_length hE
            obtain ⟨f1, f2, f3, f4⟩ := spe_zero hE
            obtain ⟨ln, hln⟩ : ∃ ln, mn.toNat = ln := ⟨_, rfl⟩
            have hl8 : ln ≤ 8 ∧ 1 ≤ ln := by omega
            rw [hln, hLx] at hl1
            rw [hl1] at HP
            obtain ⟨n, hn⟩ : ∃ n, s.length = n := ⟨_, rfl⟩
            obtain ⟨mp, hmp⟩ : ∃ mp, coins.length = mp := ⟨_, rfl⟩
            obtain ⟨nm, hnm⟩ : ∃ nm, more.length = nm := ⟨_, rfl⟩
            have hE3 : spe s 3 th mn coins = 0 := hE
            have HL := Lib.hid (And.intro hn (And.intro hmp (And.intro hE3 (And.intro hLx (And.intro hnm hln)))))
            have HT := Lib.hid (And.intro f1 (And.intro f2 hl1))
            rw [hn] at d1 d2 g1 b0 b1 HO HP ⊢
            rw [hmp] at d3 d4 g2 b4 HP ⊢
            rw [hnm] at d5 d6 g3 b5 ⊢
            clear hn hmp hnm hE hE3 hln f1 f2 f3 f4 hl1 hLx
            go_enter Tryd.func7, Tryd.ntmps7
            go_wp2_with fail
            refine HS.out.mono ?_
            rintro e w1 ⟨rfl, hb1⟩
            go_wp2_with fail
            refine (HP.out w1 hb1).mono ?_
            rintro e w2 ⟨A2, c2, rfl, hs2, hb2⟩
            have H2 := Lib.hid (And.intro hs2 (bthen' hb1 hb2))
            clear hs2 hb1 hb2
            go_upto_region 9 with fail
            go_wp2_with fail
            go_loopw [19, 20, 80] (fun v ve i wr => ∃ (k : Nat) (ep : Int) (cc : List UInt8) (A : Option Addr) (c : Nat), k ≤ nm ∧ 3 ≤ ep ∧ ep ≤ 3 + (k : Int) ∧ spe s ep th mn cc = 0 ∧ cc.length = mp ∧ v = .slice A ln c ∧ ve = .int .i64 ep ∧ i = .int .i64 k ∧ SS wr A (spl s ep th mn cc) c ∧ Below w2.heap.size w2 wr) (fun _ _ i _ => nm - (intOf i).toNat)
            case atStart => exact ⟨0, 3, coins, A2, c2, Nat.zero_le _, by omega, by omega, HL.out.2.2.1, HL.out.2.1, rfl, rfl, rfl, by rw [HL.out.2.2.2.1]; exact H2.out.1, Below.refl _ _⟩
            case round =>
              obtain ⟨k, ep, cc, A, c, hk, he3, hek, hsp, hcc, rfl, rfl, rfl, hss, hbw⟩ := hrel
              have KR := Lib.hid (And.intro hss hbw)
              have HSP := Lib.hid (And.intro hsp hcc)
              clear hss hbw
              by_cases hlt : k < nm
              · obtain ⟨m, hm⟩ : ∃ m, more[k]? = some m := ⟨_, List.getElem?_eq_getElem (by rw [HL.out.2.2.2.2.1]; exact hlt)⟩
                have hwb := bthen' H2.out.2 KR.out.2
                obtain ⟨bl, ofl, rfl, hbl, hatl⟩ := (HA.out.2.2.2.up hwb).1 (by rw [HL.out.2.2.2.2.1]; omega)
                obtain ⟨D, d, k0, hD⟩ := hatl k m hm
                have hml := Nat.le_trans hD.2.1 hD.2.2.1
                obtain ⟨r1, r2⟩ := ref_spl (m := m) hsp (by omega)
                have hll := spl_length hsp
                rw [HL.out.2.2.2.2.2] at hll
                rw [hcc] at r1 r2
                have i1 : (0 : Int) ≤ (k : Int) := by omega
                have i2 : (k : Int) < (nm : Int) := by omega
                have HKW := Lib.hid (HA.out.1.below hwb)
                have HDD := Lib.hid hD
                unfold maxLen at hml
                have HR := Lib.hid (refresh_any _ D c d (spl s ep th mn cc) m wr HKW.out KR.out.1 hD (by rw [hll]; omega) hml)
                unfold RfPost at HR
                by_cases hme : m.length = mp
                · obtain ⟨q1, q2, q3⟩ := r1 hme
                  have hl2 := spl_length q3
                  rw [HL.out.2.2.2.2.2] at hl2
                  rw [q1, q2, hl2, hll, hme] at HR
                  rw [hme] at k0
                  have HN2 := Lib.hid (And.intro q3 (And.intro (show (sumb m cc).length = mp by rw [sumb_length, hme]) hme))
                  clear r1 r2 q1 q2 q3 hl2 hll hsp hcc hD hatl hm hwb hml hme
                  go_wp2_with fail
                  refine HR.out.mono ?_
                  rintro e w5 ⟨A5', c5', rfl, hs5', hb5⟩
                  have H5 := Lib.hid (And.intro hs5' (KR.out.2.trans (hb5.mono KR.out.2.size)))
                  clear hs5' hb5 HR
                  have hwr : IntKind.i64.wrap (ep + 1) = ep + 1 := by rw [IntKind.wrap_i64]; omega
                  go_wp2_with fail
                  go_roundw
                  case rel => exact ⟨k + 1, ep + 1, sumb m cc, A5', c5', by omega, by omega, by omega, HN2.out.1, HN2.out.2.1, rfl, by first | rfl | simp, by go_num, H5.out.1, H5.out.2⟩
                  case measure => simp [intOf]; omega
                · obtain ⟨q1, q2⟩ := r2 hme
                  obtain ⟨ev, hev⟩ : ∃ ev, rfe (spl s ep th mn cc) m = ev := ⟨_, rfl⟩
                  obtain ⟨ml, hmn⟩ : ∃ ml, m.length = ml := ⟨_, rfl⟩
                  rw [hev] at q1
                  rw [hev, q2, hll, hmn] at HR
                  rw [hmn] at k0 hme
                  have y1 : (ev == 0) = false := by simpa using q1
                  have y2 : ((ml : Int) == (mp : Int)) = false := by simpa using (show ¬ (ml : Int) = (mp : Int) by omega)
                  have HN2 := Lib.hid (And.intro hme (And.intro hev hmn))
                  clear r1 r2 q2 hll hsp hcc hD hatl hm hwb hml hme hev hmn
                  go_wp2_with fail
                  refine HR.out.mono ?_
                  rintro e w5 ⟨A5', c5', rfl, hs5', hb5⟩
                  have H5 := Lib.hid (And.intro (KR.out.1.up hb5) (KR.out.2.trans (hb5.mono KR.out.2.size)))
                  clear hs5' hb5 HR
                  go_wp2_with fail
                  go_roundw
                  case rel => exact ⟨k + 1, ep, cc, A, c, by omega, by omega, by omega, HSP.out.1, HSP.out.2, rfl, rfl, by go_num, H5.out.1, H5.out.2⟩
                  case measure => simp [intOf]; omega
              · obtain rfl : k = nm := by omega
                have hll := spl_length hsp
                rw [HL.out.2.2.2.2.2] at hll
                obtain ⟨Lk, hLk⟩ : ∃ Lk, spl s ep th mn cc = Lk := ⟨_, rfl⟩
                have K2 := Lib.hid (And.intro KR.out.1 KR.out.2)
                rw [hLk] at hll K2
                obtain ⟨X, hX⟩ : ∃ X, sel Lk mask = X := ⟨_, rfl⟩
                have hXs : X.Sublist Lk := hX ▸ sel_sub Lk mask
                have hX8 := hXs.length_le
                rw [hll] at hX8
                have HSM := Lib.hid (some_any A c Lk mask wr K2.out.1 (by omega))
                unfold SomePost at HSM
                rw [hX, hll] at HSM
                obtain ⟨p, hp⟩ : ∃ p, X.length = p := ⟨_, rfl⟩
                rw [hp] at HSM hX8
                have hX2 : sel (spl s ep th mn cc) mask = X := by rw [hLk]; exact hX
                have hX3 : X.Sublist (spl s ep th mn cc) := by rw [hLk]; exact hXs
                have HX := Lib.hid (And.intro hsp (And.intro hLk (And.intro hX2 (And.intro hX3 (And.intro hp hll)))))
                have HW := Lib.hid (And.intro K2.out.1 (And.intro (H2.out.1.up K2.out.2) (bthen' H2.out.2 K2.out.2)))
                clear hsp hcc hll hLk hX hXs hp hX2 hX3 KR K2
                go_wp2_with fail
                refine HSM.out.mono ?_
                rintro e w4 ⟨A6, c6, rfl, hs6, hb6⟩
                have H4 := Lib.hid (And.intro (HW.out.1.up hb6) (And.intro (HW.out.2.1.up hb6) (And.intro (bthen' HW.out.2.2 hb6) hs6)))
                clear hs6 hb6 HW
                go_upto_region 19 with fail
                go_wp2_with fail
                go_loopw [109] (fun i wr => ∃ k, k ≤ p ∧ i = .int .i64 (k : Nat) ∧ Below w4.heap.size w4 wr) (fun i _ => p - (intOf i).toNat)
                case atStart => exact ⟨0, Nat.zero_le _, rfl, Below.refl _ _⟩
                case round =>
                  obtain ⟨q, hq, rfl, hbq⟩ := hrel
                  have KQ := Lib.hid hbq
                  clear hbq
                  by_cases hlq : q < p
                  · obtain ⟨u, hu⟩ : ∃ u, X[q]? = some u := ⟨_, List.getElem?_eq_getElem (by rw [HX.out.2.2.2.2.1]; exact hlq)⟩
                    obtain ⟨bx, ox, rfl, hbx, hatx⟩ := H4.out.2.2.2.1 (by rw [HX.out.2.2.2.2.1]; omega)
                    obtain ⟨D, d, k0, k1, k2, k3, k4, hD⟩ := (hatx q u hu).up hbx KQ.out
                    obtain ⟨iu, hiu, heu⟩ := spl_mem HX.out.1 (HX.out.2.2.2.1.subset (List.mem_of_getElem? hu))
                    have e1 : u.ep = ep := by rw [heu]; rfl
                    have e2 : u.th = th := by rw [heu]; rfl
                    have e3 : u.mn = mn := by rw [heu]; rfl
                    obtain ⟨xi, hxi⟩ : ∃ xi, u.ix = xi := ⟨_, rfl⟩
                    obtain ⟨ul, hul⟩ : ∃ ul, u.data.length = ul := ⟨_, rfl⟩
                    rw [e1] at k0
                    rw [hxi] at k1
                    rw [e2] at k2
                    rw [e3] at k3
                    rw [hul] at k4
                    have i1 : (0 : Int) ≤ (q : Int) := by omega
                    have i2 : (q : Int) < (p : Int) := by omega
                    clear hu heu e1 e2 e3 hxi hul hD hatx hiu
                    go_upto_region 22 with fail
                    have hba := (Below.refl wr.heap.size wr).alloc (Nat.le_refl _) (.cells #[.int .i64 ep, .int .i64 xi, .int .i64 th, .int .i64 mn, .slice D ul d] 41)
                    have xb := Box.new wr #[.int .i64 ep, .int .i64 xi, .int .i64 th, .int .i64 mn, .slice D ul d] 41
                    have x0 := xb.cell 0
                    have x2 := xb.cell 2
                    have x3 := xb.cell 3
                    have K5 := Lib.hid (KQ.out.trans (hba.mono KQ.out.size))
                    clear k0 k1 k2 k3 k4 hba xb
                    go_wp2_with fail
                    go_roundw
                    case rel => exact ⟨q + 1, by omega, by go_num, K5.out⟩
                    case measure => simp [intOf]; omega
                  · obtain rfl : q = p := by omega
                    have H5 := Lib.hid (And.intro (H4.out.1.up KQ.out) (And.intro (H4.out.2.1.up KQ.out) (And.intro (bthen' H4.out.2.2.1 KQ.out) (H4.out.2.2.2.up KQ.out))))
                    clear H4 KQ HSM
                    go_upto_if 133 with fail
                    go_cut [] from 28 (fun W' => Below wr.heap.size wr W')
                    case first =>
                      by_cases z1 : th ≤ (q : Int)
                      · have HJ := Lib.hid (join_sub HX.out.1 HX.out.2.2.2.1 (by rw [HX.out.2.2.2.2.1]; exact z1) (by rw [HX.out.2.2.2.2.1]; omega) A6 c6 n q HL.out.1 HX.out.2.2.2.2.1 wr (HA.out.1.below H5.out.2.2.1) H5.out.2.2.2)
                        have HST := Lib.hid (fun (A : Option Addr) (c : Nat) (w' : World) (h : Sl w' A s c) => sl_str h HL.out.1)
                        have e1 : decide (th ≤ (q : Int)) = true := decide_eq_true z1
                        have e2 : ¬ (q : Int) < th := by omega
                        have e3 : decide ((q : Int) < th) = false := decide_eq_false e2
                        go_wp2_with fail
                        refine HJ.out.mono ?_
                        rintro e w6 ⟨A7, c7, rfl, hs7, hb7⟩
                        have hs8 := HST.out _ _ _ hs7
                        have hs9 := HST.out _ _ _ (HA.out.2.1.up (bthen' H5.out.2.2.1 hb7))
                        have HB := Lib.hid hb7
                        clear hs7 hb7
                        go_wp2_with fail
                        go_meet
                        case rel => exact HB.out
                      · have e1 : decide (th ≤ (q : Int)) = false := decide_eq_false z1
                        have e2 : (q : Int) < th := by omega
                        have e3 : decide ((q : Int) < th) = true := decide_eq_true e2
                        by_cases z2 : q = 0
                        · have e4 : decide ((0 : Int) < (q : Int)) = false := decide_eq_false (by omega)
                          have e5 : ¬ (0 : Int) < (q : Int) := by omega
                          have e6 : ¬ 0 < q := by omega
                          clear z2
                          go_wp2_with fail
                          go_meet
                          case rel => exact Below.refl _ _
                        · have e4 : decide ((0 : Int) < (q : Int)) = true := decide_eq_true (by omega)
                          have e5 : (0 : Int) < (q : Int) := by omega
                          have e6 : 0 < q := by omega
                          obtain ⟨_, ⟨v3, v4⟩, v5, v6⟩ := hide_few HX.out.1 (HO.out.trans HL.out.1.symm) mask X HX.out.2.2.1 (by rw [HX.out.2.2.2.2.1]; exact e6) (by rw [HX.out.2.2.2.2.1]; exact e2)
                          have HE := Lib.hid (explain_any A6 A1 c6 c1 X other wr (HA.out.1.below H5.out.2.2.1) H5.out.2.2.2 (HA.out.2.2.1.up H5.out.2.2.1) (by rw [HX.out.2.2.2.2.1]; omega) (by rw [HO.out]; omega))
                          unfold ExPost at HE
                          obtain ⟨C, hC⟩ : ∃ C, ex X other = C := ⟨_, rfl⟩
                          rw [HO.out, HX.out.2.2.2.2.1, v3, hC] at HE
                          rw [hC] at v4 v5 v6
                          obtain ⟨cn, hcn⟩ : ∃ cn, C.length = cn := ⟨_, rfl⟩
                          obtain ⟨M, hM⟩ : ∃ M, spl other ep th mn C = M := ⟨_, rfl⟩
                          have hMl := spl_length v5
                          rw [HL.out.2.2.2.2.2, hM] at hMl
                          rw [hM] at v6
                          have HZ := Lib.hid (fun (A : Option Addr) (c : Nat) w1 (hb : Below wr.heap.size wr w1) (hc : Sl w1 A C c) => split_any A1 A c1 c other C ep th mn w1 (HA.out.1.below (bthen' H5.out.2.2.1 hb)) (HA.out.2.2.1.up (bthen' H5.out.2.2.1 hb)) hc (by rw [HO.out]; omega) (Nat.le_trans v4 (by decide)))
                          unfold SplitPost at HZ
                          rw [HO.out, v5, hM, hMl, hcn] at HZ
                          rw [hcn] at HE
                          have HSM := Lib.hid (fun (A : Option Addr) (c : Nat) w1 (hs : SS w1 A M c) => some_any A c M mask w1 hs (by omega))
                          unfold SomePost at HSM
                          rw [v6, hMl, HX.out.2.2.2.2.1] at HSM
                          have HSA := Lib.hid (fun (A A' : Option Addr) (c c' : Nat) w1 (hs : SS w1 A X c) (hs' : SS w1 A' X c') => sames_any A A' c c' q X w1 hs hs' HX.out.2.2.2.2.1 (by omega))
                          clear v3 v4 v5 v6 hC hM hcn hMl z2
                          go_wp2_with fail
                          refine HE.out.mono ?_
                          rintro e w5 ⟨A7, c7, rfl, hs7, hb7⟩
                          have H6 := Lib.hid (And.intro (H5.out.2.2.2.up hb7) (And.intro hb7 hs7))
                          clear hs7 hb7
                          go_wp2_with fail
                          refine (HZ.out A7 c7 w5 H6.out.2.1 H6.out.2.2).mono ?_
                          rintro e w6 ⟨A8, c8, rfl, hs8, hb8⟩
                          have H7 := Lib.hid (And.intro (H6.out.1.up hb8) (And.intro (bthen' H6.out.2.1 hb8) hs8))
                          clear hs8 hb8
                          go_wp2_with fail
                          refine (HSM.out A8 c8 w6 H7.out.2.2).mono ?_
                          rintro e w7 ⟨A9, c9, rfl, hs9, hb9⟩
                          have H8 := Lib.hid (And.intro (H7.out.1.up hb9) (And.intro (bthen' H7.out.2.1 hb9) hs9))
                          clear hs9 hb9
                          go_wp2_with fail
                          refine (HSA.out A9 A6 c9 c6 w7 H8.out.2.2 H8.out.1).mono ?_
                          rintro e w8 ⟨rfl, hb8⟩
                          have HB := Lib.hid (bthen' H8.out.2.1 hb8)
                          clear hb8
                          go_wp2_with fail
                          go_meet
                          case rel => exact HB.out
                    case rest =>
                      have H6 := Lib.hid (And.intro (H5.out.1.up hcut) (And.intro (H5.out.2.1.up hcut) (bthen' H5.out.2.2.1 hcut)))
                      clear hcut H5
                      by_cases z1 : ep = 3
                      · have e1 : (ep == 3) = true := by simpa using z1
                        clear z1
                        go_wp2_with fail
                        go_ret
                        exact ⟨rfl, H6.out.2.2⟩
                      · have e1 : (ep == 3) = false := by simpa using z1
                        have HEP := Lib.hid z1
                        obtain ⟨O, hO⟩ : ∃ O, sel Lx mixed = O := ⟨_, rfl⟩
                        obtain ⟨Y, hY⟩ : ∃ Y, sel Lk (~~~mixed) = Y := ⟨_, rfl⟩
                        have hOl : O.length ≤ ln := by rw [← hO, ← HT.out.2.2]; exact (sel_sub _ _).length_le
                        have hYl : Y.length ≤ ln := by rw [← hY, ← HX.out.2.2.2.2.2]; exact (sel_sub _ _).length_le
                        have HSO := Lib.hid (some_any A2 c2 Lx mixed wc H6.out.2.1 (by rw [HT.out.2.2]; omega))
                        unfold SomePost at HSO
                        rw [hO, HT.out.2.2] at HSO
                        have HSY := Lib.hid (fun w1 (hs : SS w1 A Lk c) => some_any A c Lk (~~~mixed) w1 hs (by rw [HX.out.2.2.2.2.2]; omega))
                        unfold SomePost at HSY
                        rw [hY, HX.out.2.2.2.2.2] at HSY
                        obtain ⟨on, hon⟩ : ∃ on, O.length = on := ⟨_, rfl⟩
                        obtain ⟨yn, hyn⟩ : ∃ yn, Y.length = yn := ⟨_, rfl⟩
                        rw [hon] at HSO hOl
                        rw [hyn] at HSY hYl
                        have HOY := Lib.hid (And.intro hO (And.intro hY (And.intro hon hyn)))
                        clear hO hY hon hyn z1
                        go_wp2_with fail
                        refine HSO.out.mono ?_
                        rintro e w5 ⟨A7, c7, rfl, hs7, hb7⟩
                        have H7 := Lib.hid (And.intro (H6.out.1.up hb7) (And.intro hs7 (bthen' H6.out.2.2 hb7)))
                        clear hs7 hb7
                        have hun := fun w => un_xor mixed w
                        go_wp2_with fail
                        refine (HSY.out w5 H7.out.1).mono ?_
                        rintro e w6 ⟨A8, c8, rfl, hs8, hb8⟩
                        have H8 := Lib.hid (And.intro (H7.out.2.1.up hb8) (And.intro hs8 (bthen' H7.out.2.2 hb8)))
                        clear hs8 hb8 hun H7 HSY HSO H6
                        by_cases z1 : on = 0
                        · have y1 : ((on : Int) == 0) = true := by simpa using (show (on : Int) = 0 by omega)
                          have y2 : (on : Int) = 0 := by omega
                          clear z1
                          go_wp2_with fail
                          go_ret
                          exact ⟨rfl, H8.out.2.2⟩
                        · have y1 : ((on : Int) == 0) = false := by simpa using (show ¬ (on : Int) = 0 by omega)
                          by_cases z2 : yn = 0
                          · have y3 : ((yn : Int) == 0) = true := by simpa using (show (yn : Int) = 0 by omega)
                            clear z1 z2
                            go_wp2_with fail
                            go_ret
                            exact ⟨rfl, H8.out.2.2⟩
                          · have y3 : ((yn : Int) == 0) = false := by simpa using (show ¬ (yn : Int) = 0 by omega)
                            obtain ⟨MX, hM1, hM2, hM3⟩ := mixes HL.out.2.2.1 HX.out.1 HL.out.2.2.2.2.2 HEP.out O Y (by rw [HL.out.2.2.2.1]; exact HOY.out.1) (by rw [HX.out.2.1]; exact HOY.out.2.1) (by rw [HOY.out.2.2.1]; omega) (by rw [HOY.out.2.2.2]; omega)
                            have HM := Lib.hid (And.intro hM1 (And.intro hM2 hM3))
                            obtain ⟨tn, htn⟩ : ∃ tn, on + yn = tn := ⟨_, rfl⟩
                            obtain ⟨T, hT⟩ : ∃ T, O ++ Y = T := ⟨_, rfl⟩
                            have hTl : T.length = tn := by rw [← hT, List.length_append, HOY.out.2.2.1, HOY.out.2.2.2]; exact htn
                            rw [hT] at HM
                            have HTT := Lib.hid (And.intro hT (And.intro hTl (And.intro htn (show 0 < on ∧ 0 < yn ∧ tn ≤ 16 by omega))))
                            have HMN := Lib.hid (show mn = (ln : Int) by have := HL.out.2.2.2.2.2; have := HT.out.2.1; omega)
                            clear hM1 hM2 hM3 htn hT hTl z1 z2
                            go_upto_region 40 with fail
                            go_wp2_with fail
                            go_loopw [36, 37] (fun v i wr => ∃ (k : Nat) (A' : Option Addr) (c' : Nat), k ≤ ln ∧ v = .slice A' k c' ∧ i = .int .i64 ((k : Int) + 1) ∧ OwnS w6.heap.size w6 wr A' c' ((List.range k).map MX) ∧ Below w6.heap.size w6 wr) (fun _ i _ => ln + 1 - (intOf i).toNat)
                            case atStart => exact ⟨0, none, 0, Nat.zero_le _, rfl, rfl, OwnS.nil _ _ _, Below.refl _ _⟩
                            case round =>
                              obtain ⟨kk, A', c', hkk, rfl, rfl, hO, hb⟩ := hrel
                              obtain ⟨V, rfl⟩ : ∃ V, V = wr := ⟨_, rfl⟩
                              have KR := Lib.hid (And.intro hO hb)
                              clear hO hb
                              by_cases hlt : kk < ln
                              · have hmn := HMN.out
                                have u1 : decide ((kk : Int) + 1 ≤ mn) = true := decide_eq_true (by omega)
                                have u2 : ¬ mn < (kk : Int) + 1 := by omega
                                have u3 : decide (mn < (kk : Int) + 1) = false := decide_eq_false u2
                                have u4 : (kk : Int) + 1 ≤ mn := by omega
                                obtain ⟨FT, hF0, hFs, hFt, hFl⟩ := filts T tn HTT.out.2.1 kk (MX kk) (HM.out.1 kk hlt)
                                have HF := Lib.hid (And.intro hF0 (And.intro hFs (And.intro hFt hFl)))
                                have HB0 := Lib.hid (KR.out.2.alloc KR.out.2.size (.cells #[] 41))
                                have HBV := Lib.hid ((Below.refl V.heap.size V).alloc (Nat.le_refl _) (.cells #[] 41))
                                clear hmn hF0 hFs hFt hFl
                                go_wp2_with (first
                                  | (at_builtin; (refine wpList_append_oss (B := V.heap.size) (w := w6) rfl (.tmp 202) (.tmp 203) rfl (some ⟨V.heap.size, 0, none⟩) [] 0 0 rfl rfl (OwnS.start (Nat.le_refl _)) O A7 on c7 HOY.out.2.2.1 HTT.out.2.2.2.1 rfl H8.out.1 HB0.out on (Nat.zero_add on) O rfl (by omega) HBV.out.size ?_; intro g4 c4' W4 ho4 hb4; have HO4 := Lib.hid (And.intro ho4 (And.intro (HB0.out.trans (hb4.mono KR.out.2.size)) (HBV.out.trans hb4))); clear ho4 hb4))
                                  | (at_builtin; (refine wpList_append_oss (B := V.heap.size) (w := w6) rfl (.tmp 204) (.tmp 205) rfl (some ⟨g4, 0, none⟩) O on c4' HOY.out.2.2.1 rfl HO4.out.1 Y A8 yn c8 HOY.out.2.2.2 HTT.out.2.2.2.2.1 rfl H8.out.2.1 HO4.out.2.1 tn HTT.out.2.2.1 T HTT.out.1 (by have := HTT.out.2.2.2.2.2; omega) HO4.out.2.2.size ?_; intro g5 c5' W5 ho5 hb5; have HO5 := Lib.hid (And.intro ho5 (And.intro (HO4.out.2.1.trans (hb5.mono KR.out.2.size)) (HO4.out.2.2.trans hb5))); clear ho5 hb5)))
                                have hK5 := KR.out.1.below HO5.out.2.2
                                have hne5 : ∀ g, A' = some ⟨g, 0, none⟩ → g ≠ g5 := fun g hg e => by
                                  have h1 := (KR.out.1.lt g 0 none hg).2
                                  have h2 := (HO5.out.1.lt g5 0 none rfl).1
                                  omega
                                have HST := Lib.hid (And.intro hK5 hne5)
                                clear hK5 hne5
                                go_loopw [36, 208] (fun v i wr => ∃ (j t : Nat) (A9 : Option Addr) (c9 : Nat), j ≤ tn ∧ v = .slice A9 t c9 ∧ i = .int .i64 (j : Nat) ∧ t = kk + (FT j).length ∧ OwnS w6.heap.size w6 wr A9 c9 ((List.range kk).map MX ++ FT j) ∧ OwnS V.heap.size w6 wr (some ⟨g5, 0, none⟩) c5' T ∧ (∀ g, A9 = some ⟨g, 0, none⟩ → g ≠ g5) ∧ Below w6.heap.size w6 wr) (fun _ i _ => tn - (intOf i).toNat)
                                case atStart => exact ⟨0, kk, A', c', Nat.zero_le _, rfl, rfl, by rw [HF.out.1]; rfl, by rw [HF.out.1, List.append_nil]; exact HST.out.1, HO5.out.1, HST.out.2, HO5.out.2.1⟩
                                case round =>
                                  obtain ⟨j, t, A9, c9, hj, rfl, rfl, ht, hO9, hT9, hn9, hb9⟩ := hrel
                                  have K9 := Lib.hid (And.intro hO9 (And.intro hT9 (And.intro hn9 hb9)))
                                  have HT9 := Lib.hid ht
                                  clear hO9 hT9 hn9 hb9 ht
                                  by_cases hlj : j < tn
                                  · obtain ⟨u, hu⟩ : ∃ u, T[j]? = some u := ⟨_, List.getElem?_eq_getElem (by rw [HTT.out.2.1]; exact hlj)⟩
                                    obtain ⟨D, d, hc, hD⟩ := K9.out.2.1.at_ hu
                                    have k0 : wr.cell? ⟨g5, j * 5, none⟩ = some (.int .i64 u.ep) := hc 0 (by omega)
                                    have k1 : wr.cell? ⟨g5, j * 5 + 1, none⟩ = some (.int .i64 u.ix) := hc 1 (by omega)
                                    have k2 : wr.cell? ⟨g5, j * 5 + 2, none⟩ = some (.int .i64 u.th) := hc 2 (by omega)
                                    have k3 : wr.cell? ⟨g5, j * 5 + 3, none⟩ = some (.int .i64 u.mn) := hc 3 (by omega)
                                    have k4 : wr.cell? ⟨g5, j * 5 + 4, none⟩ = some (.slice D u.data.length d) := hc 4 (by omega)
                                    have i1 : (0 : Int) ≤ (j : Int) := by omega
                                    have i2 : (j : Int) < (tn : Int) := by omega
                                    have HU := Lib.hid (And.intro hu hD)
                                    have htn16 : tn ≤ 16 := HTT.out.2.2.2.2.2
                                    have hfs := HF.out.2.1 j u hu
                                    clear hu hD hc
                                    have B1 := (Below.refl wr.heap.size wr).alloc (Nat.le_refl _) (.cells #[.int .i64 u.ep, .int .i64 u.ix, .int .i64 u.th, .int .i64 u.mn, .slice D u.data.length d] 41)
                                    have xb := Box.new wr #[.int .i64 u.ep, .int .i64 u.ix, .int .i64 u.th, .int .i64 u.mn, .slice D u.data.length d] 41
                                    have x0 := xb.cell 0
                                    have x1 := xb.cell 1
                                    have x2 := xb.cell 2
                                    have x3 := xb.cell 3
                                    have x4 := xb.cell 4
                                    by_cases hix : u.ix = (kk : Int) + 1
                                    · have v1 : (u.ix == (kk : Int) + 1) = true := by simpa using hix
                                      rw [if_pos hix] at hfs
                                      have HFS := Lib.hid hfs
                                      have B2 := B1.alloc B1.size (.cells #[.int .i64 u.ep, .int .i64 u.ix, .int .i64 u.th, .int .i64 u.mn, .slice D u.data.length d] 41)
                                      have xq := Box.new (wr.alloc (.cells #[.int .i64 u.ep, .int .i64 u.ix, .int .i64 u.th, .int .i64 u.mn, .slice D u.data.length d] 41)) #[.int .i64 u.ep, .int .i64 u.ix, .int .i64 u.th, .int .i64 u.mn, .slice D u.data.length d] 41
                                      rw [World.size_alloc] at xq
                                      have hs2 : w6.heap.size ≤ ((wr.alloc (.cells #[.int .i64 u.ep, .int .i64 u.ix, .int .i64 u.th, .int .i64 u.mn, .slice D u.data.length d] 41)).alloc (.cells #[.int .i64 u.ep, .int .i64 u.ix, .int .i64 u.th, .int .i64 u.mn, .slice D u.data.length d] 41)).heap.size := Nat.le_trans K9.out.2.2.2.size B2.size
                                      have HAP := Lib.hid (And.intro (K9.out.1.below B2) (And.intro xq hs2))
                                      have hts : t ≤ 100 := by
                                        have h1 := HT9.out
                                        have h2 := HF.out.2.2.2 j
                                        have h3 := HTT.out.2.2.2.2.2
                                        omega
                                      have HTL : Hid (((List.range kk).map MX ++ FT j).length = t) := by rw [Hid, List.length_append, List.length_map, List.length_range]; exact HT9.out.symm
                                      clear hix hfs B1 B2 xb xq hs2
                                      go_wp2_with (at_builtin; refine wpList_append_os1 (B := w6.heap.size) (w := w6) rfl (.tmp 216) (.tmp 218) rfl A9 ((List.range kk).map MX ++ FT j) t c9 HTL.out rfl HAP.out.1 (wr.heap.size + 1) u D d rfl HAP.out.2.1 HU.out.2 (by omega) HAP.out.2.2 ?_; intro g6 c6' W7 ho7 hg7 hat7 hbb7; have H7 := Lib.hid (And.intro ho7 (ref_step K9.out.1 K9.out.2.1 K9.out.2.2.1 K9.out.2.2.2 hg7 hat7 hbb7)); clear ho7 hg7 hat7 hbb7)
                                      go_roundw
                                      case rel => exact ⟨j + 1, t + 1, some ⟨g6, 0, none⟩, c6', by omega, rfl, by go_num, by rw [HFS.out, List.length_append, HT9.out]; rfl, by rw [HFS.out, ← List.append_assoc]; exact H7.out.1, H7.out.2.1, H7.out.2.2.1, H7.out.2.2.2⟩
                                      case measure => simp [intOf]; omega
                                    · have v1 : (u.ix == (kk : Int) + 1) = false := by simpa using hix
                                      rw [if_neg hix, List.append_nil] at hfs
                                      have HFS := Lib.hid hfs
                                      have HAP := Lib.hid (And.intro (K9.out.1.below B1) (And.intro (K9.out.2.1.below B1) (K9.out.2.2.2.trans (B1.mono K9.out.2.2.2.size))))
                                      clear hix hfs B1 xb
                                      go_wp2_with fail
                                      go_roundw
                                      case rel => exact ⟨j + 1, t, A9, c9, by omega, rfl, by go_num, by rw [HFS.out]; exact HT9.out, by rw [HFS.out]; exact HAP.out.1, HAP.out.2.1, K9.out.2.2.1, HAP.out.2.2⟩
                                      case measure => simp [intOf]; omega
                                  · obtain rfl : j = tn := by omega
                                    have ht2 : t = kk + 1 := by rw [HT9.out, HF.out.2.2.1]; rfl
                                    subst ht2
                                    have hl9 := K9.out.1
                                    rw [HF.out.2.2.1] at hl9
                                    have HL9 := Lib.hid (And.intro hl9 K9.out.2.2.2)
                                    clear hl9
                                    go_wp2_with fail
                                    go_roundw
                                    case rel => exact ⟨kk + 1, A9, c9, by omega, rfl, by go_num, by rw [List.range_succ, List.map_append]; exact HL9.out.1, HL9.out.2⟩
                                    case measure => simp [intOf]; omega
                              · obtain rfl : kk = ln := by omega
                                have hmn := HMN.out
                                have u1 : decide ((kk : Int) + 1 ≤ mn) = false := decide_eq_false (by omega)
                                have u2 : mn < (kk : Int) + 1 := by omega
                                have u3 : decide (mn < (kk : Int) + 1) = true := decide_eq_true u2
                                have hwb := bthen' H8.out.2.2 KR.out.2
                                have HJ := Lib.hid (join_any A' c' ((List.range kk).map MX) V (HA.out.1.below hwb) (KR.out.1.ss KR.out.2) (by simp; omega))
                                unfold JoinPost at HJ
                                rw [HM.out.2.1, HM.out.2.2, List.length_map, List.length_range] at HJ
                                have HWB := Lib.hid hwb
                                clear hmn hwb
                                go_wp2_with fail
                                refine HJ.out.mono ?_
                                rintro e w9 ⟨A9, c9, rfl, hs9, hb9⟩
                                have H9 := Lib.hid (bthen' HWB.out hb9)
                                clear hs9 hb9
                                go_wp2_with fail
                                go_ret
                                exact ⟨rfl, H9.out⟩

          · have e1 : (E != 0) = true := by simpa using g5
            have hLe : Lx = [] := by rw [← hLx]; exact if_neg (fun h => g5 (hE.symm.trans h))
            have hL0 : Lx.length = 0 := by rw [hLe]; rfl
            rw [hL0] at HP
            clear hE hLx hLe hL0
            generalize s.length = n at *
            generalize coins.length = mp at *
            generalize more.length = nm at *
            go_enter Tryd.func7, Tryd.ntmps7
            go_wp2_with fail
            refine HS.out.mono ?_
            rintro e w1 ⟨rfl, hb1⟩

            go_wp2_with fail
            refine (HP.out w1 hb1).mono ?_
            rintro e w2 ⟨A2, c2, rfl, hs2, hb2⟩
            have H2 := Lib.hid (bthen' hb1 hb2)
            clear hs2 hb1 hb2
            go_wp2_with fail
            go_ret
            exact ⟨rfl, H2.out⟩
        · have e1 : ((other.length : Int) != (s.length : Int)) = true := by simp; omega
          have e2 : ¬ (other.length : Int) = (s.length : Int) := by omega
          have e3 : ¬ other.length = s.length := g4
          generalize s.length = n at *
          generalize other.length = no at *
          generalize coins.length = mp at *
          generalize more.length = nm at *
          go_enter Tryd.func7, Tryd.ntmps7
          go_wp2_with fail
          refine HS.out.mono ?_
          rintro e w1 ⟨rfl, hb1⟩
          go_wp2_with fail
          go_ret
          exact ⟨rfl, hb1⟩

end Go.Proofs.YtmchnkfnnodecaaDoor
