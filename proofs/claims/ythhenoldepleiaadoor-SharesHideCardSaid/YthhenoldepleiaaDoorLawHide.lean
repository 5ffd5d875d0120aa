/- The reference's Same of equal lists; fewer shares explain every secret, in plain words; SharesHide. -/
import Derived.Test.YthhenoldepleiaaDoorAnyP
import Derived.Test.YthhenoldepleiaaDoorExplain
import Derived.Test.YthhenoldepleiaaDoorRef
import Derived.Test.YthhenoldepleiaaDoorQl
import Derived.Lib.QuietBelow
import Derived.Deep.QuietTactic
import Derived.LoopTactic
import Derived.Test.YthhenoldepleiaaDoorSane
namespace Go.Proofs.YthhenoldepleiaaDoor
section
open Go.RowKit Go.Sort
set_option linter.unusedVariables false

set_option maxHeartbeats 2000000 in
set_option maxRecDepth 100000 in
theorem samesh_any (s : Shr) (A1 A2 : Option Addr) (c1 c2 : Nat) (w : World) (h1 : Sl w A1 s.data c1) (h2 : Sl w A2 s.data c2) : Calls Tryd.prog 36 #[shv s A1 c1, shv s A2 c2] w fun e w' => e = .returned (.bool true) ∧ Below w.heap.size w w' := by
  have hb0 : Below w.heap.size w ((w.alloc (.cells #[.int .i64 s.ep, .int .i64 s.ix, .int .i64 s.th, .int .i64 s.mn, .slice A1 s.data.length c1] 41)).alloc (.cells #[.int .i64 s.ep, .int .i64 s.ix, .int .i64 s.th, .int .i64 s.mn, .slice A2 s.data.length c2] 41)) :=
    ((Below.refl _ w).alloc (Nat.le_refl _) _).alloc (by simp) _
  have e1 := sl_str (h1.up hb0) rfl
  have e2 := sl_str (h2.up hb0) rfl
  have HB := Lib.hid hb0
  clear hb0 h1 h2
  unfold shv
  generalize (ByteArray.mk s.data.toArray) = str at *
  generalize s.data.length = n at *
  go_enter Tryd.func36, Tryd.ntmps36
  go_wp2_with fail
  go_ret
  exact ⟨rfl, HB.out⟩

set_option maxHeartbeats 2000000 in
set_option maxRecDepth 100000 in
theorem sames_any (A A2 : Option Addr) (c c2 n : Nat) (l : List Shr) (w : World) (hS : SS w A l c) (hS2 : SS w A2 l c2) (hn : l.length = n) (hl : n ≤ 1000000) :
    Calls Tryd.prog 16 #[.slice A n c, .slice A2 n c2] w fun e w' => e = .returned (.bool true) ∧ Below w.heap.size w w' := by
  have HS := Lib.hid (And.intro hS hS2)
  have HN := Lib.hid hn
  clear hS hS2 hn
  go_enter Tryd.func16, Tryd.ntmps16
  go_wp2_with fail
  go_loopw [5] (fun i wr => ∃ k : Nat, k ≤ n ∧ i = .int .i64 k ∧ Below w.heap.size w wr) (fun i _ => n - (intOf i).toNat)
  case atStart => exact ⟨0, Nat.zero_le _, rfl, Below.refl _ _⟩
  case round =>
    obtain ⟨k, hk, rfl, hbw⟩ := hrel
    have HBW := Lib.hid hbw
    by_cases hlt : k < n
    · obtain ⟨b, off, rfl, hb, hat⟩ := HS.out.1.1 (by rw [HN.out]; omega)
      obtain ⟨b2, off2, rfl, hb2, hat2⟩ := HS.out.2.1 (by rw [HN.out]; omega)
      obtain ⟨s, hs⟩ : ∃ s, l[k]? = some s := ⟨l[k]'(by rw [HN.out]; exact hlt), List.getElem?_eq_getElem _⟩
      obtain ⟨D1, d1, a0, a1, a2, a3, a4, aD⟩ := (hat k s hs).up hb hbw
      obtain ⟨D2, d2, e0, e1, e2, e3, e4, eD⟩ := (hat2 k s hs).up hb2 hbw
      have hsn := fun W (h : Below wr.heap.size wr W) => samesh_any s D1 D2 d1 d2 W (aD.up h) (eD.up h)
      unfold shv at hsn
      have HSN := Lib.hid hsn
      have g0 := fun d os => cell_regrown a0 d os
      have g1 := fun d os => cell_regrown a1 d os
      have g2 := fun d os => cell_regrown a2 d os
      have g3 := fun d os => cell_regrown a3 d os
      have g4 := fun d os => cell_regrown a4 d os
      have f0 := fun d os => cell_regrown e0 d os
      have f1 := fun d os => cell_regrown e1 d os
      have f2 := fun d os => cell_regrown e2 d os
      have f3 := fun d os => cell_regrown e3 d os
      have f4 := fun d os => cell_regrown e4 d os
      have i1 : (0 : Int) ≤ (k : Int) := by omega
      have i2 : (k : Int) < (n : Int) := by omega
      clear a0 a1 a2 a3 a4 e0 e1 e2 e3 e4 aD eD hsn hat hat2 hs hbw
      generalize s.data.length = sl at *
      go_wp2_with fail
      refine wp_region_quiet_below (by kernel_rfl) (by kernel_rfl) ?_
      repeat (quiet_step ((go_at_call 36; exact Calls.regrownAll HSN.out _ _)))
      refine wpQuiet_nil ?_
      intro w6 hw'
      have hb6 : Below wr.heap.size wr w6 := by
        obtain ⟨p, rfl⟩ := hw'
        exact below_regrown wr p.d p.os
      have B6 := Lib.hid (HBW.out.trans (hb6.mono HBW.out.size))
      clear hw' hb6 g0 g1 g2 g3 g4 f0 f1 f2 f3 f4 HSN
      go_wp2_with fail
      go_roundw
      case rel => exact ⟨k + 1, by omega, by go_num, B6.out⟩
      case measure => simp [intOf]; omega
    · obtain rfl : k = n := by omega
      clear hbw
      go_wp2_with fail
      go_ret
      exact ⟨rfl, HBW.out⟩
end
section
set_option linter.unusedVariables false

theorem flat_row {α : Type} (e : Nat) : ∀ (ls : List (List α)), (∀ l ∈ ls, l.length = e) → ∀ p r, ls[p]? = some r → (ls.flatten.drop (p * e)).take e = r
  | [], _, p, r, h => by simp at h
  | l :: ls, h, 0, r, hr => by
    simp at hr
    subst hr
    have := h l (by simp)
    rw [Nat.zero_mul, List.drop_zero, List.flatten_cons, List.take_append_of_le_length (by omega), ← this, List.take_length]
  | l :: ls, h, p + 1, r, hr => by
    have hl := h l (by simp)
    have ih := flat_row e ls (fun x hx => h x (by simp [hx])) p r (by simpa using hr)
    rw [List.flatten_cons, Nat.add_mul, Nat.one_mul, Nat.add_comm, ← List.drop_drop, ← hl, List.drop_left, hl]
    exact ih
theorem flat_len {α : Type} (e : Nat) : ∀ (ls : List (List α)), (∀ l ∈ ls, l.length = e) → ls.flatten.length = ls.length * e
  | [], _ => by simp
  | l :: ls, h => by
    rw [List.flatten_cons, List.length_append, flat_len e ls (fun x hx => h x (by simp [hx])), h l (by simp), List.length_cons, Nat.add_mul]
    omega
theorem hv_zero (l : List UInt8) : hv l 0 = l.getD 0 0 := by
  cases l with
  | nil => rfl
  | cons c l => simp [hv, zero_gm]

/-- The points through which Explain's polynomial goes. -/
def exp_ (X : List Shr) (s : List UInt8) (q p : Nat) : List UInt8 := co (idxs X ++ oths q) (colm X p ++ othv (s.getD p 0) q)
theorem exp_isP {X : List Shr} (h : alk X = true) (s : List UInt8) (q p : Nat) (hq : 0 < q) (hq8 : q ≤ 8) : isP (idxs X ++ oths q) (colm X p ++ othv (s.getD p 0) q) :=
  ⟨by rw [List.length_append, List.length_append, idxs_length, oths_length, colm_length, othv_length _ _ hq], places_nodup h q hq8⟩
theorem exp_zero {X : List Shr} (h : alk X = true) (s : List UInt8) (q p : Nat) (hq : 0 < q) (hq8 : q ≤ 8) : (exp_ X s q p).getD 0 0 = s.getD p 0 := by
  have hP := exp_isP h s q p hq hq8
  have hl : (idxs X ++ oths q).length = X.length + q := by rw [List.length_append, idxs_length, oths_length]
  have h1 := co_at hP X.length (by omega)
  have e1 : (idxs X ++ oths q).getD X.length 0 = 0 := by
    rw [List.getD_eq_getElem?_getD, List.getElem?_append_right (by rw [idxs_length]; exact Nat.le_refl _), idxs_length, Nat.sub_self]
    unfold oths
    rw [List.getElem?_map, List.getElem?_range hq]
    rfl
  have e2 : (colm X p ++ othv (s.getD p 0) q).getD X.length 0 = s.getD p 0 := by
    rw [List.getD_eq_getElem?_getD, List.getElem?_append_right (by rw [colm_length]; exact Nat.le_refl _), colm_length, Nat.sub_self]
    rfl
  rw [e1, e2, hv_zero] at h1
  exact h1
theorem exp_len {X : List Shr} (h : alk X = true) (s : List UInt8) (q p : Nat) (hq : 0 < q) (hq8 : q ≤ 8) : (exp_ X s q p).length = X.length + q := by
  unfold exp_
  rw [co_len (exp_isP h s q p hq hq8), List.length_append, idxs_length, oths_length]
theorem exp_at {X : List Shr} (h : alk X = true) (s : List UInt8) (q p : Nat) (hq : 0 < q) (hq8 : q ≤ 8) {u : Shr} (hu : u ∈ X) : hv (exp_ X s q p) (ixb u) = u.data.getD p 0 := by
  obtain ⟨i, hi, e⟩ := List.mem_iff_getElem.1 hu
  have hg : X[i]? = some u := by rw [List.getElem?_eq_getElem hi, e]
  have hP := exp_isP h s q p hq hq8
  have h1 := co_at hP i (by rw [List.length_append, idxs_length]; omega)
  have e1 : (idxs X ++ oths q).getD i 0 = ixb u := by
    rw [List.getD_eq_getElem?_getD, List.getElem?_append_left (by rw [idxs_length]; exact hi)]
    unfold idxs
    rw [List.getElem?_map, List.getElem?_range hi]
    simp only [Option.map_some, Option.getD_some]
    rw [hg]
    rfl
  have e2 : (colm X p ++ othv (s.getD p 0) q).getD i 0 = u.data.getD p 0 := by
    rw [List.getD_eq_getElem?_getD, List.getElem?_append_left (by rw [colm_length]; exact hi)]
    unfold colm
    rw [List.getElem?_map, List.getElem?_range hi]
    simp only [Option.map_some, Option.getD_some]
    rw [hg]
    rfl
  rw [e1, e2] at h1
  exact h1
/-- The polynomial of a byte with the explaining coins is the one through the points. -/
theorem pcf_exp {X : List Shr} (h : alk X = true) (s : List UInt8) (q m p : Nat) (hq : 0 < q) (hq8 : q ≤ 8) (hX : 0 < X.length) (hp : p < m) : pcf s (((List.range m).map (exc X s q)).flatten) (X.length + q - 1) p = exp_ X s q p := by
  have hall : ∀ l ∈ (List.range m).map (exc X s q), l.length = X.length + q - 1 := fun l hl => by
    obtain ⟨i, _, rfl⟩ := List.mem_map.1 hl
    exact exc_length h hq hq8
  unfold pcf
  rw [flat_row _ _ hall p (exc X s q p) (by rw [List.getElem?_map, List.getElem?_range hp]; rfl)]
  have hl := exp_len h s q p hq hq8
  have hz := exp_zero h s q p hq hq8
  show s.getD p 0 :: (exp_ X s q p).drop 1 = exp_ X s q p
  cases hE : exp_ X s q p with
  | nil => rw [hE] at hl; simp at hl; omega
  | cons a l =>
    rw [hE] at hz
    simp at hz
    simp [hz]

theorem selk_congr {l l' : List Shr} {m : Nat} : ∀ {k : Nat}, (∀ i, i < k → i < 8 → m.testBit i = true → l[i]? = l'[i]?) → selk l m k = selk l' m k
  | 0, _ => rfl
  | k + 1, h => by
    simp only [selk]
    rw [selk_congr (fun i hi => h i (by omega))]
    by_cases hb : k < 8 ∧ m.testBit k = true
    · rw [if_pos hb, if_pos hb, h k (by omega) hb.1 hb.2]
    · rw [if_neg hb, if_neg hb]
theorem selk_mem {l : List Shr} {m : Nat} {i : Nat} {u : Shr} (h8 : i < 8) (ht : m.testBit i = true) (hi : l[i]? = some u) : ∀ {k : Nat}, i < k → u ∈ selk l m k
  | 0, h => by omega
  | k + 1, h => by
    simp only [selk, List.mem_append]
    by_cases e : i = k
    · subst e
      right
      rw [if_pos ⟨h8, ht⟩, hi]
      simp
    · left
      exact selk_mem h8 ht hi (by omega)

theorem spl_get {s coins : List UInt8} {ep th mn : Int} (h : spe s ep th mn coins = 0) {i : Nat} (hi : i < mn.toNat) : (spl s ep th mn coins)[i]? = some (psh ep th mn (pols s coins (th.toNat - 1)) i) := by
  rw [spl_eq h, List.getElem?_map, List.getElem?_range hi]
  rfl
theorem pols_get {s coins : List UInt8} {e p : Nat} (hp : p < s.length) : (pols s coins e).getD p [] = pcf s coins e p := by
  unfold pols
  rw [List.getD_eq_getElem?_getD, List.getElem?_map, List.getElem?_range hp]
  rfl

/-- Fewer shares than are needed: Join refuses them, and Explain's coins give the same shares back. -/
theorem hide_few {s other coins : List UInt8} {ep th mn : Int} (h : spe s ep th mn coins = 0) (ho : other.length = s.length) (mask : UInt8) (X : List Shr) (hX : sel (spl s ep th mn coins) mask = X) (hp : 0 < X.length) (hlt : (X.length : Int) < th) :
    (jne X = 60 ∧ jn X = []) ∧ (exe X other = 0 ∧ (ex X other).length ≤ 1000000) ∧ spe other ep th mn (ex X other) = 0 ∧ sel (spl other ep th mn (ex X other)) mask = X := by
  obtain ⟨h1, h2, h3, h4⟩ := spe_zero h
  have hsub : X.Sublist (spl s ep th mn coins) := hX ▸ sel_sub _ mask
  have hchk := sub_chk h hsub hp
  obtain ⟨a, ha, hath, had⟩ := head_th h hsub hp
  obtain ⟨hal, _⟩ := chk_zero hchk
  obtain ⟨t, hte⟩ : ∃ t : Nat, th = (t : Int) := ⟨th.toNat, by omega⟩
  have htt : th.toNat = t := by omega
  obtain ⟨q, hq⟩ : ∃ q, X.length + q = t := ⟨t - X.length, by omega⟩
  have hq0 : 0 < q := by omega
  have hq8 : q ≤ 8 := by omega
  have hthn : thn X = t := by unfold thn; rw [ha]; show a.th.toNat = t; rw [hath, htt]
  have hdln : dln X = s.length := by unfold dln; rw [ha]; exact had
  have hj : jne X = 60 := by
    unfold jne
    rw [if_neg (fun hh => hh hchk), ha]
    show (if (X.length : Int) < a.th then (60 : Int) else 0) = 60
    rw [hath, if_pos hlt]
  have hjn : jn X = [] := by unfold jn; rw [hj]; rfl
  have he : exe X other = 0 := by
    unfold exe
    rw [if_neg (fun hh => hh hchk), hthn, hdln, if_neg (by omega), if_neg (fun hh => hh ho)]
  have hex : ex X other = ((List.range s.length).map (exc X other q)).flatten := by
    unfold ex
    rw [if_pos he, hthn, hdln, show t - X.length = q by omega]
  have hall : ∀ l ∈ (List.range s.length).map (exc X other q), l.length = X.length + q - 1 := fun l hl => by
    obtain ⟨i, _, rfl⟩ := List.mem_map.1 hl
    exact exc_length hal hq0 hq8
  have hlen : (ex X other).length = other.length * (th.toNat - 1) := by
    rw [hex, flat_len _ _ hall, List.length_map, List.length_range, ho, htt, hq]
  have hsp : spe other ep th mn (ex X other) = 0 := by
    unfold spe
    rw [if_neg (by omega), if_neg (fun hh => hh h2), if_neg (fun hh => hh h3), if_neg (fun hh => hh hlen)]
  refine ⟨⟨hj, hjn⟩, ⟨he, ?_⟩, hsp, ?_⟩
  · rw [hlen, ho, htt]
    have := Nat.mul_le_mul h1 (show t - 1 ≤ 8 by omega)
    omega
  · have hl1 := (spl_facts h).1
    have hl2 := (spl_facts hsp).1
    refine Eq.trans ?_ hX
    unfold sel
    rw [hl1, hl2]
    refine selk_congr fun i hi h8 hb => ?_
    have hg1 := spl_get h hi
    have hg2 := spl_get hsp hi
    rw [hg1, hg2]
    congr 1
    have hmem : psh ep th mn (pols s coins (th.toNat - 1)) i ∈ X := by
      rw [← hX]
      unfold sel
      exact selk_mem h8 hb hg1 (by rw [hl1]; exact hi)
    obtain ⟨u, hu⟩ : ∃ u, psh ep th mn (pols s coins (th.toNat - 1)) i = u := ⟨_, rfl⟩
    have hud : u.data.length = s.length := by rw [← hu]; simp [psh, pols]
    have hui : ixb u = UInt8.ofNat (i + 1) := by rw [← hu]; rfl
    have hdat : (psh ep th mn (pols other (ex X other) (th.toNat - 1)) i).data = u.data := by
      apply List.ext_getElem?
      intro p
      by_cases hpl : p < s.length
      · simp only [psh, pols_length]
        rw [List.getElem?_map, List.getElem?_range (by omega)]
        show some (hv ((pols other (ex X other) (th.toNat - 1)).getD p []) (UInt8.ofNat (i + 1))) = _
        rw [pols_get (by omega), hex, htt, show t - 1 = X.length + q - 1 by omega, pcf_exp hal other q s.length p hq0 hq8 hp hpl, ← hui, exp_at hal other q p hq0 hq8 (hu ▸ hmem)]
        rw [List.getD_eq_getElem?_getD, List.getElem?_eq_getElem (by omega)]
        rfl
      · rw [List.getElem?_eq_none (by simp [psh, pols]; omega), List.getElem?_eq_none (by omega)]
    rw [hu]
    rw [← hu] at hdat ⊢
    unfold psh at hdat ⊢
    simp only at hdat
    rw [hdat]
end
open Go.RowKit
set_option linter.unusedVariables false

theorem hide_big (A0 A1 A5 : Option Addr) (n o m c0 c1 c5 : Nat) (ep th mn : Int) (a : UInt8) (w : World) (hK : KT w) (hn : n ≤ maxLen) (ho : o ≤ maxLen) (hm : m ≤ maxLen) (h : 20 < n ∨ 200 < m ∨ o ≠ n) :
    Calls Tryd.prog 6 #[.slice A0 n c0, .slice A1 o c1, .int .i64 ep, .int .i64 th, .int .i64 mn, .slice A5 m c5, bv a] w fun e w' => e = .returned (.bool true) ∧ Below w.heap.size w w' := by
  have HS := Lib.hid (sane_any w hK)
  unfold maxLen at hn hm ho
  by_cases h1 : 20 < n
  · have d1 : decide ((20 : Int) < (n : Int)) = true := decide_eq_true (by omega)
    have d3 : (20 : Int) < (n : Int) := by omega
    go_enter Tryd.func6, Tryd.ntmps6
    go_wp2_with fail
    refine HS.out.mono ?_
    rintro e w1 ⟨rfl, hb1⟩
    go_wp2_with fail
    go_ret
    exact ⟨rfl, hb1⟩
  · have d1 : decide ((20 : Int) < (n : Int)) = false := decide_eq_false (by omega)
    have d3 : ¬ (20 : Int) < (n : Int) := by omega
    by_cases h2 : 200 < m
    · have d2 : decide ((200 : Int) < (m : Int)) = true := decide_eq_true (by omega)
      have d4 : (200 : Int) < (m : Int) := by omega
      go_enter Tryd.func6, Tryd.ntmps6
      go_wp2_with fail
      refine HS.out.mono ?_
      rintro e w1 ⟨rfl, hb1⟩
      go_wp2_with fail
      go_ret
      exact ⟨rfl, hb1⟩
    · have d2 : decide ((200 : Int) < (m : Int)) = false := decide_eq_false (by omega)
      have d4 : ¬ (200 : Int) < (m : Int) := by omega
      have d5 : ¬ (o : Int) = (n : Int) := by omega
      have d6 : ((o : Int) != (n : Int)) = true := by simpa using d5
      go_enter Tryd.func6, Tryd.ntmps6
      go_wp2_with fail
      refine HS.out.mono ?_
      rintro e w1 ⟨rfl, hb1⟩
      go_wp2_with fail
      go_ret
      exact ⟨rfl, hb1⟩

set_option maxHeartbeats 8000000 in
set_option maxRecDepth 100000 in
theorem hide_small (A0 A1 A5 : Option Addr) (c0 c1 c5 : Nat) (s other coins : List UInt8) (ep th mn : Int) (a : UInt8) (w : World) (hK : KT w) (hS : Sl w A0 s c0) (hO : Sl w A1 other c1) (hC : Sl w A5 coins c5) (hn : s.length ≤ 20) (hm : coins.length ≤ 200) (ho : other.length = s.length) :
    Calls Tryd.prog 6 #[.slice A0 s.length c0, .slice A1 s.length c1, .int .i64 ep, .int .i64 th, .int .i64 mn, .slice A5 coins.length c5, bv a] w fun e w' => e = .returned (.bool true) ∧ Below w.heap.size w w' := by
  have HS := Lib.hid (sane_any w hK)
  have HSP := Lib.hid (fun w1 (hb : Below w.heap.size w w1) => split_any A0 A5 c0 c5 s coins ep th mn w1 (hK.below hb) (hS.up hb) (hC.up hb) (by omega) (by omega))
  unfold SplitPost at HSP
  have HK := Lib.hid (And.intro hK (And.intro hS (And.intro hO hC)))
  have HO := Lib.hid ho
  have d1 : decide ((20 : Int) < (s.length : Int)) = false := decide_eq_false (by omega)
  have d2 : decide ((200 : Int) < (coins.length : Int)) = false := decide_eq_false (by omega)
  have d3 : ¬ (20 : Int) < (s.length : Int) := by omega
  have d4 : ¬ (200 : Int) < (coins.length : Int) := by omega
  clear hK hS hC hO ho
  obtain ⟨E, hE⟩ : ∃ E, spe s ep th mn coins = E := ⟨_, rfl⟩
  obtain ⟨L, hL⟩ : ∃ L, spl s ep th mn coins = L := ⟨_, rfl⟩
  have HEL := Lib.hid (And.intro hE hL)
  rw [hE, hL] at HSP
  clear hE hL
  by_cases q1 : E = 0
  · subst q1
    obtain ⟨f1, f2, f3, f4⟩ := spe_zero HEL.out.1
    have hLl : L.length ≤ 8 := by
      have := (spl_facts HEL.out.1).1
      rw [HEL.out.2] at this
      omega
    obtain ⟨X, hX⟩ : ∃ X, sel L a = X := ⟨_, rfl⟩
    have hXs : X.Sublist L := hX ▸ sel_sub L a
    have hX8 := hXs.length_le
    have HSO := Lib.hid (fun (A : Option Addr) (c : Nat) w1 (hs : SS w1 A L c) => some_any A c L a w1 hs (by omega))
    rw [hX] at HSO
    unfold SomePost at HSO
    have hXS : X.Sublist (spl s ep th mn coins) := by rw [HEL.out.2]; exact hXs
    have hXe : sel (spl s ep th mn coins) a = X := by rw [HEL.out.2]; exact hX
    have HX := Lib.hid (And.intro hXS hXe)
    have HJ := Lib.hid (fun (A : Option Addr) (c : Nat) w1 (hb : Below w.heap.size w w1) (hs : SS w1 A X c) => join_any A c X w1 (HK.out.1.below hb) hs (by omega))
    unfold JoinPost at HJ
    have HE := Lib.hid (fun (A : Option Addr) (c : Nat) w1 (hb : Below w.heap.size w w1) (hs : SS w1 A X c) => explain_any A A1 c c1 X other w1 (HK.out.1.below hb) hs (HK.out.2.2.1.up hb) (by omega) (by rw [HO.out]; omega))
    unfold ExPost at HE
    rw [HO.out] at HE
    clear hX hXs hXS hXe f4
    by_cases q0 : X.length = 0
    · rw [q0] at HSO
      generalize s.length = n at *
      generalize coins.length = m at *
      generalize L.length = ln at *
      go_enter Tryd.func6, Tryd.ntmps6
      go_wp2_with fail
      refine HS.out.mono ?_
      rintro e w1 ⟨rfl, hb1⟩
      go_wp2_with fail
      refine (HSP.out w1 hb1).mono ?_
      rintro e w2 ⟨A2, c2, rfl, hs2, hb2⟩
      have H2 := Lib.hid (And.intro hs2 (hb1.trans (hb2.mono hb1.size)))
      clear hs2 hb2 hb1
      go_wp2_with fail
      refine (HSO.out A2 c2 w2 H2.out.1).mono ?_
      rintro e w3 ⟨A3, c3, rfl, hs3, hb3⟩
      go_wp2_with fail
      go_ret
      exact ⟨rfl, H2.out.2.trans (hb3.mono H2.out.2.size)⟩
    · have hp0 : 0 < X.length := by omega
      by_cases q2 : th ≤ (X.length : Int)
      · have hj := sub_join HEL.out.1 HX.out.1 q2
        obtain ⟨b, hb, hbt, hbd⟩ := head_th HEL.out.1 HX.out.1 hp0
        have he : exe X other = 60 := by
          unfold exe
          rw [if_neg (fun hh => hh (sub_chk HEL.out.1 HX.out.1 hp0)), if_pos]
          unfold thn
          rw [hb]
          show b.th.toNat ≤ _
          rw [hbt]
          omega
        have hx : ex X other = [] := by unfold ex; rw [he]; rfl
        rw [hj.1, hj.2] at HJ
        rw [he, hx] at HE
        clear hj he hx hb hbt hbd
        have HSL := Lib.hid (show s.length = s.length from rfl)
        have HST := Lib.hid (fun (A : Option Addr) (c : Nat) (w' : World) (h : Sl w' A s c) => sl_str h rfl)
        generalize s.length = n at *
        generalize coins.length = m at *
        generalize L.length = ln at *
        generalize X.length = p at *
        have e1 : decide (th ≤ (p : Int)) = true := decide_eq_true q2
        have e2 : ¬ (p : Int) < th := by omega
        have e3 : decide ((p : Int) < th) = false := decide_eq_false e2
        have e4 : ((p : Int) == 0) = false := by simpa using (show ¬ (p : Int) = 0 by omega)
        have e5 : ¬ (p : Int) = 0 := by omega
        go_enter Tryd.func6, Tryd.ntmps6
        go_wp2_with fail
        refine HS.out.mono ?_
        rintro e w1 ⟨rfl, hb1⟩
        go_wp2_with fail
        refine (HSP.out w1 hb1).mono ?_
        rintro e w2 ⟨A2, c2, rfl, hs2, hb2⟩
        have H2 := Lib.hid (And.intro hs2 (hb1.trans (hb2.mono hb1.size)))
        clear hs2 hb2 hb1
        go_wp2_with fail
        refine (HSO.out A2 c2 w2 H2.out.1).mono ?_
        rintro e w3 ⟨A3, c3, rfl, hs3, hb3⟩
        have H3 := Lib.hid (And.intro hs3 (H2.out.2.trans (hb3.mono H2.out.2.size)))
        clear hs3 hb3
        go_wp2_with fail
        refine (HJ.out A3 c3 w3 H3.out.2 H3.out.1).mono ?_
        rintro e w4 ⟨A4, c4, rfl, hs4, hb4⟩
        have H4 := Lib.hid (And.intro (H3.out.1.up hb4) (And.intro (H3.out.2.trans (hb4.mono H3.out.2.size)) hs4))
        clear hs4 hb4
        go_wp2_with fail
        refine (HE.out A3 c3 w4 H4.out.2.1 H4.out.1).mono ?_
        rintro e w5 ⟨A6, c6, rfl, hs5, hb5⟩
        have H5 := Lib.hid (And.intro (H4.out.2.2.up hb5) (H4.out.2.1.trans (hb5.mono H4.out.2.1.size)))
        clear hs5 hb5
        have hs6 := HST.out _ _ _ H5.out.1
        have hs7 := HST.out _ _ _ (HK.out.2.1.up H5.out.2)
        go_wp2_with fail
        go_ret
        exact ⟨rfl, H5.out.2⟩
      · obtain ⟨⟨g1, g2⟩, ⟨g3, g4⟩, g5, g6⟩ := hide_few HEL.out.1 HO.out a X HX.out.2 hp0 (by omega)
        rw [g1, g2] at HJ
        rw [g3] at HE
        have HG := Lib.hid (And.intro g5 g6)
        obtain ⟨C, hCx⟩ : ∃ C, ex X other = C := ⟨_, rfl⟩
        rw [hCx] at HE HG g4
        have HZ := Lib.hid (fun (A : Option Addr) (c : Nat) w1 (hb : Below w.heap.size w w1) (hc : Sl w1 A C c) => split_any A1 A c1 c other C ep th mn w1 (HK.out.1.below hb) (HK.out.2.2.1.up hb) hc (by rw [HO.out]; omega) g4)
        unfold SplitPost at HZ
        rw [HO.out, HG.out.1] at HZ
        obtain ⟨M, hM⟩ : ∃ M, spl other ep th mn C = M := ⟨_, rfl⟩
        have hMl : M.length ≤ 8 := by
          have := (spl_facts HG.out.1).1
          rw [hM] at this
          omega
        have hMx : sel M a = X := by rw [← hM]; exact HG.out.2
        rw [hM] at HZ
        have HSM := Lib.hid (fun (A : Option Addr) (c : Nat) w1 (hs : SS w1 A M c) => some_any A c M a w1 hs (by omega))
        rw [hMx] at HSM
        unfold SomePost at HSM
        have HSA := Lib.hid (fun (A A' : Option Addr) (c c' : Nat) w1 (hs : SS w1 A X c) (hs' : SS w1 A' X c') => sames_any A A' c c' X.length X w1 hs hs' rfl (by omega))
        clear g1 g2 g3 g4 g5 g6 hCx hM hMx
        generalize s.length = n at *
        generalize coins.length = m at *
        generalize L.length = ln at *
        generalize M.length = mn' at *
        generalize C.length = cn at *
        generalize X.length = p at *
        have e1 : decide (th ≤ (p : Int)) = false := decide_eq_false q2
        have e2 : (p : Int) < th := by omega
        have e3 : decide ((p : Int) < th) = true := decide_eq_true e2
        have e4 : ((p : Int) == 0) = false := by simpa using (show ¬ (p : Int) = 0 by omega)
        have e5 : ¬ (p : Int) = 0 := by omega
        go_enter Tryd.func6, Tryd.ntmps6
        go_wp2_with fail
        refine HS.out.mono ?_
        rintro e w1 ⟨rfl, hb1⟩
        go_wp2_with fail
        refine (HSP.out w1 hb1).mono ?_
        rintro e w2 ⟨A2, c2, rfl, hs2, hb2⟩
        have H2 := Lib.hid (And.intro hs2 (hb1.trans (hb2.mono hb1.size)))
        clear hs2 hb2 hb1
        go_wp2_with fail
        refine (HSO.out A2 c2 w2 H2.out.1).mono ?_
        rintro e w3 ⟨A3, c3, rfl, hs3, hb3⟩
        have H3 := Lib.hid (And.intro hs3 (H2.out.2.trans (hb3.mono H2.out.2.size)))
        clear hs3 hb3
        go_wp2_with fail
        refine (HJ.out A3 c3 w3 H3.out.2 H3.out.1).mono ?_
        rintro e w4 ⟨A4, c4, rfl, hs4, hb4⟩
        have H4 := Lib.hid (And.intro (H3.out.1.up hb4) (H3.out.2.trans (hb4.mono H3.out.2.size)))
        clear hs4 hb4
        go_wp2_with fail
        refine (HE.out A3 c3 w4 H4.out.2 H4.out.1).mono ?_
        rintro e w5 ⟨A6, c6, rfl, hs5, hb5⟩
        have H5 := Lib.hid (And.intro (H4.out.1.up hb5) (And.intro (H4.out.2.trans (hb5.mono H4.out.2.size)) hs5))
        clear hs5 hb5
        go_wp2_with fail
        refine (HZ.out A6 c6 w5 H5.out.2.1 H5.out.2.2).mono ?_
        rintro e w6 ⟨A7, c7, rfl, hs6, hb6⟩
        have H6 := Lib.hid (And.intro (H5.out.1.up hb6) (And.intro (H5.out.2.1.trans (hb6.mono H5.out.2.1.size)) hs6))
        clear hs6 hb6
        go_wp2_with fail
        refine (HSM.out A7 c7 w6 H6.out.2.2).mono ?_
        rintro e w7 ⟨A8, c8, rfl, hs7, hb7⟩
        have H7 := Lib.hid (And.intro (H6.out.1.up hb7) (And.intro (H6.out.2.1.trans (hb7.mono H6.out.2.1.size)) hs7))
        clear hs7 hb7
        go_wp2_with fail
        refine (HSA.out A8 A3 c8 c3 w7 H7.out.2.2 H7.out.1).mono ?_
        rintro e w8 ⟨rfl, hb8⟩
        go_wp2_with fail
        go_ret
        exact ⟨rfl, H7.out.2.1.trans (hb8.mono H7.out.2.1.size)⟩
  · have hd : (E != 0) = true := by simpa using q1
    have hl0 : L.length = 0 := by
      have := HEL.out.1
      rw [← HEL.out.2]
      unfold spl
      rw [if_neg (by rw [this]; exact q1)]
      rfl
    rw [hl0] at HSP
    generalize s.length = n at *
    generalize coins.length = m at *
    go_enter Tryd.func6, Tryd.ntmps6
    go_wp2_with fail
    refine HS.out.mono ?_
    rintro e w1 ⟨rfl, hb1⟩
    go_wp2_with fail
    refine (HSP.out w1 hb1).mono ?_
    rintro e w2 ⟨A2, c2, rfl, _, hb2⟩
    go_wp2_with fail
    go_ret
    exact ⟨rfl, hb1.trans (hb2.mono hb1.size)⟩

theorem hide_any (A0 : Option Addr) (c0 : Nat) (s : List UInt8) (A1 : Option Addr) (c1 : Nat) (other : List UInt8) (ep th mn : Int) (A5 : Option Addr) (c5 : Nat) (coins : List UInt8) (a : UInt8) (w : World) (hK : KT w) (hS : Sl w A0 s c0) (hO : Sl w A1 other c1) (hC : Sl w A5 coins c5) :
    Calls Tryd.prog 6 #[.slice A0 s.length c0, .slice A1 other.length c1, .int .i64 ep, .int .i64 th, .int .i64 mn, .slice A5 coins.length c5, bv a] w fun e w' => e = .returned (.bool true) ∧ Below w.heap.size w w' := by
  by_cases h : 20 < s.length ∨ 200 < coins.length ∨ other.length ≠ s.length
  · exact hide_big A0 A1 A5 _ _ _ c0 c1 c5 ep th mn a w hK (Nat.le_trans hS.2.1 hS.2.2.1) (Nat.le_trans hO.2.1 hO.2.2.1) (Nat.le_trans hC.2.1 hC.2.2.1) h
  · have ho : other.length = s.length := by omega
    rw [ho]
    exact hide_small A0 A1 A5 c0 c1 c5 s other coins ep th mn a w hK hS hO hC (by omega) (by omega) ho
end Go.Proofs.YthhenoldepleiaaDoor
