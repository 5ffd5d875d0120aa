/- SharesAny. -/
import Derived.Test.YthhenoldepleiaaDoorAnyP
import Derived.Test.YthhenoldepleiaaDoorSane
import Derived.Deep.RegionHeld3
namespace Go.Proofs.YthhenoldepleiaaDoor
open Go.RowKit
set_option linter.unusedVariables false

theorem any_big (A0 A3 : Option Addr) (n m c0 c3 : Nat) (th mn : Int) (a b : UInt8) (w : World) (hK : KT w) (hn : n ≤ maxLen) (hm : m ≤ maxLen) (h : 20 < n ∨ 200 < m) :
    Calls Tryd.prog 8 #[.slice A0 n c0, .int .i64 th, .int .i64 mn, .slice A3 m c3, bv a, bv b] w fun e w' => e = .returned (.bool true) ∧ Below w.heap.size w w' := by
  have HS := Lib.hid (sane_any w hK)
  unfold maxLen at hn hm
  by_cases h1 : 20 < n
  · have d1 : decide ((20 : Int) < (n : Int)) = true := decide_eq_true (by omega)
    go_enter Tryd.func8, Tryd.ntmps8
    go_wp2_with fail
    refine HS.out.mono ?_
    rintro e w1 ⟨rfl, hb1⟩
    go_wp2_with fail
    go_ret
    exact ⟨rfl, hb1⟩
  · have h2 : 200 < m := by omega
    have d1 : decide ((20 : Int) < (n : Int)) = false := decide_eq_false (by omega)
    have d2 : decide ((200 : Int) < (m : Int)) = true := decide_eq_true (by omega)
    have d3 : ¬ (20 : Int) < (n : Int) := by omega
    go_enter Tryd.func8, Tryd.ntmps8
    go_wp2_with fail
    refine HS.out.mono ?_
    rintro e w1 ⟨rfl, hb1⟩
    go_wp2_with fail
    go_ret
    exact ⟨rfl, hb1⟩

theorem box5 {W : World} {g : Nat} {u : Shr} {D : Option Addr} {d : Nat} {T : TypeId} (X : Box W g #[.int .i64 u.ep, .int .i64 u.ix, .int .i64 u.th, .int .i64 u.mn, .slice D u.data.length d] T) : ∀ j v, (shc u D d)[j]? = some v → W.cell? ((⟨g, 0, none⟩ : Addr).add j) = some v := fun j v hj => by
  rw [add_off, Nat.zero_add, X.cell j]
  simpa [shc] using hj
theorem dup_own {w6 w8 : World} {X : List Shr} {u : Shr} {D : Option Addr} {d p c8 : Nat} {A8 : Option Addr} {bs : List (List Value)} (h1 : bs.length = X.length ∧ ∀ b ∈ bs, b.length = 5) (hs : ∀ (i : Nat) (s : Shr), X[i]? = some s → ∃ D d, bs[i]? = some (shc s D d) ∧ Sl w6 D s.data d) (hp : X.length = p)
    (ho : w8.ownsRow w6.heap.size 41 5 (.slice A8 (p + 1) c8) (p + 1) (bs.flatten ++ shc u D d)) (hD : Sl w6 D u.data d) (hb : Below w6.heap.size w6 w8) : SS w8 A8 (X ++ [u]) c8 := by
  subst hp
  exact (OwnS.more (W := w8) (A := A8) (c := c8) h1.1 h1.2 hs ho hD).ss hb

set_option maxHeartbeats 8000000 in
set_option maxRecDepth 100000 in
theorem any_small (A0 A3 : Option Addr) (c0 c3 : Nat) (s coins : List UInt8) (th mn : Int) (a b : UInt8) (w : World) (hK : KT w) (hS : Sl w A0 s c0) (hC : Sl w A3 coins c3) (hn : s.length ≤ 20) (hm : coins.length ≤ 200) :
    Calls Tryd.prog 8 #[.slice A0 s.length c0, .int .i64 th, .int .i64 mn, .slice A3 coins.length c3, bv a, bv b] w fun e w' => e = .returned (.bool true) ∧ Below w.heap.size w w' := by
  have HS := Lib.hid (sane_any w hK)
  have HSP := Lib.hid (fun w1 (hb : Below w.heap.size w w1) => split_any A0 A3 c0 c3 s coins 0 th mn w1 (hK.below hb) (hS.up hb) (hC.up hb) (by omega) (by omega))
  unfold SplitPost at HSP
  have HK := Lib.hid (And.intro hK (And.intro hS hC))
  have d1 : decide ((20 : Int) < (s.length : Int)) = false := decide_eq_false (by omega)
  have d2 : decide ((200 : Int) < (coins.length : Int)) = false := decide_eq_false (by omega)
  have d3 : ¬ (20 : Int) < (s.length : Int) := by omega
  have d4 : ¬ (200 : Int) < (coins.length : Int) := by omega
  clear hK hS hC
  obtain ⟨E, hE⟩ : ∃ E, spe s 0 th mn coins = E := ⟨_, rfl⟩
  obtain ⟨L, hL⟩ : ∃ L, spl s 0 th mn coins = L := ⟨_, rfl⟩
  have HEL := Lib.hid (And.intro hE hL)
  rw [hE, hL] at HSP
  clear hE hL
  by_cases q1 : E = 0
  · subst q1
    obtain ⟨f1, f2, f3, f4⟩ := spe_zero HEL.out.1
    obtain ⟨t, ht⟩ : ∃ t : Nat, th = (t : Int) := ⟨th.toNat, by omega⟩
    have hLl : L.length ≤ 8 := by
      have := (spl_facts HEL.out.1).1
      rw [HEL.out.2] at this
      omega
    obtain ⟨X, hX⟩ : ∃ X, sel L a = X := ⟨_, rfl⟩
    obtain ⟨Y, hY⟩ : ∃ Y, sel L b = Y := ⟨_, rfl⟩
    have hXs : X.Sublist L := hX ▸ sel_sub L a
    have hYs : Y.Sublist L := hY ▸ sel_sub L b
    have hX8 := hXs.length_le
    have hY8 := hYs.length_le
    have HSO := Lib.hid (fun (A : Option Addr) (c : Nat) w1 (hs : SS w1 A L c) => And.intro (some_any A c L a w1 hs (by omega)) (fun w2 (hs2 : SS w2 A L c) => some_any A c L b w2 hs2 (by omega)))
    rw [hX, hY] at HSO
    unfold SomePost at HSO
    have HXY := Lib.hid (And.intro hXs (And.intro hYs (And.intro f1 (And.intro f2 ht))))
    subst ht
    clear hX hY hXs hYs f4
    generalize hsl : s.length = n at *
    generalize coins.length = m at *
    generalize hLn : L.length = ln at *
    have HLN := Lib.hid hLn
    have HSL := Lib.hid hsl
    clear hsl hLn
    by_cases q2 : X.length < t ∨ Y.length < t
    · generalize X.length = p at *
      generalize Y.length = q at *
      rcases (show (p < t) ∨ (¬ p < t ∧ q < t) by omega) with q3 | ⟨q3, q4⟩
      · have e1 : decide ((p : Int) < (t : Int)) = true := decide_eq_true (by omega)
        have e2 : (p : Int) < (t : Int) := by omega
        go_enter Tryd.func8, Tryd.ntmps8
        go_wp2_with fail
        refine HS.out.mono ?_
        rintro e w1 ⟨rfl, hb1⟩
        go_wp2_with fail
        refine (HSP.out w1 hb1).mono ?_
        rintro e w2 ⟨A2, c2, rfl, hs2, hb2⟩
        have H2 := Lib.hid (And.intro hs2 (hb1.trans (hb2.mono hb1.size)))
        clear hs2 hb2 hb1
        go_wp2_with fail
        refine (HSO.out A2 c2 w2 H2.out.1).1.mono ?_
        rintro e w3 ⟨A3', c3', rfl, hs3, hb3⟩
        have H3 := Lib.hid (And.intro (H2.out.1.up hb3) (And.intro (H2.out.2.trans (hb3.mono H2.out.2.size)) hs3))
        clear hs3 hb3
        go_wp2_with fail
        refine ((HSO.out A2 c2 w2 H2.out.1).2 w3 H3.out.1).mono ?_
        rintro e w4 ⟨A4, c4, rfl, hs4, hb4⟩
        have H4 := Lib.hid (And.intro (H3.out.2.2.up hb4) (And.intro (H3.out.2.1.trans (hb4.mono H3.out.2.1.size)) hs4))
        clear hs4 hb4
        go_wp2_with fail
        go_ret
        exact ⟨rfl, H4.out.2.1⟩
      · have e1 : decide ((p : Int) < (t : Int)) = false := decide_eq_false (by omega)
        have e2 : ¬ (p : Int) < (t : Int) := by omega
        have e3 : decide ((q : Int) < (t : Int)) = true := decide_eq_true (by omega)
        have e4 : (q : Int) < (t : Int) := by omega
        go_enter Tryd.func8, Tryd.ntmps8
        go_wp2_with fail
        refine HS.out.mono ?_
        rintro e w1 ⟨rfl, hb1⟩
        go_wp2_with fail
        refine (HSP.out w1 hb1).mono ?_
        rintro e w2 ⟨A2, c2, rfl, hs2, hb2⟩
        have H2 := Lib.hid (And.intro hs2 (hb1.trans (hb2.mono hb1.size)))
        clear hs2 hb2 hb1
        go_wp2_with fail
        refine (HSO.out A2 c2 w2 H2.out.1).1.mono ?_
        rintro e w3 ⟨A3', c3', rfl, hs3, hb3⟩
        have H3 := Lib.hid (And.intro (H2.out.1.up hb3) (And.intro (H2.out.2.trans (hb3.mono H2.out.2.size)) hs3))
        clear hs3 hb3
        go_wp2_with fail
        refine ((HSO.out A2 c2 w2 H2.out.1).2 w3 H3.out.1).mono ?_
        rintro e w4 ⟨A4, c4, rfl, hs4, hb4⟩
        have H4 := Lib.hid (And.intro (H3.out.2.2.up hb4) (And.intro (H3.out.2.1.trans (hb4.mono H3.out.2.1.size)) hs4))
        clear hs4 hb4
        go_wp2_with fail
        go_ret
        exact ⟨rfl, H4.out.2.1⟩
    · have hXl : t ≤ X.length := by omega
      have hYl : t ≤ Y.length := by omega
      have hxs1 : X.Sublist (spl s 0 (t : Int) mn coins) := by rw [HEL.out.2]; exact HXY.out.1
      have hys1 : Y.Sublist (spl s 0 (t : Int) mn coins) := by rw [HEL.out.2]; exact HXY.out.2.1
      have HXS := Lib.hid (And.intro hxs1 hys1)
      clear hxs1 hys1
      have ht1 : 1 ≤ t := by have := HXY.out.2.2.2.1; omega
      obtain ⟨r, hr⟩ : ∃ r, X.length = r + 1 := ⟨X.length - 1, by omega⟩
      obtain ⟨u, hu⟩ : ∃ u, X[r]? = some u := ⟨X[r]'(by omega), List.getElem?_eq_getElem _⟩
      have HRU := Lib.hid (And.intro hr hu)
      obtain ⟨p, hp⟩ : ∃ p, X.length = p := ⟨_, rfl⟩
      have HP := Lib.hid hp
      have HJX := Lib.hid (fun (A : Option Addr) (c : Nat) w1 (hb : Below w.heap.size w w1) (hs : SS w1 A X c) => join_sub HEL.out.1 HXS.out.1 (show (t : Int) ≤ (X.length : Int) by omega) (by omega) A c n p HSL.out hp w1 (HK.out.1.below hb) hs)
      have HJY := Lib.hid (fun (A : Option Addr) (c : Nat) w1 (hb : Below w.heap.size w w1) (hs : SS w1 A Y c) => join_sub HEL.out.1 HXS.out.2 (show (t : Int) ≤ (Y.length : Int) by omega) (by omega) A c n Y.length HSL.out rfl w1 (HK.out.1.below hb) hs)
      rw [hp] at HSO hXl hX8 hr
      have HR := Lib.hid hr
      clear hp hr
      generalize hq : Y.length = q at *
      clear hq hu
      have e1 : decide ((p : Int) < (t : Int)) = false := decide_eq_false (by omega)
      have e2 : ¬ (p : Int) < (t : Int) := by omega
      have e3 : decide ((q : Int) < (t : Int)) = false := decide_eq_false (by omega)
      have e4 : ¬ (q : Int) < (t : Int) := by omega
      clear q2
      go_enter Tryd.func8, Tryd.ntmps8
      go_wp2_with fail
      refine HS.out.mono ?_
      rintro e w1 ⟨rfl, hb1⟩
      go_wp2_with fail
      refine (HSP.out w1 hb1).mono ?_
      rintro e w2 ⟨A2, c2, rfl, hs2, hb2⟩
      have H2 := Lib.hid (And.intro hs2 (hb1.trans (hb2.mono hb1.size)))
      clear hs2 hb2 hb1
      go_wp2_with fail
      refine (HSO.out A2 c2 w2 H2.out.1).1.mono ?_
      rintro e w3 ⟨A3', c3', rfl, hs3, hb3⟩
      have H3 := Lib.hid (And.intro (H2.out.1.up hb3) (And.intro (H2.out.2.trans (hb3.mono H2.out.2.size)) hs3))
      clear hs3 hb3
      go_wp2_with fail
      refine ((HSO.out A2 c2 w2 H2.out.1).2 w3 H3.out.1).mono ?_
      rintro e w4 ⟨A4, c4, rfl, hs4, hb4⟩
      have H4 := Lib.hid (And.intro (H3.out.2.2.up hb4) (And.intro (H3.out.2.1.trans (hb4.mono H3.out.2.1.size)) hs4))
      clear hs4 hb4
      go_wp2_with fail
      refine (HJX.out A3' c3' w4 H4.out.2.1 H4.out.1).mono ?_
      rintro e w5 ⟨A5, c5, rfl, hs5, hb5⟩
      have H5 := Lib.hid (And.intro hs5 (And.intro (H4.out.2.1.trans (hb5.mono H4.out.2.1.size)) (And.intro (H4.out.1.up hb5) (H4.out.2.2.up hb5))))
      clear hs5 hb5
      go_wp2_with fail
      refine (HJY.out A4 c4 w5 H5.out.2.1 H5.out.2.2.2).mono ?_
      rintro e w6 ⟨A6, c6, rfl, hs6, hb6⟩
      have H6 := Lib.hid (And.intro (H5.out.1.up hb6) (And.intro hs6 (And.intro (H5.out.2.1.trans (hb6.mono H5.out.2.1.size)) (H5.out.2.2.1.up hb6))))
      clear hs6 hb6 H5 H4 H3 H2 HJX HJY HSO HSP
      go_wp2_with fail
      obtain ⟨bX, oX, rfl, hbX, hatX⟩ := H6.out.2.2.2.1 (by rw [HP.out]; omega)
      obtain ⟨bs, hb1, hb2, hb3, hb4, hb5⟩ := SS.blocks H6.out.2.2.2
      have HBS := Lib.hid (And.intro (show bs.flatten.length = p * 5 by rw [flat5 bs hb2, hb1, HP.out]) (And.intro (And.intro hb1 hb2) (And.intro hb3 (And.intro hb4 (fun W (h : Below w6.heap.size w6 W) j v (hj : bs.flatten[j]? = some v) => (h.cell (World.block_lt_of_cell? w6 _ (hb5 j v hj))).trans (hb5 j v hj))))))
      obtain ⟨D, d, k0, k1, k2, k3, k4, hD⟩ := hatX r u HRU.out.2
      have HDU := Lib.hid hD
      have HSK := Lib.hid (fun w' (h : Below w6.heap.size w6 w') => (show w'.cell? ⟨bX, oX + r * 5, none⟩ = some (.int .i64 u.ep) ∧ w'.cell? ⟨bX, oX + r * 5 + 1, none⟩ = some (.int .i64 u.ix) ∧ w'.cell? ⟨bX, oX + r * 5 + 2, none⟩ = some (.int .i64 u.th) ∧ w'.cell? ⟨bX, oX + r * 5 + 3, none⟩ = some (.int .i64 u.mn) ∧ w'.cell? ⟨bX, oX + r * 5 + 4, none⟩ = some (.slice D u.data.length d) from ⟨(h.cell (World.block_lt_of_cell? w6 _ k0)).trans k0, (h.cell (World.block_lt_of_cell? w6 _ k1)).trans k1, (h.cell (World.block_lt_of_cell? w6 _ k2)).trans k2, (h.cell (World.block_lt_of_cell? w6 _ k3)).trans k3, (h.cell (World.block_lt_of_cell? w6 _ k4)).trans k4⟩))
      have HUM := Lib.hid (List.mem_of_getElem? HRU.out.2)
      have HK6 := Lib.hid (HK.out.1.below H6.out.2.2.1)
      have B0 := Lib.hid (Below.refl w6.heap.size w6).drew
      have B1 := Lib.hid ((Below.refl w6.heap.size w6).alloc (Nat.le_refl _) (.cells #[] 41)).drew
      have B4 := Lib.hid ((Below.refl w6.heap.size w6).alloc (Nat.le_refl _) (.cells #[.int .i64 u.ep, .int .i64 u.ix, .int .i64 u.th, .int .i64 u.mn, .slice D u.data.length d] 41)).drew
      have B2 := Lib.hid (((Below.refl w6.heap.size w6).alloc (Nat.le_refl _) (.cells #[.int .i64 u.ep, .int .i64 u.ix, .int .i64 u.th, .int .i64 u.mn, .slice D u.data.length d] 41)).alloc (by simp) (.cells #[] 41)).drew
      have B3 := Lib.hid (((Below.refl w6.heap.size w6).alloc (Nat.le_refl _) (.cells #[] 41)).alloc (by simp) (.cells #[.int .i64 u.ep, .int .i64 u.ix, .int .i64 u.th, .int .i64 u.mn, .slice D u.data.length d] 41)).drew
      have o1 := World.ownsRow_lit (base := w6.heap.size) (e := 41) (size := 5) w6 #[] 0 (Nat.le_refl _) (by unfold maxLen; omega) rfl
      have o2 := World.ownsRow_lit (base := w6.heap.size) (e := 41) (size := 5) (w6.alloc (.cells #[.int .i64 u.ep, .int .i64 u.ix, .int .i64 u.th, .int .i64 u.mn, .slice D u.data.length d] 41)) #[] 0 (by simp) (by unfold maxLen; omega) rfl
      rw [World.size_alloc] at o2
      have O1 := Lib.hid (show ((w6.alloc (.cells #[] 41)).drew).ownsRow w6.heap.size 41 5 (.slice (some ⟨w6.heap.size, 0, none⟩) 0 0) 0 [] from o1)
      have O2 := Lib.hid (show (((w6.alloc (.cells #[.int .i64 u.ep, .int .i64 u.ix, .int .i64 u.th, .int .i64 u.mn, .slice D u.data.length d] 41)).alloc (.cells #[] 41)).drew).ownsRow w6.heap.size 41 5 (.slice (some ⟨w6.heap.size + 1, 0, none⟩) 0 0) 0 [] from o2)
      have O3 := Lib.hid (show (((w6.alloc (.cells #[] 41)).alloc (.cells #[.int .i64 u.ep, .int .i64 u.ix, .int .i64 u.th, .int .i64 u.mn, .slice D u.data.length d] 41)).drew).ownsRow w6.heap.size 41 5 (.slice (some ⟨w6.heap.size, 0, none⟩) 0 0) 0 [] from World.ownsRow.alloc o1 _)
      have x3 := Box.new (w6.alloc (.cells #[] 41)) #[.int .i64 u.ep, .int .i64 u.ix, .int .i64 u.th, .int .i64 u.mn, .slice D u.data.length d] 41
      rw [World.size_alloc] at x3
      have X2 := Lib.hid (((Box.new w6 #[.int .i64 u.ep, .int .i64 u.ix, .int .i64 u.th, .int .i64 u.mn, .slice D u.data.length d] 41).alloc (.cells #[] 41)).drew)
      have X3 := Lib.hid x3.drew
      have hwr : IntKind.i64.wrap ((p : Int) - 1) = (r : Int) := by have := HR.out; rw [IntKind.wrap_i64]; omega
      have j1 : (0 : Int) ≤ (r : Int) := by omega
      have j2 : (r : Int) < (p : Int) := by have := HR.out; omega
      clear o1 o2 x3 hb1 hb2 hb3 hb4 hb5 k0 k1 k2 k3 k4 hD hatX hbX
      go_region_held3 (fun w' => w'.cell? ⟨bX, oX + r * 5, none⟩ = some (.int .i64 u.ep) ∧ w'.cell? ⟨bX, oX + r * 5 + 1, none⟩ = some (.int .i64 u.ix) ∧ w'.cell? ⟨bX, oX + r * 5 + 2, none⟩ = some (.int .i64 u.th) ∧ w'.cell? ⟨bX, oX + r * 5 + 3, none⟩ = some (.int .i64 u.mn) ∧ w'.cell? ⟨bX, oX + r * 5 + 4, none⟩ = some (.slice D u.data.length d))
        (with_reducible first | exact HSK.out _ B0.out | exact HSK.out _ B1.out | exact HSK.out _ B2.out | exact HSK.out _ B3.out | exact HSK.out _ B4.out | exact HSK.out _ B7.out | exact HSK.out _ (B7.out.alloc B7.out.size _) | exact HSK.out _ B8.out | exact HSK.out _ B9.out)
        (first
          | ((first | refine step_append_five (by rfl) (.tmp 72) (.tmp 73) (by rfl) (.slice (some ⟨w6.heap.size, 0, none⟩) 0 0) 0 [] (by rfl) (by with_reducible first | exact O1.out | exact O3.out) ⟨bX, oX, none⟩ p c3' bs.flatten (by rfl) HBS.out.1 (HBS.out.2.2.2.2 _ (by with_reducible first | exact B1.out | exact B2.out | exact B3.out)) HBS.out.2.2.1 p (Nat.zero_add p) (by omega) (by with_reducible first | exact B1.out.size | exact B2.out.size | exact B3.out.size) ?_ | refine step_append_five (by rfl) (.tmp 72) (.tmp 73) (by rfl) (.slice (some ⟨w6.heap.size + 1, 0, none⟩) 0 0) 0 [] (by rfl) O2.out ⟨bX, oX, none⟩ p c3' bs.flatten (by rfl) HBS.out.1 (HBS.out.2.2.2.2 _ (by with_reducible first | exact B1.out | exact B2.out | exact B3.out)) HBS.out.2.2.1 p (Nat.zero_add p) (by omega) (by with_reducible first | exact B1.out.size | exact B2.out.size | exact B3.out.size) ?_); intro A7 c7 w7 ho7 hg7; rw [List.nil_append] at ho7; have O7 := Lib.hid ho7; have hb7 : Below w6.heap.size w6 w7 := (by first | exact B1.out.grown hg7 B1.out.size (fun i hi => (World.ownsRow.lt O1.out i hi).1) | exact B2.out.grown hg7 B2.out.size (fun i hi => (World.ownsRow.lt O2.out i hi).1) | exact B3.out.grown hg7 B3.out.size (fun i hi => (World.ownsRow.lt O3.out i hi).1)); have B7 := Lib.hid hb7; (first | (have X7 := Lib.hid (X2.out.grown hg7 (by simp [Value.ownBlock]))) | (have X7 := Lib.hid (X3.out.grown hg7 (by simp [Value.ownBlock]))) | skip); clear ho7 hg7 hb7)
          | (go_at_call 17; (with_reducible refine JC8.out.mono ?_); rintro e w9 ⟨A9, c9, rfl, hb9⟩; have B9 := Lib.hid (B8.out.trans (hb9.mono B8.out.size)); clear hb9)
          | (refine step_append_five (by rfl) (.tmp 74) (.tmp 81) (by rfl) (.slice A7 p c7) p bs.flatten (by rfl) (by with_reducible first | exact O7.out | exact O7.out.alloc _) _ 1 1 (shc u D d) (by rfl) rfl (by first | exact box5 X7.out | exact box5 (Box.new w7 _ _)) (shc_one u D d) (p + 1) rfl (by omega) (by with_reducible first | exact B7.out.size | exact (B7.out.alloc B7.out.size _).size) ?_; intro A8 c8 w8 ho8 hg8; have hb8 : Below w6.heap.size w6 w8 := (by first | exact B7.out.grown hg8 B7.out.size (fun i hi => (World.ownsRow.lt O7.out i hi).1) | exact (B7.out.alloc B7.out.size _).grown hg8 (B7.out.alloc B7.out.size _).size (fun i hi => (World.ownsRow.lt O7.out i hi).1)); have B8 := Lib.hid hb8; have J8 := Lib.hid (dup_own (A8 := A8) (c8 := c8) HBS.out.2.1 HBS.out.2.2.2.1 HP.out ho8 HDU.out hb8); have JC8 := Lib.hid (join_not (dup_not HUM.out) (by rw [List.length_append, HP.out]; have := hX8; simp; omega) A8 c8 (p + 1) (by rw [List.length_append, HP.out]; rfl) w8 (HK6.out.below B8.out) J8.out); clear ho8 hg8 hb8)
          | fail)
      clear hwr
      all_goals
        have hs5 := sl_str (H6.out.1.up B9.out) HSL.out
        have hs6 := sl_str (H6.out.2.1.up B9.out) HSL.out
        have HF := Lib.hid (H6.out.2.2.1.trans (B9.out.mono H6.out.2.2.1.size))
        have HX9 := Lib.hid (H6.out.2.2.2.up B9.out)
        by_cases q5 : p < 2
        · have e5 : decide ((p : Int) < 2) = true := decide_eq_true (by omega)
          have e6 : (p : Int) < 2 := by omega
          go_wp2_with fail
          go_ret
          exact ⟨rfl, HF.out⟩
        · have e5 : decide ((p : Int) < 2) = false := decide_eq_false (by omega)
          have e6 : ¬ (p : Int) < 2 := by omega
          obtain ⟨u0, hu0⟩ : ∃ u0, X[0]? = some u0 := ⟨X[0]'(by rw [HP.out]; omega), List.getElem?_eq_getElem _⟩
          obtain ⟨u1, hu1⟩ : ∃ u1, X[1]? = some u1 := ⟨X[1]'(by rw [HP.out]; omega), List.getElem?_eq_getElem _⟩
          obtain ⟨D0, d0, a0, a1, a2, a3, a4, aD⟩ := ss_at HX9.out 0 u0 hu0
          obtain ⟨D1, d1, b0, b1, b2, b3, b4, bD⟩ := ss_at HX9.out 1 u1 hu1
          simp only [Nat.zero_mul, Nat.add_zero, Nat.one_mul] at a0 a1 a2 a3 a4 b0 b1 b2 b3 b4
          have HS9 := Lib.hid (fun w' (h : Below w9.heap.size w9 w') => (show w'.cell? ⟨bX, oX + 5, none⟩ = some (.int .i64 u1.ep) ∧ w'.cell? ⟨bX, oX + 5 + 1, none⟩ = some (.int .i64 u1.ix) ∧ w'.cell? ⟨bX, oX + 5 + 2, none⟩ = some (.int .i64 u1.th) ∧ w'.cell? ⟨bX, oX + 5 + 3, none⟩ = some (.int .i64 u1.mn) ∧ w'.cell? ⟨bX, oX + 5 + 4, none⟩ = some (.slice D1 u1.data.length d1) ∧ w'.cell? ⟨bX, oX, none⟩ = some (.int .i64 u0.ep) ∧ w'.cell? ⟨bX, oX + 1, none⟩ = some (.int .i64 u0.ix) ∧ w'.cell? ⟨bX, oX + 2, none⟩ = some (.int .i64 u0.th) ∧ w'.cell? ⟨bX, oX + 3, none⟩ = some (.int .i64 u0.mn) ∧ w'.cell? ⟨bX, oX + 4, none⟩ = some (.slice D0 u0.data.length d0) from ⟨(h.cell (World.block_lt_of_cell? w9 _ b0)).trans b0, (h.cell (World.block_lt_of_cell? w9 _ b1)).trans b1, (h.cell (World.block_lt_of_cell? w9 _ b2)).trans b2, (h.cell (World.block_lt_of_cell? w9 _ b3)).trans b3, (h.cell (World.block_lt_of_cell? w9 _ b4)).trans b4, (h.cell (World.block_lt_of_cell? w9 _ a0)).trans a0, (h.cell (World.block_lt_of_cell? w9 _ a1)).trans a1, (h.cell (World.block_lt_of_cell? w9 _ a2)).trans a2, (h.cell (World.block_lt_of_cell? w9 _ a3)).trans a3, (h.cell (World.block_lt_of_cell? w9 _ a4)).trans a4⟩))
          have J9 := Lib.hid (two_shares w9 u1 u0 D1 D0 d1 d0 bD aD #[.int .i64 u1.ep, .int .i64 u1.ix, .int .i64 u1.th, .int .i64 u1.mn, .slice D1 u1.data.length d1, .int .i64 u0.ep, .int .i64 u0.ix, .int .i64 u0.th, .int .i64 u0.mn, .slice D0 u0.data.length d0] rfl)
          have R9 := Lib.hid (Below.refl w9.heap.size w9).drew
          have B10 := Lib.hid ((Below.refl w9.heap.size w9).alloc (Nat.le_refl _) (.cells #[.int .i64 u1.ep, .int .i64 u1.ix, .int .i64 u1.th, .int .i64 u1.mn, .slice D1 u1.data.length d1, .int .i64 u0.ep, .int .i64 u0.ix, .int .i64 u0.th, .int .i64 u0.mn, .slice D0 u0.data.length d0] 41)).drew
          have JC := Lib.hid (join_not (swap_not ((spl_pair HEL.out.1).sublist HXS.out.1) hu0 hu1) (by simp) _ _ 2 rfl _ (HK6.out.below (B9.out.trans (B10.out.mono B9.out.size))) J9.out)
          have j3 : (1 : Int) < (p : Int) := by omega
          have j4 : (0 : Int) < (p : Int) := by omega
          have j5 : 1 < p := by omega
          have j6 : 0 < p := by omega
          clear a0 a1 a2 a3 a4 b0 b1 b2 b3 b4 aD bD hu0 hu1
          go_wp2_with fail
          go_region_held3 (fun w' => w'.cell? ⟨bX, oX + 5, none⟩ = some (.int .i64 u1.ep) ∧ w'.cell? ⟨bX, oX + 5 + 1, none⟩ = some (.int .i64 u1.ix) ∧ w'.cell? ⟨bX, oX + 5 + 2, none⟩ = some (.int .i64 u1.th) ∧ w'.cell? ⟨bX, oX + 5 + 3, none⟩ = some (.int .i64 u1.mn) ∧ w'.cell? ⟨bX, oX + 5 + 4, none⟩ = some (.slice D1 u1.data.length d1) ∧ w'.cell? ⟨bX, oX, none⟩ = some (.int .i64 u0.ep) ∧ w'.cell? ⟨bX, oX + 1, none⟩ = some (.int .i64 u0.ix) ∧ w'.cell? ⟨bX, oX + 2, none⟩ = some (.int .i64 u0.th) ∧ w'.cell? ⟨bX, oX + 3, none⟩ = some (.int .i64 u0.mn) ∧ w'.cell? ⟨bX, oX + 4, none⟩ = some (.slice D0 u0.data.length d0))
            (with_reducible first | exact HS9.out _ R9.out | exact HS9.out _ B10.out | exact HS9.out _ B11.out)
            (first
              | (go_at_call 17; (with_reducible refine JC.out.mono ?_); rintro e w11 ⟨A11, c11, rfl, hb11⟩; have B11 := Lib.hid (B10.out.trans (hb11.mono B10.out.size)); clear hb11)
              | fail)
          all_goals
            go_wp2_with fail
            go_ret
            exact ⟨rfl, HF.out.trans (B11.out.mono HF.out.size)⟩
  · have hd : (E != 0) = true := by simpa using q1
    generalize s.length = n at *
    generalize coins.length = m at *
    generalize L.length = ln at *
    go_enter Tryd.func8, Tryd.ntmps8
    go_wp2_with fail
    refine HS.out.mono ?_
    rintro e w1 ⟨rfl, hb1⟩
    go_wp2_with fail
    refine (HSP.out w1 hb1).mono ?_
    rintro e w2 ⟨A2, c2, rfl, _, hb2⟩
    go_wp2_with fail
    go_ret
    exact ⟨rfl, hb1.trans (hb2.mono hb1.size)⟩

theorem any_any (A0 : Option Addr) (c0 : Nat) (s : List UInt8) (th mn : Int) (A3 : Option Addr) (c3 : Nat) (coins : List UInt8) (a b : UInt8) (w : World) (hK : KT w) (hS : Sl w A0 s c0) (hC : Sl w A3 coins c3) :
    Calls Tryd.prog 8 #[.slice A0 s.length c0, .int .i64 th, .int .i64 mn, .slice A3 coins.length c3, bv a, bv b] w fun e w' => e = .returned (.bool true) ∧ Below w.heap.size w w' := by
  by_cases h : 20 < s.length ∨ 200 < coins.length
  · exact any_big A0 A3 _ _ c0 c3 th mn a b w hK (Nat.le_trans hS.2.1 hS.2.2.1) (Nat.le_trans hC.2.1 hC.2.2.1) h
  · exact any_small A0 A3 c0 c3 s coins th mn a b w hK hS hC (by omega) (by omega)
end Go.Proofs.YthhenoldepleiaaDoor
