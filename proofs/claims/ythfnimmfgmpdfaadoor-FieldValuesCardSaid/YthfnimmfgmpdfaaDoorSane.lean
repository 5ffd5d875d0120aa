/- sane: the examples of the chapter. -/
import Derived.Test.YthfnimmfgmpdfaaDoorThru
import Derived.Laws.BytesArg
import Derived.Laws.IdiomStrings
namespace Go.Proofs.YthfnimmfgmpdfaaDoor
open Go.RowKit
set_option linter.unusedVariables false

theorem sl_lit (w : World) (l : List UInt8) (n : Nat) (hn : l.length = n) (h : n ≤ 1000000) (cs : Array Value) (hc : (l.map bv).toArray = cs) : Sl (w.alloc (.cells cs 5)) (some ⟨w.heap.size, 0, none⟩) l n := by
  subst hc hn
  exact ⟨Bs.of_box (Box.new w _ _), Nat.le_refl _, le_maxLen (by omega), fun h => by cases h⟩
theorem sl_none (w : World) : Sl w none [] 0 := ⟨Bs.none_, by simp, by unfold maxLen; omega, fun _ => ⟨rfl, rfl⟩⟩
/-- string(b). -/
theorem sl_str {w : World} {A : Option Addr} {l : List UInt8} {c n : Nat} (h : Sl w A l c) (hn : l.length = n) : (convert 30 9 (.slice A n c)).run Tryd.prog w = .ok (.string ⟨l.toArray⟩) w := by
  subst hn
  cases A with
  | none =>
    obtain ⟨rfl, rfl⟩ := h.2.2.2 rfl
    exact run_convert_bytes_nil w _ _ Tryd.underlying30 Tryd.underlying5 0 0 _ Tryd.underlying9
  | some a =>
    refine run_convert_bytes_back w _ _ _ _ c l Tryd.underlying30 Tryd.underlying5 Tryd.underlying9 fun j hj => ?_
    exact h.news j (bv l[j]) (by simp [List.getElem?_eq_getElem hj])

theorem inv2 (W : World) (hK : KT W) : Calls Tryd.prog 9 #[.int .u8 2] W fun e w' => e = .returned (.tuple #[.int .u8 141, .int .i64 0]) ∧ W = w' := (inv_any 2 W hK).mono fun e w' ⟨he, hw⟩ => ⟨he.trans (by kernel_rfl), hw⟩
theorem inv0 (W : World) (hK : KT W) : Calls Tryd.prog 9 #[.int .u8 0] W fun e w' => e = .returned (.tuple #[.int .u8 0, .int .i64 1]) ∧ W = w' := (inv_any 0 W hK).mono fun e w' ⟨he, hw⟩ => ⟨he.trans (by kernel_rfl), hw⟩
theorem mulA (W : World) (hK : KT W) : Calls Tryd.prog 11 #[.int .u8 2, .int .u8 128] W fun e w' => e = .returned (.int .u8 27) ∧ W = w' := (mul_any 2 128 W hK).mono fun e w' ⟨he, hw⟩ => ⟨he.trans (by kernel_rfl), hw⟩
theorem mulB (W : World) (hK : KT W) : Calls Tryd.prog 11 #[.int .u8 83, .int .u8 202] W fun e w' => e = .returned (.int .u8 1) ∧ W = w' := (mul_any 83 202 W hK).mono fun e w' ⟨he, hw⟩ => ⟨he.trans (by kernel_rfl), hw⟩
theorem evalA (W : World) (hK : KT W) : Calls Tryd.prog 15 #[.slice none 0 0, .int .u8 7] W fun e w' => e = .returned (.int .u8 0) ∧ Below W.heap.size W w' := (eval_any none 0 [] 7 W hK (sl_none W) (by simp)).mono fun e w' ⟨he, hw⟩ => ⟨he.trans (by kernel_rfl), hw⟩
theorem evalB (W : World) (g : Nat) (hK : KT W) (hS : Sl W (some ⟨g, 0, none⟩) [3, 9, 200] 3) : Calls Tryd.prog 15 #[.slice (some ⟨g, 0, none⟩) 3 3, .int .u8 0] W fun e w' => e = .returned (.int .u8 3) ∧ Below W.heap.size W w' :=
  (eval_any (some ⟨g, 0, none⟩) 3 [3, 9, 200] 0 W hK hS (by simp)).mono fun e w' ⟨he, hw⟩ => ⟨he.trans (by kernel_rfl), hw⟩
theorem co_a : co [1, 2] [5, 5] = [5, 0] := by decide +kernel
theorem coe_a : coe [1, 2] [5, 5] = 0 := by decide +kernel
theorem coefA (W : World) (g h : Nat) (hK : KT W) (hS : Sl W (some ⟨g, 0, none⟩) [1, 2] 2) (hS2 : Sl W (some ⟨h, 0, none⟩) [5, 5] 2) : Calls Tryd.prog 13 #[.slice (some ⟨g, 0, none⟩) 2 2, .slice (some ⟨h, 0, none⟩) 2 2] W fun e w' =>
    ∃ A c, e = .returned (.tuple #[.slice A 2 c, .int .i64 0]) ∧ Sl w' A [5, 0] c ∧ Below W.heap.size W w' := by
  refine (coef_any (some ⟨g, 0, none⟩) 2 [1, 2] (some ⟨h, 0, none⟩) 2 [5, 5] W hK hS hS2 (by simp) (by simp)).mono ?_
  rintro e w' ⟨A, c, he, ho, hb⟩
  rw [co_a] at he ho
  rw [coe_a] at he
  exact ⟨A, c, he, Sl.of_own' ho rfl, hb⟩
theorem coefB (W : World) (g : Nat) (hK : KT W) (hS : Sl W (some ⟨g, 0, none⟩) [1] 1) : Calls Tryd.prog 13 #[.slice (some ⟨g, 0, none⟩) 1 1, .slice none 0 0] W fun e w' =>
    ∃ A c, e = .returned (.tuple #[.slice A 0 c, .int .i64 1]) ∧ Below W.heap.size W w' := by
  refine (coef_any (some ⟨g, 0, none⟩) 1 [1] none 0 [] W hK hS (sl_none W) (by simp) (by simp)).mono ?_
  rintro e w' ⟨A, c, he, ho, hb⟩
  rw [show co [1] [] = [] by decide +kernel, show coe [1] [] = 1 by decide +kernel] at he
  exact ⟨A, c, he, hb⟩
theorem thruA (W : World) (g h : Nat) (hK : KT W) (hS : Sl W (some ⟨g, 0, none⟩) [1, 2] 2) (hS2 : Sl W (some ⟨h, 0, none⟩) [5, 5] 2) : Calls Tryd.prog 14 #[.slice (some ⟨g, 0, none⟩) 2 2, .slice (some ⟨h, 0, none⟩) 2 2, .int .u8 77] W fun e w' =>
    e = .returned (.tuple #[.int .u8 5, .int .i64 0]) ∧ Below W.heap.size W w' := by
  refine (thru_any (some ⟨g, 0, none⟩) 2 [1, 2] (some ⟨h, 0, none⟩) 2 [5, 5] 77 W hK hS hS2 (by simp) (by simp)).mono ?_
  rintro e w' ⟨he, hb⟩
  exact ⟨he.trans (by kernel_rfl), hb⟩
theorem thruB (W : World) (hK : KT W) : Calls Tryd.prog 14 #[.slice none 0 0, .slice none 0 0, .int .u8 7] W fun e w' => e = .returned (.tuple #[.int .u8 0, .int .i64 0]) ∧ Below W.heap.size W w' := by
  refine (thru_any none 0 [] none 0 [] 7 W hK (sl_none W) (sl_none W) (by simp) (by simp)).mono ?_
  rintro e w' ⟨he, hb⟩
  exact ⟨he.trans (by kernel_rfl), hb⟩
theorem thruC (W : World) (g h : Nat) (hK : KT W) (hS : Sl W (some ⟨g, 0, none⟩) [1, 1] 2) (hS2 : Sl W (some ⟨h, 0, none⟩) [5, 5] 2) : Calls Tryd.prog 14 #[.slice (some ⟨g, 0, none⟩) 2 2, .slice (some ⟨h, 0, none⟩) 2 2, .int .u8 7] W fun e w' =>
    e = .returned (.tuple #[.int .u8 0, .int .i64 1]) ∧ Below W.heap.size W w' := by
  refine (thru_any (some ⟨g, 0, none⟩) 2 [1, 1] (some ⟨h, 0, none⟩) 2 [5, 5] 7 W hK hS hS2 (by simp) (by simp)).mono ?_
  rintro e w' ⟨he, hb⟩
  exact ⟨he.trans (by kernel_rfl), hb⟩

/-- Two lists written out. -/
theorem two_lits (w W : World) (hb : Below w.heap.size w W) (a b : List UInt8) (ca cb : Array Value) (ha : (a.map bv).toArray = ca) (hb2 : (b.map bv).toArray = cb) (la : a.length = 2) (lb : b.length = 2) :
    Sl ((W.alloc (.cells ca 5)).alloc (.cells cb 5)) (some ⟨W.heap.size, 0, none⟩) a 2 ∧ Sl ((W.alloc (.cells ca 5)).alloc (.cells cb 5)) (some ⟨W.heap.size + 1, 0, none⟩) b 2 ∧ Below w.heap.size w ((W.alloc (.cells ca 5)).alloc (.cells cb 5)) := by
  have h1 := sl_lit W a 2 la (by omega) ca ha
  have h2 := sl_lit (W.alloc (.cells ca 5)) b 2 lb (by omega) cb hb2
  rw [World.size_alloc] at h2
  exact ⟨h1.up ((Below.refl _ _).alloc (Nat.le_refl _) _), h2, (hb.alloc hb.size _).alloc (by have := hb.size; simp; omega) _⟩

set_option maxHeartbeats 2000000 in
set_option maxRecDepth 100000 in
theorem sane_any (w : World) (hK : KT w) : Calls Tryd.prog 8 #[] w fun e w' => e = .returned (.bool true) ∧ Below w.heap.size w w' := by
  have HK := Lib.hid hK
  clear hK
  go_enter Tryd.func8, Tryd.ntmps8
  go_wp2_with fail
  refine (inv2 w HK.out).mono ?_
  rintro e w1 ⟨rfl, rfl⟩
  go_wp2_with fail
  refine (inv0 w HK.out).mono ?_
  rintro e w1 ⟨rfl, rfl⟩
  have T1 := Lib.hid (two_lits w w (Below.refl _ _) [1, 2] [5, 5] _ _ rfl rfl rfl rfl)
  go_wp2_with fail
  refine (coefA _ _ _ (HK.out.below T1.out.2.2) T1.out.1 T1.out.2.1).mono ?_
  rintro e w1 ⟨A, c, rfl, hl, hb⟩
  have hb1 := T1.out.2.2.trans (hb.mono T1.out.2.2.size)
  have T2 := Lib.hid (two_lits w w1 hb1 [1, 2] [5, 5] _ _ rfl rfl rfl rfl)
  have HL1 := Lib.hid (hl.up (((Below.refl _ w1).alloc (Nat.le_refl _) (.cells #[.int .u8 1, .int .u8 2] 5)).alloc (by simp) (.cells #[.int .u8 5, .int .u8 5] 5)))
  clear hb hb1 hl T1
  go_wp2_with fail
  refine (thruA _ _ _ (HK.out.below T2.out.2.2) T2.out.1 T2.out.2.1).mono ?_
  rintro e w2 ⟨rfl, hb⟩
  have hb2 := Lib.hid (T2.out.2.2.trans (hb.mono T2.out.2.2.size))
  have HL2 := Lib.hid (HL1.out.up hb)
  clear hb T2 HL1
  go_wp2_with fail
  refine (thruB _ (HK.out.below hb2.out)).mono ?_
  rintro e w3 ⟨rfl, hb⟩
  have hb3 := hb2.out.trans (hb.mono hb2.out.size)
  have T3 := Lib.hid (two_lits w w3 hb3 [1, 1] [5, 5] _ _ rfl rfl rfl rfl)
  have HL3 := Lib.hid ((HL2.out.up hb).up (((Below.refl _ w3).alloc (Nat.le_refl _) (.cells #[.int .u8 1, .int .u8 1] 5)).alloc (by simp) (.cells #[.int .u8 5, .int .u8 5] 5)))
  clear hb hb3 HL2 hb2
  go_wp2_with fail
  refine (thruC _ _ _ (HK.out.below T3.out.2.2) T3.out.1 T3.out.2.1).mono ?_
  rintro e w4 ⟨rfl, hb⟩
  have hb4 := T3.out.2.2.trans (hb.mono T3.out.2.2.size)
  have T4 := Lib.hid (And.intro (sl_lit w4 [1] 1 rfl (by omega) #[.int .u8 1] rfl) (hb4.alloc hb4.size (.cells #[.int .u8 1] 5)))
  have HL4 := Lib.hid ((HL3.out.up hb).up ((Below.refl _ w4).alloc (Nat.le_refl _) (.cells #[.int .u8 1] 5)))
  clear hb hb4 HL3 T3
  go_wp2_with fail
  refine (coefB _ _ (HK.out.below T4.out.2) T4.out.1).mono ?_
  rintro e w5 ⟨A2, c2, rfl, hb⟩
  have hb5 := Lib.hid (T4.out.2.trans (hb.mono T4.out.2.size))
  have HL5 := Lib.hid (HL4.out.up hb)
  clear hb HL4 T4
  go_wp2_with fail
  refine (mulA _ (HK.out.below hb5.out)).mono ?_
  rintro e w6 ⟨rfl, rfl⟩
  go_wp2_with fail
  refine (mulB _ (HK.out.below hb5.out)).mono ?_
  rintro e w6 ⟨rfl, rfl⟩
  have s1 := sl_str (n := 2) HL5.out rfl
  have s2 := sl_str (n := 2) (sl_lit w5 [5, 0] 2 rfl (by omega) #[.int .u8 5, .int .u8 0] rfl) rfl
  have hb6 := Lib.hid (hb5.out.alloc hb5.out.size (.cells #[.int .u8 5, .int .u8 0] 5))
  go_wp2_with fail
  clear s1 s2
  refine (evalA _ (HK.out.below hb6.out)).mono ?_
  rintro e w7 ⟨rfl, hb⟩
  have hb7 := hb6.out.trans (hb.mono hb6.out.size)
  have T7 := Lib.hid (And.intro (sl_lit w7 [3, 9, 200] 3 rfl (by omega) #[.int .u8 3, .int .u8 9, .int .u8 200] rfl) (hb7.alloc hb7.size (.cells #[.int .u8 3, .int .u8 9, .int .u8 200] 5)))
  clear hb hb7
  go_wp2_with fail
  refine (evalB _ _ (HK.out.below T7.out.2) T7.out.1).mono ?_
  rintro e w8 ⟨rfl, hb⟩
  have hb8 := T7.out.2.trans (hb.mono T7.out.2.size)
  go_wp2_with fail
  go_ret
  exact ⟨rfl, hb8⟩
end Go.Proofs.YthfnimmfgmpdfaaDoor
