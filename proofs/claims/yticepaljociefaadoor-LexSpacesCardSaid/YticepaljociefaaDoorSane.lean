/- sane. -/
import Derived.Test.YticepaljociefaaDoorSaneC
namespace Go.Proofs.YticepaljociefaaDoor
open Go.RowKit Go.Shelf
set_option linter.unusedVariables false
set_option linter.unusedSimpArgs false
attribute [local go_sem] bs_toList bs_e

set_option maxHeartbeats 8000000 in
set_option maxRecDepth 100000 in
theorem sane_any (w : World) (hK : KT w) (hP : PT w) : Calls Tryd.prog 11 #[] w (BoolPost true w) := by
  have HK := Lib.hid hK
  have HP := Lib.hid hP
  have HB := Lib.hid (Below.refl w.heap.size w)
  clear hK hP
  unfold BoolPost
  go_enter Tryd.func11, Tryd.ntmps11
  go_wp2_with fail
  refine (lexc1 _ HK.out).mono ?_
  rintro e w1 ⟨A1, c1, rfl, ht1, hb1⟩
  have HL1 := Lib.hid ht1
  have HK := Lib.hid (HK.out.below hb1)
  have HP := Lib.hid (HP.out.below hb1)
  have HB := Lib.hid (HB.out.trans (hb1.mono HB.out.size))
  clear hb1 ht1
  have hal := (Below.refl w1.heap.size w1).alloc (Nat.le_refl _) (.cells #[.int .i64 1, .string ⟨#[115, 117, 109]⟩, .int .i64 0, .int .i64 0, .int .i64 2, .string ⟨#[]⟩, .int .i64 30, .int .i64 4, .int .i64 3, .string ⟨#[59]⟩, .int .i64 0, .int .i64 6] 35)
  have HW := Lib.hid (TT.of_box (w := w1.alloc (.cells #[.int .i64 1, .string ⟨#[115, 117, 109]⟩, .int .i64 0, .int .i64 0, .int .i64 2, .string ⟨#[]⟩, .int .i64 30, .int .i64 4, .int .i64 3, .string ⟨#[59]⟩, .int .i64 0, .int .i64 6] 35)) (l := T1) (Box.new w1 #[.int .i64 1, .string ⟨#[115, 117, 109]⟩, .int .i64 0, .int .i64 0, .int .i64 2, .string ⟨#[]⟩, .int .i64 30, .int .i64 4, .int .i64 3, .string ⟨#[59]⟩, .int .i64 0, .int .i64 6] 35) (by simp [T1]))
  have HL1 := Lib.hid (HL1.out.up hal)
  have HK := Lib.hid (HK.out.below hal)
  have HP := Lib.hid (HP.out.below hal)
  have HB := Lib.hid (HB.out.trans (hal.mono HB.out.size))
  clear hal
  go_wp2_with fail
  generalize w1.alloc (.cells #[.int .i64 1, .string ⟨#[115, 117, 109]⟩, .int .i64 0, .int .i64 0, .int .i64 2, .string ⟨#[]⟩, .int .i64 30, .int .i64 4, .int .i64 3, .string ⟨#[59]⟩, .int .i64 0, .int .i64 6] 35) = v1 at *
  obtain ⟨g1, hg1⟩ : ∃ g, w1.heap.size = g := ⟨_, rfl⟩
  rw [hg1] at HW ⊢
  clear hg1
  refine (lexc2 _ HK.out).mono ?_
  rintro e w2 ⟨A2, c2, rfl, ht2, hb2⟩
  have HL1 := Lib.hid (HL1.out.up hb2)
  have HW := Lib.hid (HW.out.up hb2)
  have HK := Lib.hid (HK.out.below hb2)
  have HP := Lib.hid (HP.out.below hb2)
  have HB := Lib.hid (HB.out.trans (hb2.mono HB.out.size))
  clear hb2 ht2
  go_wp2_with fail
  refine (lexc3 _ HK.out).mono ?_
  rintro e w3 ⟨A3, c3, rfl, ht3, hb3⟩
  have HL1 := Lib.hid (HL1.out.up hb3)
  have HW := Lib.hid (HW.out.up hb3)
  have HL3 := Lib.hid ht3
  have HK := Lib.hid (HK.out.below hb3)
  have HP := Lib.hid (HP.out.below hb3)
  have HB := Lib.hid (HB.out.trans (hb3.mono HB.out.size))
  clear hb3 ht3
  go_wp2_with fail
  refine (lexc4 _ HK.out).mono ?_
  rintro e w4 ⟨A4, c4, rfl, ht4, hb4⟩
  have HL1 := Lib.hid (HL1.out.up hb4)
  have HW := Lib.hid (HW.out.up hb4)
  have HL3 := Lib.hid (HL3.out.up hb4)
  have HL4 := Lib.hid ht4
  have HK := Lib.hid (HK.out.below hb4)
  have HP := Lib.hid (HP.out.below hb4)
  have HB := Lib.hid (HB.out.trans (hb4.mono HB.out.size))
  clear hb4 ht4
  go_wp2_with fail
  refine (lexc5 _ HK.out).mono ?_
  rintro e w5 ⟨A5, c5, rfl, ht5, hb5⟩
  have HL1 := Lib.hid (HL1.out.up hb5)
  have HW := Lib.hid (HW.out.up hb5)
  have HL3 := Lib.hid (HL3.out.up hb5)
  have HL4 := Lib.hid (HL4.out.up hb5)
  have HK := Lib.hid (HK.out.below hb5)
  have HP := Lib.hid (HP.out.below hb5)
  have HB := Lib.hid (HB.out.trans (hb5.mono HB.out.size))
  clear hb5 ht5
  go_wp2_with fail
  refine (lexc6 _ HK.out).mono ?_
  rintro e w6 ⟨A6, c6, rfl, ht6, hb6⟩
  have HL1 := Lib.hid (HL1.out.up hb6)
  have HW := Lib.hid (HW.out.up hb6)
  have HL3 := Lib.hid (HL3.out.up hb6)
  have HL4 := Lib.hid (HL4.out.up hb6)
  have HL6 := Lib.hid ht6
  have HK := Lib.hid (HK.out.below hb6)
  have HP := Lib.hid (HP.out.below hb6)
  have HB := Lib.hid (HB.out.trans (hb6.mono HB.out.size))
  clear hb6 ht6
  go_wp2_with fail
  refine (txc6 _ _ _ HL6.out HK.out HP.out).mono ?_
  rintro e w7 ⟨rfl, hb7⟩
  have HL1 := Lib.hid (HL1.out.up hb7)
  have HW := Lib.hid (HW.out.up hb7)
  have HL3 := Lib.hid (HL3.out.up hb7)
  have HL4 := Lib.hid (HL4.out.up hb7)
  have HL6 := Lib.hid (HL6.out.up hb7)
  have HK := Lib.hid (HK.out.below hb7)
  have HP := Lib.hid (HP.out.below hb7)
  have HB := Lib.hid (HB.out.trans (hb7.mono HB.out.size))
  clear hb7
  go_wp2_with fail
  refine (lexc8 _ HK.out).mono ?_
  rintro e w8 ⟨A8, c8, rfl, ht8, hb8⟩
  have HL1 := Lib.hid (HL1.out.up hb8)
  have HW := Lib.hid (HW.out.up hb8)
  have HL3 := Lib.hid (HL3.out.up hb8)
  have HL4 := Lib.hid (HL4.out.up hb8)
  have HL6 := Lib.hid (HL6.out.up hb8)
  have HK := Lib.hid (HK.out.below hb8)
  have HP := Lib.hid (HP.out.below hb8)
  have HB := Lib.hid (HB.out.trans (hb8.mono HB.out.size))
  clear hb8 ht8
  go_wp2_with fail
  have hal := (Below.refl w8.heap.size w8).alloc (Nat.le_refl _) (.cells #[.int .i64 0, .string ⟨#[]⟩, .int .i64 0, .int .i64 0] 35)
  have HZ := Lib.hid (TT.of_box (w := w8.alloc (.cells #[.int .i64 0, .string ⟨#[]⟩, .int .i64 0, .int .i64 0] 35)) (l := Z9) (Box.new w8 #[.int .i64 0, .string ⟨#[]⟩, .int .i64 0, .int .i64 0] 35) (by simp [Z9]))
  have HL1 := Lib.hid (HL1.out.up hal)
  have HW := Lib.hid (HW.out.up hal)
  have HL3 := Lib.hid (HL3.out.up hal)
  have HL4 := Lib.hid (HL4.out.up hal)
  have HL6 := Lib.hid (HL6.out.up hal)
  have HK := Lib.hid (HK.out.below hal)
  have HP := Lib.hid (HP.out.below hal)
  have HB := Lib.hid (HB.out.trans (hal.mono HB.out.size))
  clear hal
  generalize w8.alloc (.cells #[.int .i64 0, .string ⟨#[]⟩, .int .i64 0, .int .i64 0] 35) = v8 at *
  refine (txc9 _ _ _ HZ.out HK.out HP.out).mono ?_
  rintro e w9 ⟨rfl, hb9⟩
  have HL1 := Lib.hid (HL1.out.up hb9)
  have HW := Lib.hid (HW.out.up hb9)
  have HL3 := Lib.hid (HL3.out.up hb9)
  have HL4 := Lib.hid (HL4.out.up hb9)
  have HL6 := Lib.hid (HL6.out.up hb9)
  have HK := Lib.hid (HK.out.below hb9)
  have HP := Lib.hid (HP.out.below hb9)
  have HB := Lib.hid (HB.out.trans (hb9.mono HB.out.size))
  clear hb9
  go_wp2_with fail
  refine (eqc _ _ _ _ _ HL1.out HW.out).mono ?_
  rintro e w10 ⟨rfl, hb10⟩
  have HL1 := Lib.hid (HL1.out.up hb10)
  have HW := Lib.hid (HW.out.up hb10)
  have HL3 := Lib.hid (HL3.out.up hb10)
  have HL4 := Lib.hid (HL4.out.up hb10)
  have HL6 := Lib.hid (HL6.out.up hb10)
  have HK := Lib.hid (HK.out.below hb10)
  have HP := Lib.hid (HP.out.below hb10)
  have HB := Lib.hid (HB.out.trans (hb10.mono HB.out.size))
  clear hb10
  obtain ⟨b3, o3, e3, _, x30, x31, x32, x33⟩ := HL3.out.at_ (i := 0) rfl
  obtain ⟨b4, o4, e4, _, x40, x41, x42, x43⟩ := HL4.out.at_ (i := 0) rfl
  subst e3 e4
  rw [Nat.zero_mul, Nat.add_zero] at x30 x31 x32 x33 x40 x41 x42 x43
  have hcmp : (bs [97]).toList = [97] := bs_toList _
  go_wp2_with fail
  refine (nmc1 _ HK.out).mono ?_
  rintro e w11 ⟨rfl, rfl⟩
  go_wp2_with fail
  refine (nmc2 _ HK.out).mono ?_
  rintro e w11 ⟨rfl, rfl⟩
  clear x30 x31 x32 x33 x40 x41 x42 x43 hcmp
  go_wp2_with fail
  refine (smc1 _ _ _ _ _ HL4.out HL6.out).mono ?_
  rintro e w12 ⟨rfl, hb12⟩
  have HL4 := Lib.hid (HL4.out.up hb12)
  have HB := Lib.hid (HB.out.trans (hb12.mono HB.out.size))
  clear hb12
  go_wp2_with fail
  have hal := (Below.refl w12.heap.size w12).alloc (Nat.le_refl _) (.cells #[.int .i64 1, .string ⟨#[97]⟩, .int .i64 0, .int .i64 9] 35)
  have HY := Lib.hid (TT.of_box (w := w12.alloc (.cells #[.int .i64 1, .string ⟨#[97]⟩, .int .i64 0, .int .i64 9] 35)) (l := Y4) (Box.new w12 #[.int .i64 1, .string ⟨#[97]⟩, .int .i64 0, .int .i64 9] 35) (by simp [Y4]))
  have HL4 := Lib.hid (HL4.out.up hal)
  have HB := Lib.hid (HB.out.trans (hal.mono HB.out.size))
  clear hal
  generalize w12.alloc (.cells #[.int .i64 1, .string ⟨#[97]⟩, .int .i64 0, .int .i64 9] 35) = v12 at *
  refine (smc2 _ _ _ _ _ HL4.out HY.out).mono ?_
  rintro e w13 ⟨rfl, hb13⟩
  have HB := Lib.hid (HB.out.trans (hb13.mono HB.out.size))
  clear hb13
  go_wp2_with fail
  go_ret
  exact ⟨rfl, HB.out⟩
end Go.Proofs.YticepaljociefaaDoor
