/- FieldAxioms. -/
import Derived.Test.YthfnimmfgmpdfaaDoorSane
import Derived.Test.YthfnimmfgmpdfaaDoorRMul
namespace Go.Proofs.YthfnimmfgmpdfaaDoor
open Go.RowKit
set_option linter.unusedVariables false

theorem bz (a : UInt8) : ((a.toNat : Int) == 0) = decide (a = 0) := by
  by_cases h : a = 0
  · subst h; rfl
  · rw [decide_eq_false h, beq_eq_false_iff_ne]
    exact fun e => h (bv_inj.1 (e.trans rfl))
set_option maxHeartbeats 2000000 in
set_option maxRecDepth 100000 in
theorem ax_any (a b c : UInt8) (w : World) (hK : KT w) : Calls Tryd.prog 4 #[bv a, bv b, bv c] w fun e w' => e = .returned (.bool true) ∧ Below w.heap.size w w' := by
  have HS := Lib.hid (sane_any w hK)
  have hM : ∀ (x y z : UInt8), gm x y = z → ∀ W, Below w.heap.size w W → Calls Tryd.prog 11 #[.int .u8 (x.toNat : Int), .int .u8 (y.toNat : Int)] W fun e w' => e = .returned (.int .u8 (z.toNat : Int)) ∧ W = w' := fun x y z h W hb => by
    subst h
    exact mul_any x y W (hK.below hb)
  have hM1 : ∀ W, Below w.heap.size w W → Calls Tryd.prog 11 #[.int .u8 (a.toNat : Int), .int .u8 1] W fun e w' => e = .returned (.int .u8 (a.toNat : Int)) ∧ W = w' := fun W hb => hM a 1 a (gm_one a) W hb
  have hI : ∀ (x : UInt8) W, Below w.heap.size w W → Calls Tryd.prog 9 #[.int .u8 (x.toNat : Int)] W fun e w' => e = .returned (.tuple #[.int .u8 ((iv x).toNat : Int), .int .i64 (ie x)]) ∧ W = w' := fun x W hb => inv_any x W (hK.below hb)
  have HM := Lib.hid hM
  have HM1 := Lib.hid hM1
  have HI := Lib.hid hI
  clear hM hM1 hI hK
  obtain ⟨P, hP⟩ : ∃ P, gm a b = P := ⟨_, rfl⟩
  obtain ⟨Q, hQ⟩ : ∃ Q, gm b c = Q := ⟨_, rfl⟩
  obtain ⟨R, hR⟩ : ∃ R, gm P c = R := ⟨_, rfl⟩
  obtain ⟨S, hS⟩ : ∃ S, gm a c = S := ⟨_, rfl⟩
  have hba : gm b a = P := by rw [gm_comm, hP]
  have haq : gm a Q = R := by rw [← hQ, gm_assoc, hP, hR]
  have hx : gm a (b ^^^ c) = P ^^^ S := by rw [gm_right, hP, hS]
  have hz : (P = 0) ↔ (a = 0 ∨ b = 0) := by rw [← hP]; exact gm_eq_zero
  have x1 := xor_u8 b c
  have x2 := xor_u8 P S
  have zP := bz P
  have za := bz a
  have zb := bz b
  have HE := Lib.hid (And.intro hP (And.intro hba (And.intro hQ (And.intro haq (And.intro hR (And.intro hS hx))))))
  clear hP hba hQ haq hR hS hx
  unfold bv
  by_cases ha : a = 0
  · have e1 : iv a = 0 := by rw [ha]; rfl
    have e2 : ie a = 1 := by rw [ha]; rfl
    rw [decide_eq_true ha] at za
    rw [decide_eq_true (hz.2 (.inl ha))] at zP
    clear hz ha
    go_enter Tryd.func4, Tryd.ntmps4
    go_wp2_with fail
    refine HS.out.mono ?_
    rintro e w1 ⟨rfl, hb1⟩
    go_wp2_with fail
    refine (HI.out a w1 hb1).mono ?_
    rintro e w2 ⟨rfl, rfl⟩
    go_wp2_with fail
    refine (HM.out a b P HE.out.1 w1 hb1).mono ?_
    rintro e w2 ⟨rfl, rfl⟩
    go_wp2_with fail
    refine (HM.out b a P HE.out.2.1 w1 hb1).mono ?_
    rintro e w2 ⟨rfl, rfl⟩
    go_wp2_with fail
    refine (HM.out b c Q HE.out.2.2.1 w1 hb1).mono ?_
    rintro e w2 ⟨rfl, rfl⟩
    go_wp2_with fail
    refine (HM.out a Q R HE.out.2.2.2.1 w1 hb1).mono ?_
    rintro e w2 ⟨rfl, rfl⟩
    go_wp2_with fail
    refine (HM.out a b P HE.out.1 w1 hb1).mono ?_
    rintro e w2 ⟨rfl, rfl⟩
    go_wp2_with fail
    refine (HM.out P c R HE.out.2.2.2.2.1 w1 hb1).mono ?_
    rintro e w2 ⟨rfl, rfl⟩
    go_wp2_with fail
    refine (HM.out a (b ^^^ c) (P ^^^ S) HE.out.2.2.2.2.2.2 w1 hb1).mono ?_
    rintro e w2 ⟨rfl, rfl⟩
    go_wp2_with fail
    refine (HM.out a b P HE.out.1 w1 hb1).mono ?_
    rintro e w2 ⟨rfl, rfl⟩
    go_wp2_with fail
    refine (HM.out a c S HE.out.2.2.2.2.2.1 w1 hb1).mono ?_
    rintro e w2 ⟨rfl, rfl⟩
    go_wp2_with fail
    refine (HM1.out w1 hb1).mono ?_
    rintro e w2 ⟨rfl, rfl⟩
    go_wp2_with fail
    refine (HM.out a b P HE.out.1 w1 hb1).mono ?_
    rintro e w2 ⟨rfl, rfl⟩
    go_wp2_with fail
    go_ret
    exact ⟨rfl, hb1⟩
  · have HA := Lib.hid (And.intro (show gm a (iv a) = 1 by rw [(iv_pos ha).1]; exact gm_inv a ha) (show iv (iv a) = a by rw [(iv_pos ha).1, (iv_pos (inv_ne a ha)).1]; exact inv_inv a ha))
    have e2 : ie a = 0 := (iv_pos ha).2
    have e3 : ie (iv a) = 0 := by rw [(iv_pos ha).1]; exact (iv_pos (inv_ne a ha)).2
    have e4 : iv (iv a) = a := HA.out.2
    have hz2 : decide (P = 0) = decide (b = 0) := by
      by_cases hb : b = 0
      · rw [decide_eq_true hb, decide_eq_true (hz.2 (.inr hb))]
      · rw [decide_eq_false hb, decide_eq_false (fun e => (hz.1 e).elim ha hb)]
    rw [hz2] at zP
    rw [decide_eq_false ha] at za
    clear hz hz2 ha
    generalize decide (b = 0) = B at *
    cases B
    · go_enter Tryd.func4, Tryd.ntmps4
      go_wp2_with fail
      refine HS.out.mono ?_
      rintro e w1 ⟨rfl, hb1⟩
      go_wp2_with fail
      refine (HI.out a w1 hb1).mono ?_
      rintro e w2 ⟨rfl, rfl⟩
      go_wp2_with fail
      refine (HM.out a b P HE.out.1 w1 hb1).mono ?_
      rintro e w2 ⟨rfl, rfl⟩
      go_wp2_with fail
      refine (HM.out b a P HE.out.2.1 w1 hb1).mono ?_
      rintro e w2 ⟨rfl, rfl⟩
      go_wp2_with fail
      refine (HM.out b c Q HE.out.2.2.1 w1 hb1).mono ?_
      rintro e w2 ⟨rfl, rfl⟩
      go_wp2_with fail
      refine (HM.out a Q R HE.out.2.2.2.1 w1 hb1).mono ?_
      rintro e w2 ⟨rfl, rfl⟩
      go_wp2_with fail
      refine (HM.out a b P HE.out.1 w1 hb1).mono ?_
      rintro e w2 ⟨rfl, rfl⟩
      go_wp2_with fail
      refine (HM.out P c R HE.out.2.2.2.2.1 w1 hb1).mono ?_
      rintro e w2 ⟨rfl, rfl⟩
      go_wp2_with fail
      refine (HM.out a (b ^^^ c) (P ^^^ S) HE.out.2.2.2.2.2.2 w1 hb1).mono ?_
      rintro e w2 ⟨rfl, rfl⟩
      go_wp2_with fail
      refine (HM.out a b P HE.out.1 w1 hb1).mono ?_
      rintro e w2 ⟨rfl, rfl⟩
      go_wp2_with fail
      refine (HM.out a c S HE.out.2.2.2.2.2.1 w1 hb1).mono ?_
      rintro e w2 ⟨rfl, rfl⟩
      go_wp2_with fail
      refine (HM1.out w1 hb1).mono ?_
      rintro e w2 ⟨rfl, rfl⟩
      go_wp2_with fail
      refine (HM.out a b P HE.out.1 w1 hb1).mono ?_
      rintro e w2 ⟨rfl, rfl⟩
      go_wp2_with fail
      refine (HI.out (iv a) w1 hb1).mono ?_
      rintro e w2 ⟨rfl, rfl⟩
      go_wp2_with fail
      refine (HM.out a (iv a) 1 HA.out.1 w1 hb1).mono ?_
      rintro e w2 ⟨rfl, rfl⟩
      go_wp2_with fail
      go_ret
      exact ⟨rfl, hb1⟩
    · go_enter Tryd.func4, Tryd.ntmps4
      go_wp2_with fail
      refine HS.out.mono ?_
      rintro e w1 ⟨rfl, hb1⟩
      go_wp2_with fail
      refine (HI.out a w1 hb1).mono ?_
      rintro e w2 ⟨rfl, rfl⟩
      go_wp2_with fail
      refine (HM.out a b P HE.out.1 w1 hb1).mono ?_
      rintro e w2 ⟨rfl, rfl⟩
      go_wp2_with fail
      refine (HM.out b a P HE.out.2.1 w1 hb1).mono ?_
      rintro e w2 ⟨rfl, rfl⟩
      go_wp2_with fail
      refine (HM.out b c Q HE.out.2.2.1 w1 hb1).mono ?_
      rintro e w2 ⟨rfl, rfl⟩
      go_wp2_with fail
      refine (HM.out a Q R HE.out.2.2.2.1 w1 hb1).mono ?_
      rintro e w2 ⟨rfl, rfl⟩
      go_wp2_with fail
      refine (HM.out a b P HE.out.1 w1 hb1).mono ?_
      rintro e w2 ⟨rfl, rfl⟩
      go_wp2_with fail
      refine (HM.out P c R HE.out.2.2.2.2.1 w1 hb1).mono ?_
      rintro e w2 ⟨rfl, rfl⟩
      go_wp2_with fail
      refine (HM.out a (b ^^^ c) (P ^^^ S) HE.out.2.2.2.2.2.2 w1 hb1).mono ?_
      rintro e w2 ⟨rfl, rfl⟩
      go_wp2_with fail
      refine (HM.out a b P HE.out.1 w1 hb1).mono ?_
      rintro e w2 ⟨rfl, rfl⟩
      go_wp2_with fail
      refine (HM.out a c S HE.out.2.2.2.2.2.1 w1 hb1).mono ?_
      rintro e w2 ⟨rfl, rfl⟩
      go_wp2_with fail
      refine (HM1.out w1 hb1).mono ?_
      rintro e w2 ⟨rfl, rfl⟩
      go_wp2_with fail
      refine (HM.out a b P HE.out.1 w1 hb1).mono ?_
      rintro e w2 ⟨rfl, rfl⟩
      go_wp2_with fail
      refine (HI.out (iv a) w1 hb1).mono ?_
      rintro e w2 ⟨rfl, rfl⟩
      go_wp2_with fail
      refine (HM.out a (iv a) 1 HA.out.1 w1 hb1).mono ?_
      rintro e w2 ⟨rfl, rfl⟩
      go_wp2_with fail
      go_ret
      exact ⟨rfl, hb1⟩
end Go.Proofs.YthfnimmfgmpdfaaDoor
