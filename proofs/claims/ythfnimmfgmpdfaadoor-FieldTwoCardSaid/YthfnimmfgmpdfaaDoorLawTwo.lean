/- FieldTwo. -/
import Derived.Test.YthfnimmfgmpdfaaDoorSane
namespace Go.Proofs.YthfnimmfgmpdfaaDoor
open Go.RowKit
set_option linter.unusedVariables false

/-- The powers of 2 in the field; the bits of a byte. -/
def pk : Nat → UInt8
  | 0 => 1
  | k + 1 => gm (pk k) 2
def sk (b : UInt8) : Nat → UInt8
  | 0 => 0
  | k + 1 => if b.toNat.testBit k then sk b k ^^^ pk k else sk b k
theorem sk_all (b : UInt8) : sk b 8 = b := by
  have := u8_all (fun b => sk b 8 == b) (by decide +kernel) b
  simpa using this
theorem two_hi (a : UInt8) (h : 128 ≤ a.toNat) : bits .xor .u8 ((a.toNat : Int) * 2 % 256) 27 = ((gm a 2).toNat : Int) := by
  have h1 := u8_all (fun a => decide (a.toNat < 128) || ((a.toNat * 2 % 256) ^^^ 27 == (gm a 2).toNat)) (by decide +kernel) a
  simp only [Bool.or_eq_true, decide_eq_true_eq, beq_iff_eq] at h1
  have h2 : (a.toNat * 2 % 256) ^^^ 27 = (gm a 2).toNat := by omega
  rw [← h2, show ((a.toNat : Int) * 2 % 256) = ((a.toNat * 2 % 256 : Nat) : Int) by omega, show (27 : Int) = ((27 : Nat) : Int) from rfl, xor_b _ _ (by omega) (by omega)]
theorem two_lo (a : UInt8) (h : a.toNat < 128) : ((a.toNat : Int) * 2 % 256) = ((gm a 2).toNat : Int) := by
  have h1 := u8_all (fun a => decide (128 ≤ a.toNat) || (a.toNat * 2 % 256 == (gm a 2).toNat)) (by decide +kernel) a
  simp only [Bool.or_eq_true, decide_eq_true_eq, beq_iff_eq] at h1
  omega

set_option maxHeartbeats 2000000 in
set_option maxRecDepth 100000 in
theorem two_any (a b : UInt8) (w : World) (hK : KT w) : Calls Tryd.prog 5 #[bv a, bv b] w fun e w' => e = .returned (.bool true) ∧ Below w.heap.size w w' := by
  have HS := Lib.hid (sane_any w hK)
  have hM : ∀ (x y : UInt8) W, Below w.heap.size w W → Calls Tryd.prog 11 #[.int .u8 (x.toNat : Int), .int .u8 (y.toNat : Int)] W fun e w' => e = .returned (.int .u8 ((gm x y).toNat : Int)) ∧ W = w' := fun x y W hb => mul_any x y W (hK.below hb)
  have hM2 : ∀ (x : UInt8) W, Below w.heap.size w W → Calls Tryd.prog 11 #[.int .u8 (x.toNat : Int), .int .u8 2] W fun e w' => e = .returned (.int .u8 ((gm x 2).toNat : Int)) ∧ W = w' := fun x W hb => mul_any x 2 W (hK.below hb)
  have HM := Lib.hid hM
  have HM2 := Lib.hid hM2
  clear hM hM2 hK
  have hT1 : 128 ≤ a.toNat → bits .xor .u8 ((a.toNat : Int) * 2 % 256) 27 = ((gm a 2).toNat : Int) := two_hi a
  have hT2 : a.toNat < 128 → ((a.toNat : Int) * 2 % 256) = ((gm a 2).toNat : Int) := two_lo a
  have ha := u8_lt a
  have hb := u8_lt b
  unfold bv
  by_cases hc : 128 ≤ a.toNat
  · have hx := hT1 hc
    have hd : decide ((128 : Int) ≤ (a.toNat : Int)) = true := decide_eq_true (by omega)
    clear hT1 hT2
    go_enter Tryd.func5, Tryd.ntmps5
    go_wp2_with fail
    refine HS.out.mono ?_
    rintro e w1 ⟨rfl, hb1⟩
    go_wp2_with fail
    go_loop [6, 7, 8] (fun s x i => ∃ k : Nat, k ≤ 8 ∧ i = .int .i64 k ∧ s = .int .u8 ((gm a (sk b k)).toNat : Int) ∧ x = .int .u8 ((gm a (pk k)).toNat : Int)) (fun _ _ i => 8 - (intOf i).toNat)
    case atStart => exact ⟨0, by omega, rfl, by rw [show sk b 0 = 0 from rfl, gm_zero]; rfl, by rw [show pk 0 = 1 from rfl, gm_one]⟩
    case round =>
      obtain ⟨k, hk, rfl, rfl, rfl⟩ := hrel
      by_cases hlt : k < 8
      · have hbit := bit_int b.toNat k hb
        have HPK := Lib.hid (show gm (gm a (pk k)) 2 = gm a (pk (k + 1)) by rw [← gm_assoc]; rfl)
        have HMK := Lib.hid (HM2.out (gm a (pk k)) w1 hb1)
        by_cases ht : b.toNat.testBit k = true
        · rw [if_pos ht] at hbit
          have HSK := Lib.hid (show gm a (sk b (k + 1)) = gm a (sk b k) ^^^ gm a (pk k) by rw [← gm_right, show sk b (k + 1) = if b.toNat.testBit k then sk b k ^^^ pk k else sk b k from rfl, if_pos ht])
          go_wp2_with fail
          refine HMK.out.mono ?_
          rintro e w2 ⟨rfl, rfl⟩
          go_wp2_with fail
          go_round
          case rel => exact ⟨k + 1, by omega, by go_num, by rw [HSK.out, xor_u8], by rw [HPK.out]⟩
          case measure => simp [intOf]; omega
        · rw [if_neg ht] at hbit
          have HSK := Lib.hid (show gm a (sk b (k + 1)) = gm a (sk b k) by rw [show sk b (k + 1) = if b.toNat.testBit k then sk b k ^^^ pk k else sk b k from rfl, if_neg ht])
          go_wp2_with fail
          refine HMK.out.mono ?_
          rintro e w2 ⟨rfl, rfl⟩
          go_wp2_with fail
          go_round
          case rel => exact ⟨k + 1, by omega, by go_num, by rw [HSK.out], by rw [HPK.out]⟩
          case measure => simp [intOf]; omega
      · obtain rfl : k = 8 := by omega
        rw [sk_all]
        go_wp2_with fail
        refine (HM2.out a w1 hb1).mono ?_
        rintro e w2 ⟨rfl, rfl⟩
        go_wp2_with fail
        refine (HM.out a b w1 hb1).mono ?_
        rintro e w2 ⟨rfl, rfl⟩
        go_wp2_with fail
        go_ret
        exact ⟨rfl, hb1⟩
  · have hx := hT2 (by omega)
    have hd : decide ((128 : Int) ≤ (a.toNat : Int)) = false := decide_eq_false (by omega)
    clear hT1 hT2
    go_enter Tryd.func5, Tryd.ntmps5
    go_wp2_with fail
    refine HS.out.mono ?_
    rintro e w1 ⟨rfl, hb1⟩
    go_wp2_with fail
    go_loop [6, 7, 8] (fun s x i => ∃ k : Nat, k ≤ 8 ∧ i = .int .i64 k ∧ s = .int .u8 ((gm a (sk b k)).toNat : Int) ∧ x = .int .u8 ((gm a (pk k)).toNat : Int)) (fun _ _ i => 8 - (intOf i).toNat)
    case atStart => exact ⟨0, by omega, rfl, by rw [show sk b 0 = 0 from rfl, gm_zero]; rfl, by rw [show pk 0 = 1 from rfl, gm_one]⟩
    case round =>
      obtain ⟨k, hk, rfl, rfl, rfl⟩ := hrel
      by_cases hlt : k < 8
      · have hbit := bit_int b.toNat k hb
        have HPK := Lib.hid (show gm (gm a (pk k)) 2 = gm a (pk (k + 1)) by rw [← gm_assoc]; rfl)
        have HMK := Lib.hid (HM2.out (gm a (pk k)) w1 hb1)
        by_cases ht : b.toNat.testBit k = true
        · rw [if_pos ht] at hbit
          have HSK := Lib.hid (show gm a (sk b (k + 1)) = gm a (sk b k) ^^^ gm a (pk k) by rw [← gm_right, show sk b (k + 1) = if b.toNat.testBit k then sk b k ^^^ pk k else sk b k from rfl, if_pos ht])
          go_wp2_with fail
          refine HMK.out.mono ?_
          rintro e w2 ⟨rfl, rfl⟩
          go_wp2_with fail
          go_round
          case rel => exact ⟨k + 1, by omega, by go_num, by rw [HSK.out, xor_u8], by rw [HPK.out]⟩
          case measure => simp [intOf]; omega
        · rw [if_neg ht] at hbit
          have HSK := Lib.hid (show gm a (sk b (k + 1)) = gm a (sk b k) by rw [show sk b (k + 1) = if b.toNat.testBit k then sk b k ^^^ pk k else sk b k from rfl, if_neg ht])
          go_wp2_with fail
          refine HMK.out.mono ?_
          rintro e w2 ⟨rfl, rfl⟩
          go_wp2_with fail
          go_round
          case rel => exact ⟨k + 1, by omega, by go_num, by rw [HSK.out], by rw [HPK.out]⟩
          case measure => simp [intOf]; omega
      · obtain rfl : k = 8 := by omega
        rw [sk_all]
        go_wp2_with fail
        refine (HM2.out a w1 hb1).mono ?_
        rintro e w2 ⟨rfl, rfl⟩
        go_wp2_with fail
        refine (HM.out a b w1 hb1).mono ?_
        rintro e w2 ⟨rfl, rfl⟩
        go_wp2_with fail
        go_ret
        exact ⟨rfl, hb1⟩
end Go.Proofs.YthfnimmfgmpdfaaDoor
