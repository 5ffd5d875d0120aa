/- The reference's Mul and Inv. -/
import Derived.Test.YthfnimmfgmpdfaaDoorInv
namespace Go.Proofs.YthfnimmfgmpdfaaDoor
open Go.RowKit
set_option linter.unusedVariables false

/-- The reduction, one power after the other: j steps. -/
def rs (p : Nat) : Nat → Nat
  | 0 => p
  | j + 1 => if (rs p j).testBit (14 - j) then rs p j ^^^ 283 <<< (6 - j) else rs p j
theorem rs_lt (p : Nat) (hp : p < 32768) : ∀ j, rs p j < 32768
  | 0 => hp
  | j + 1 => by
    have ih := rs_lt p hp j
    have h2 : (283 : Nat) <<< (6 - j) < 2 ^ 15 := by
      have h1 : 2 ^ (6 - j) ≤ 2 ^ 6 := Nat.pow_le_pow_right (by omega) (by omega)
      rw [Nat.shiftLeft_eq]
      have := Nat.mul_le_mul (Nat.le_refl 283) h1
      omega
    unfold rs
    split
    · exact Nat.xor_lt_two_pow (n := 15) ih h2
    · exact ih
theorem rs_xor (p q : Nat) : ∀ j, rs (p ^^^ q) j = rs p j ^^^ rs q j
  | 0 => rfl
  | j + 1 => by
    simp only [rs]
    rw [rs_xor p q j, Nat.testBit_xor]
    generalize rs p j = x
    generalize rs q j = y
    generalize (283 : Nat) <<< (6 - j) = z
    cases x.testBit (14 - j) <;> cases y.testBit (14 - j)
    · rfl
    · exact Nat.xor_assoc x y z
    · show (x ^^^ y) ^^^ z = (x ^^^ z) ^^^ y
      rw [Nat.xor_assoc, Nat.xor_comm y z, Nat.xor_assoc]
    · show x ^^^ y = (x ^^^ z) ^^^ (y ^^^ z)
      rw [xor4, Nat.xor_self, Nat.xor_zero]
/-- Two functions that keep sums and agree at the single bits agree. -/
theorem lin_all (N : Nat) (f g : Nat → Nat) (hf : ∀ x y, x < 2 ^ N → y < 2 ^ N → f (x ^^^ y) = f x ^^^ f y) (hg : ∀ x y, x < 2 ^ N → y < 2 ^ N → g (x ^^^ y) = g x ^^^ g y)
    (h : ∀ i, i < N → f (2 ^ i) = g (2 ^ i)) : ∀ k, k ≤ N → ∀ p, p < 2 ^ k → f p = g p
  | 0, _, p, hp => by
    obtain rfl : p = 0 := by simpa using hp
    have e1 := hf 0 0 (Nat.two_pow_pos N) (Nat.two_pow_pos N)
    have e2 := hg 0 0 (Nat.two_pow_pos N) (Nat.two_pow_pos N)
    rw [Nat.xor_self] at e1 e2
    rw [Nat.xor_self] at e1 e2
    rw [e1, e2]
  | k + 1, hk, p, hp => by
    by_cases hlt : p < 2 ^ k
    · exact lin_all N f g hf hg h k (by omega) p hlt
    · have hN : 2 ^ k < 2 ^ N := Nat.pow_lt_pow_right (by omega) (by omega)
      have hpb : p / 2 ^ k = 1 := by
        apply Nat.div_eq_of_lt_le
        · omega
        · rw [Nat.pow_succ] at hp; omega
      have hq : p ^^^ 2 ^ k < 2 ^ k := by
        apply Nat.lt_pow_two_of_testBit
        intro i hi
        rw [Nat.testBit_xor, Nat.testBit_two_pow]
        by_cases e : k = i
        · subst e
          rw [Nat.testBit_eq_decide_div_mod_eq, hpb]
          simp
        · rw [Nat.testBit_lt_two_pow (Nat.lt_of_lt_of_le hp (Nat.pow_le_pow_right (by omega) (by omega)))]
          simp [e]
      have e : p = (p ^^^ 2 ^ k) ^^^ 2 ^ k := by rw [Nat.xor_assoc, Nat.xor_self, Nat.xor_zero]
      have ih := lin_all N f g hf hg h k (by omega) _ hq
      rw [e, hf _ _ (Nat.lt_trans hq hN) hN, hg _ _ (Nat.lt_trans hq hN) hN, ih, h k (by omega)]
theorem rs_red (p : Nat) (hp : p < 32768) : rs p 7 = red p := by
  have hd : allB (fun i => rs (2 ^ i) 7 == red (2 ^ i)) 15 = true := by decide +kernel
  exact lin_all 15 (fun p => rs p 7) red (fun x y _ _ => rs_xor x y 7) (fun x y hx hy => red_xor x y hx hy) (fun i hi => by simpa using allB_at hd i hi) 15 (Nat.le_refl _) p hp
theorem bit_rem (p k : Nat) : ((p : Int) / 2 ^ k).tmod 2 = if p.testBit k then 1 else 0 := by
  have h1 : ((p : Int) / 2 ^ k) = ((p / 2 ^ k : Nat) : Int) := by simp
  rw [h1, Nat.testBit_eq_decide_div_mod_eq]
  generalize p / 2 ^ k = d
  rw [Int.tmod_eq_emod_of_nonneg (by omega)]
  by_cases e : d % 2 = 1
  · rw [if_pos (decide_eq_true e)]; omega
  · rw [if_neg (by rw [decide_eq_false e]; simp)]; omega

theorem red_int (q j : Nat) (hq : q < 32768) (hj : j < 7) : bits .xor .i64 (rs q j : Int) (wrap64 (283 * 2 ^ (14 - j - 8))) = ((rs q j ^^^ 283 <<< (6 - j) : Nat) : Int) := by
  have h1 := rs_lt q hq j
  have h2 : (283 : Nat) <<< (6 - j) < 2 ^ 15 := by
    have h1 : 2 ^ (6 - j) ≤ 2 ^ 6 := Nat.pow_le_pow_right (by omega) (by omega)
    rw [Nat.shiftLeft_eq]
    have := Nat.mul_le_mul (Nat.le_refl 283) h1
    omega
  have h3 : (283 : Int) * (2 : Int) ^ (14 - j - 8) = (((283 : Nat) <<< (6 - j) : Nat) : Int) := by
    rw [Nat.shiftLeft_eq, show 14 - j - 8 = 6 - j by omega]
    simp
  rw [h3]
  generalize (283 : Nat) <<< (6 - j) = z at *
  rw [IntWalk.wrap64_in _ ⟨by omega, by omega⟩, xor_i _ _ (by omega) (by omega)]

set_option maxHeartbeats 400000 in
set_option maxRecDepth 100000 in
theorem rmul_any (a b : UInt8) (w : World) :
    Calls Tryd.prog 12 #[bv a, bv b] w fun e w' => e = .returned (bv (gm a b)) ∧ w = w' := by
  have e0 : bv (gm a b) = .int .u8 (rs (pr a.toNat b.toNat 8) 7 : Int) := by
    unfold bv
    rw [gm_nat, rs_red _ (pr8_lt _ _ (u8_lt a))]
    rfl
  rw [e0]
  clear e0
  unfold bv
  have ha := u8_lt a
  have hb := u8_lt b
  have hp8 := pr8_lt a.toNat b.toNat ha
  have hr7 : rs (pr a.toNat b.toNat 8) 7 < 256 := by
    rw [rs_red _ hp8]
    exact red2_lt _
  generalize a.toNat = a at *
  generalize b.toNat = b at *
  obtain ⟨q, hq8⟩ : ∃ q, pr a b 8 = q := ⟨_, rfl⟩
  rw [hq8] at hp8 hr7 ⊢
  have HP8 := Lib.hid (And.intro hp8 hr7)
  have HQ8 := Lib.hid hq8
  clear hp8 hr7 hq8
  go_enter Tryd.func12, Tryd.ntmps12
  go_wp2_with fail
  go_loop [5, 6] (fun p i => ∃ k : Nat, k ≤ 8 ∧ i = .int .i64 k ∧ p = .int .i64 (pr a b k : Nat)) (fun _ i => 8 - (intOf i).toNat)
  case atStart => exact ⟨0, by omega, rfl, rfl⟩
  case round =>
    obtain ⟨k, hk, rfl, rfl⟩ := hrel
    by_cases hlt : k < 8
    · have hbit := bit_rem b k
      by_cases ht : b.testBit k = true
      · rw [if_pos ht] at hbit
        go_wp2_with fail
        go_round
        case rel =>
          refine ⟨k + 1, by omega, by go_num, ?_⟩
          simp only [pr]
          rw [if_pos ht]
          exact congrArg (Value.int .i64) (step_int a b k ha hlt)
        case measure => simp [intOf]; omega
      · rw [if_neg ht] at hbit
        go_wp2_with fail
        go_round
        case rel =>
          refine ⟨k + 1, by omega, by go_num, ?_⟩
          simp only [pr]
          rw [if_neg ht]
        case measure => simp [intOf]; omega
    · obtain rfl : k = 8 := by omega
      rw [HQ8.out]
      go_wp2_with fail
      go_loop [5, 7] (fun p i => ∃ j : Nat, j ≤ 7 ∧ i = .int .i64 ((14 - j : Nat) : Int) ∧ p = .int .i64 (rs q j : Nat)) (fun _ i => (intOf i).toNat)
      case atStart => exact ⟨0, by omega, rfl, rfl⟩
      case round =>
        obtain ⟨j, hj, rfl, rfl⟩ := hrel
        by_cases hlt : j < 7
        · have hbit := bit_rem (rs q j) (14 - j)
          have hq := rs_lt q HP8.out.1 j
          have HQ := Lib.hid hq
          have hi : 8 ≤ 14 - j := by omega
          have hi2 : 14 - j ≤ 14 := by omega
          by_cases ht : (rs q j).testBit (14 - j) = true
          · rw [if_pos ht] at hbit
            go_wp2_with fail
            go_round
            case rel =>
              refine ⟨j + 1, by omega, by rw [show ((14 - (j + 1) : Nat) : Int) = ((14 - j : Nat) : Int) - 1 by omega], ?_⟩
              simp only [rs]
              rw [if_pos ht]
              exact congrArg (Value.int .i64) (red_int q j HP8.out.1 hlt)
            case measure => simp [intOf]; omega
          · rw [if_neg ht] at hbit
            go_wp2_with fail
            go_round
            case rel =>
              refine ⟨j + 1, by omega, by rw [show ((14 - (j + 1) : Nat) : Int) = ((14 - j : Nat) : Int) - 1 by omega], ?_⟩
              simp only [rs]
              rw [if_neg ht]
            case measure => simp [intOf]; omega
        · obtain rfl : j = 7 := by omega
          have hq := HP8.out.2
          go_wp2_with fail
          go_ret
          exact ⟨rfl, rfl⟩

/-- The inverse and the error. -/
def iv (a : UInt8) : UInt8 := if a = 0 then 0 else ginv a
def ie (a : UInt8) : Int := if a = 0 then 1 else 0
theorem iv_zero : iv 0 = 0 ∧ ie 0 = 1 := ⟨rfl, rfl⟩
theorem iv_pos {a : UInt8} (h : a ≠ 0) : iv a = ginv a ∧ ie a = 0 := ⟨if_neg h, if_neg h⟩
theorem u8_of {a : UInt8} {k : Nat} (h : k < 256) (e : UInt8.ofNat k = a) : k = a.toNat := by
  rw [← e, UInt8.toNat_ofNat_of_lt' (by simpa [UInt8.size] using h)]
set_option maxHeartbeats 400000 in
set_option maxRecDepth 100000 in
theorem rinv_any (a : UInt8) (w : World) :
    Calls Tryd.prog 10 #[bv a] w fun e w' => e = .returned (.tuple #[bv (iv a), .int .i64 (ie a)]) ∧ w = w' := by
  have hM : ∀ k : Nat, k < 256 → Calls Tryd.prog 12 #[bv a, .int .u8 (k : Int)] w fun e w' => e = .returned (.int .u8 ((gm a (UInt8.ofNat k)).toNat : Int)) ∧ w = w' := fun k hk => by
    rw [← bv_of k hk]
    exact rmul_any a (UInt8.ofNat k) w
  have HM := Lib.hid hM
  clear hM
  generalize hAV : bv a = av at *
  go_enter Tryd.func10, Tryd.ntmps10
  go_wp2_with fail
  go_loop [4] (fun i => ∃ k : Nat, 1 ≤ k ∧ k ≤ 256 ∧ i = .int .i64 k ∧ ∀ j, 1 ≤ j → j < k → gm a (UInt8.ofNat j) ≠ 1) (fun i => 256 - (intOf i).toNat)
  case atStart => exact ⟨1, by omega, by omega, rfl, fun j h1 h2 => by omega⟩
  case round =>
    obtain ⟨k, hk1, hk, rfl, hno⟩ := hrel
    have HNO := Lib.hid hno
    clear hno
    by_cases hlt : k < 256
    · have HMK := Lib.hid (HM.out k hlt)
      obtain ⟨z, hz⟩ : ∃ z, gm a (UInt8.ofNat k) = z := ⟨_, rfl⟩
      rw [hz] at HMK
      have HZ := Lib.hid hz
      clear hz
      by_cases h1 : z = 1
      · subst h1
        go_wp2_with fail
        refine HMK.out.mono ?_
        rintro e w1 ⟨rfl, rfl⟩
        go_wp2_with fail
        go_ret2
        have hu := inv_unique HZ.out
        have ha : a ≠ 0 := by
          rintro rfl
          have := HZ.out
          rw [zero_gm] at this
          exact absurd this (by decide)
        refine ⟨?_, rfl⟩
        rw [(iv_pos ha).1, (iv_pos ha).2, ← hu, bv_of k hlt]
        rfl
      · have hd : ((z.toNat : Int) == 1) = false := by
          rw [beq_eq_false_iff_ne]
          exact fun e => h1 (bv_inj.1 (e.trans rfl))
        go_wp2_with fail
        refine HMK.out.mono ?_
        rintro e w1 ⟨rfl, rfl⟩
        go_wp2_with fail
        go_round
        case rel =>
          refine ⟨k + 1, by omega, by omega, by go_num, fun j hj1 hj2 => ?_⟩
          by_cases e : j = k
          · subst e
            rw [HZ.out]
            exact h1
          · exact HNO.out j hj1 (by omega)
        case measure => simp [intOf]; omega
    · obtain rfl : k = 256 := by omega
      have ha : a = 0 := by
        refine Classical.byContradiction fun ha => ?_
        have h0 := inv_ne a ha
        have h1 := HNO.out (ginv a).toNat (by
          rcases Nat.eq_zero_or_pos (ginv a).toNat with e | e
          · exact absurd (UInt8.toNat_inj.1 (e.trans rfl)) h0
          · exact e) (u8_lt _)
        rw [UInt8.ofNat_toNat] at h1
        exact h1 (gm_inv a ha)
      go_wp2_with fail
      go_ret2
      refine ⟨?_, rfl⟩
      subst ha
      rfl
end Go.Proofs.YthfnimmfgmpdfaaDoor
