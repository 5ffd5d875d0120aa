/- Mul. -/
import Derived.Test.YtjkojjimlebmjaaDoorMem
import Derived.Test.YtjkojjimlebmjaaDoorGf
import Derived.IntWalk
import Derived.LoopTactic
import Derived.Deep.QuietTactic
import Derived.BigQuiet
namespace Go.Proofs.YtjkojjimlebmjaaDoor
open Go.RowKit
set_option linter.unusedVariables false

/-- The table lies in block 0. -/
def KT (w : World) : Prop := 0 < w.heap.size ∧ ∀ r, r < 16 → w.cell? ⟨0, r, none⟩ = some (.int .u8 (rm r : Int))
theorem KT.below {w w' : World} (h : KT w) (hb : Below w.heap.size w w') : KT w' := ⟨Nat.lt_of_lt_of_le h.1 hb.size, fun r hr => (hb.cell (p := ⟨0, r, none⟩) h.1).trans (h.2 r hr)⟩

theorem bvi (n : Nat) (h : n < 18446744073709551616) : (BitVec.ofInt 64 (n : Int)).toNat = n := by
  rw [BitVec.ofInt_natCast, BitVec.toNat_ofNat, Nat.mod_eq_of_lt (by simpa using h)]
theorem wrap_i64n (n : Nat) (h : n ≤ 9223372036854775807) : IntKind.i64.wrap (n : Int) = (n : Int) := by rw [IntKind.wrap_i64]; omega
theorem xor_i (x y : Nat) (hx : x < 2 ^ 62) (hy : y < 2 ^ 62) : bits .xor .i64 (x : Int) (y : Int) = ((x ^^^ y : Nat) : Int) := by
  have h := Nat.xor_lt_two_pow hx hy
  show IntKind.i64.wrap ((BitVec.ofInt 64 (x : Int) ^^^ BitVec.ofInt 64 (y : Int)).toNat : Int) = _
  rw [BitVec.toNat_xor, bvi x (by omega), bvi y (by omega), wrap_i64n _ (by omega)]
theorem and_i (x y : Nat) (hx : x < 2 ^ 62) (hy : y < 2 ^ 62) : bits .and .i64 (x : Int) (y : Int) = ((x &&& y : Nat) : Int) := by
  have h : x &&& y ≤ x := Nat.and_le_left
  show IntKind.i64.wrap ((BitVec.ofInt 64 (x : Int) &&& BitVec.ofInt 64 (y : Int)).toNat : Int) = _
  rw [BitVec.toNat_and, bvi x (by omega), bvi y (by omega), wrap_i64n _ (by omega)]
theorem bvi8 (n : Nat) (h : n < 256) : (BitVec.ofInt 8 (n : Int)).toNat = n := by
  rw [BitVec.ofInt_natCast, BitVec.toNat_ofNat, Nat.mod_eq_of_lt (by simpa using h)]
theorem wrap_u8n (n : Nat) (h : n < 256) : IntKind.u8.wrap (n : Int) = (n : Int) := by rw [IntKind.wrap_u8]; omega
theorem xor_b (x y : Nat) (hx : x < 2 ^ 8) (hy : y < 2 ^ 8) : bits .xor .u8 (x : Int) (y : Int) = ((x ^^^ y : Nat) : Int) := by
  have h := Nat.xor_lt_two_pow hx hy
  show IntKind.u8.wrap ((BitVec.ofInt 8 (x : Int) ^^^ BitVec.ofInt 8 (y : Int)).toNat : Int) = _
  rw [BitVec.toNat_xor, bvi8 x (by omega), bvi8 y (by omega), wrap_u8n _ (by omega)]
theorem and_b (x y : Nat) (hx : x < 2 ^ 8) (hy : y < 2 ^ 8) : bits .and .u8 (x : Int) (y : Int) = ((x &&& y : Nat) : Int) := by
  have h : x &&& y ≤ x := Nat.and_le_left
  show IntKind.u8.wrap ((BitVec.ofInt 8 (x : Int) &&& BitVec.ofInt 8 (y : Int)).toNat : Int) = _
  rw [BitVec.toNat_and, bvi8 x (by omega), bvi8 y (by omega), wrap_u8n _ (by omega)]

theorem red1_int (p : Nat) (hp : p < 32768) : bits .xor .i64 (bits .and .i64 (p : Int) 4095) ((rm (p / 4096) : Int) * 16) = (red1 p : Int) := by
  have h1 := rm_lt (p / 4096)
  have h2 : p &&& 4095 ≤ p := Nat.and_le_left
  rw [show (4095 : Int) = ((4095 : Nat) : Int) from rfl, and_i p 4095 (by omega) (by omega), show ((rm (p / 4096) : Int) * 16) = ((rm (p / 4096) * 16 : Nat) : Int) by omega, xor_i _ _ (by omega) (by omega)]
  unfold red1
  rw [Nat.shiftRight_eq_div_pow, Nat.shiftLeft_eq]
theorem red2_int (p : Nat) (hp : p < 4096) : bits .xor .u8 ((p : Int) % 256) (rm (p / 256) : Int) = (red2 p : Int) := by
  have h1 := rm_lt (p / 256)
  rw [show ((p : Int) % 256) = ((p % 256 : Nat) : Int) by omega, xor_b _ _ (by omega) (by omega)]
  unfold red2
  rw [Nat.shiftRight_eq_div_pow, show (255 : Nat) = 2 ^ 8 - 1 from rfl, Nat.and_two_pow_sub_one_eq_mod]

set_option maxRecDepth 100000 in
theorem reduced_any (p : Nat) (w : World) (hK : KT w) (hp : p < 32768) :
    Calls Tryd.prog 65 #[.int .i64 (p : Int)] w fun e w' => e = .returned (.int .u8 (red p : Int)) ∧ w = w' := by
  have c1 := hK.2 (p / 4096) (by omega)
  have c2 := hK.2 (red1 p / 256) (by have := red1_lt p; omega)
  have e1 := red1_int p hp
  have e2 := red2_int (red1 p) (red1_lt p)
  have l1 := rm_lt (p / 4096)
  have l2 := rm_lt (red1 p / 256)
  have l3 := red1_lt p
  have hr : red p = red2 (red1 p) := rfl
  rw [hr]
  generalize red1 p = q at *
  generalize red2 q = z at *
  generalize rm (p / 4096) = r1 at *
  generalize rm (q / 256) = r2 at *
  clear hK hr
  go_enter Tryd.func65, Tryd.ntmps65
  go_wp2_with fail
  go_ret
  exact ⟨rfl, rfl⟩

theorem bit_int (b k : Nat) (hb : b < 256) : bits .and .u8 ((b : Int) / 2 ^ k) 1 = if b.testBit k then 1 else 0 := by
  have h1 : ((b : Int) / 2 ^ k) = ((b / 2 ^ k : Nat) : Int) := by simp
  have h2 : b / 2 ^ k ≤ b := Nat.div_le_self _ _
  rw [h1, show (1 : Int) = ((1 : Nat) : Int) from rfl, and_b _ 1 (by omega) (by omega), Nat.and_one_is_mod, Nat.testBit_eq_decide_div_mod_eq]
  rcases Nat.mod_two_eq_zero_or_one (b / 2 ^ k) with e | e <;> rw [e] <;> simp

theorem shl_lt (a k : Nat) (ha : a < 256) (hk : k < 8) : a <<< k < 2 ^ 15 := by
  rw [Nat.shiftLeft_eq]
  have h1 : 2 ^ k ≤ 2 ^ 7 := Nat.pow_le_pow_right (by omega) (by omega)
  have h2 : a * 2 ^ k ≤ 255 * 2 ^ 7 := Nat.mul_le_mul (by omega) h1
  omega
theorem step_int (a b k : Nat) (ha : a < 256) (hk : k < 8) : bits .xor .i64 (pr a b k : Int) (wrap64 ((a : Int) * 2 ^ k)) = ((pr a b k ^^^ a <<< k : Nat) : Int) := by
  have h1 := shl_lt a k ha hk
  have h2 : pr a b k < 2 ^ 15 := Nat.lt_of_lt_of_le (pr_lt a b ha k (by omega)) (Nat.pow_le_pow_right (by omega) (by omega))
  have h3 : (a : Int) * 2 ^ k = ((a <<< k : Nat) : Int) := by rw [Nat.shiftLeft_eq]; simp
  rw [h3]
  generalize a <<< k = z at *
  rw [IntWalk.wrap64_in _ ⟨by omega, by omega⟩, xor_i _ _ (by omega) (by omega)]

set_option maxHeartbeats 400000 in
set_option maxRecDepth 100000 in
theorem mul_any (a b : UInt8) (w : World) (hK : KT w) :
    Calls Tryd.prog 49 #[bv a, bv b] w fun e w' => e = .returned (bv (gm a b)) ∧ w = w' := by
  have HR := Lib.hid (reduced_any (pr a.toNat b.toNat 8) w hK (pr8_lt _ _ (u8_lt a)))
  have e0 : bv (gm a b) = .int .u8 (red (pr a.toNat b.toNat 8) : Int) := by
    unfold bv
    rw [gm_nat]
    rfl
  rw [e0]
  clear e0 hK
  unfold bv
  have ha := u8_lt a
  have hb := u8_lt b
  generalize a.toNat = a at *
  generalize b.toNat = b at *
  go_enter Tryd.func49, Tryd.ntmps49
  go_wp2_with fail
  go_loop [5, 7] (fun p i => ∃ k : Nat, k ≤ 8 ∧ i = .int .i64 k ∧ p = .int .i64 (pr a b k : Nat)) (fun _ i => 8 - (intOf i).toNat)
  case atStart => exact ⟨0, by omega, rfl, rfl⟩
  case round =>
    obtain ⟨k, hk, rfl, rfl⟩ := hrel
    by_cases hlt : k < 8
    · have hbit := bit_int b k hb
      by_cases ht : b.testBit k = true
      · rw [if_pos ht] at hbit
        go_wp2_with fail
        go_round
        case rel =>
          refine ⟨k + 1, by omega, by go_num, ?_⟩
          simp only [pr]
          rw [if_pos ht]
          exact congrArg (Value.int .i64) (step_int a b k ha hlt)
        case measure => simp [intOf]; omega
      · rw [if_neg ht] at hbit
        go_wp2_with fail
        go_round
        case rel =>
          refine ⟨k + 1, by omega, by go_num, ?_⟩
          simp only [pr]
          rw [if_neg ht]
        case measure => simp [intOf]; omega
    · obtain rfl : k = 8 := by omega
      go_wp2_with fail
      refine HR.out.mono ?_
      rintro e w1 ⟨rfl, rfl⟩
      go_wp2_with fail
      go_ret
      exact ⟨rfl, rfl⟩
end Go.Proofs.YtjkojjimlebmjaaDoor
