/- split. -/
import Derived.Test.YtdjlblfpkieenaaDoorPair
import Derived.Test.YtdjlblfpkieenaaDoorLen
namespace Go.Proofs.YtdjlblfpkieenaaDoor
open Go.RowKit
set_option linter.unusedVariables false

/-- The greatest power of 2 that is less than n, for n > 1. -/
def half (n : Nat) : Nat := 2 ^ Nat.log2 (n - 1)
theorem half_le (n : Nat) (h : 1 < n) : half n ≤ n - 1 := Nat.log2_self_le (by omega)
theorem half_pos (n : Nat) : 0 < half n := Nat.pow_pos (by omega)
theorem half_two (n : Nat) (h : 1 < n) : n ≤ 2 * half n := by
  have : n - 1 < 2 ^ (Nat.log2 (n - 1) + 1) := Nat.lt_log2_self
  rw [Nat.pow_succ] at this
  unfold half
  omega
theorem bitLen_log : ∀ x : Nat, x ≠ 0 → x < 2 ^ 64 → Lib.bitLen x = Nat.log2 x + 1 := by
  intro x
  induction x using Nat.strongRecOn with
  | ind x ih =>
    intro h0 h
    rw [Lib.bitLen_half x h0 h]
    by_cases h1 : x = 1
    · subst h1
      decide
    · rw [ih (x / 2) (by omega) (by omega) (by omega)]
      have : Nat.log2 x = Nat.log2 (x / 2) + 1 := by
        rw [Nat.log2_def, if_pos (by omega)]
      omega

set_option maxRecDepth 100000 in
theorem len_any (x : Nat) (w : World) (hx : x < 4398046511104) :
    Calls Tryd.prog 50 #[.int .u64 x] w fun e w' => e = .returned (.int .i64 (Lib.bitLen x)) ∧ w = w' := by
  have HC := len64_any (x : Int) w (by omega) (by omega)
  rw [Int.toNat_natCast] at HC
  have HC := Lib.hid HC
  go_enter Tryd.func50, Tryd.ntmps50
  go_wp2_with fail
  refine HC.out.mono ?_
  rintro e w' ⟨rfl, rfl⟩
  go_wp2_with fail
  go_ret
  exact ⟨rfl, rfl⟩

set_option maxRecDepth 100000 in
theorem split_any (n : Nat) (w : World) (h1 : 1 < n) (hn : n ≤ 2199023255552) :
    Calls Tryd.prog 35 #[.int .i64 n] w fun e w' => e = .returned (.int .i64 (half n)) ∧ w = w' := by
  have HC := Lib.hid (len_any (n - 1) w (by omega))
  have hbl := bitLen_log (n - 1) (by omega) (by omega)
  have hll : Nat.log2 (n - 1) ≤ 41 := by
    have h := Nat.log2_lt (n := n - 1) (k := 42) (by omega)
    have := h.2 (by omega)
    omega
  have hhalf : half n = 2 ^ Nat.log2 (n - 1) := rfl
  have hhb : half n < 4398046511104 := by have := half_le n h1; omega
  have HH := Lib.hid hhalf
  have HHB := Lib.hid hhb
  have e1 : (n : Int) - 1 = ((n - 1 : Nat) : Int) := by omega
  rw [hbl] at HC
  clear hbl hhalf hhb
  generalize Nat.log2 (n - 1) = L at *
  generalize n - 1 = m at *
  have HE := Lib.hid e1
  clear e1
  go_enter Tryd.func35, Tryd.ntmps35
  go_wp2_with fail
  rw [HE.out]
  refine HC.out.mono ?_
  rintro e w' ⟨rfl, rfl⟩
  clear HC
  go_wp2_with fail
  go_ret
  refine ⟨ret_int ?_, rfl⟩
  have := HHB.out
  rw [HH.out] at this ⊢
  have hc : ((2 ^ L : Nat) : Int) = (2 : Int) ^ L := by simp
  rw [← hc]
  clear hc
  generalize (2 ^ L : Nat) = P at *
  exact IntWalk.wrap64_in _ ⟨by omega, by omega⟩
end Go.Proofs.YtdjlblfpkieenaaDoor
