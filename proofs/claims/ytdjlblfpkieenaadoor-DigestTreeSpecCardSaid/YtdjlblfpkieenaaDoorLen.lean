/- math/bits.Len64. (This text stands by itself: with the walk's kit the table is met in another form.) -/
import Derived.Test.YtdjlblfpkieenaaDoorProg
import Derived.Lib.Strings
import Derived.Lib.Slices
import Derived.Lib.Small
import Derived.Lib.Walk
import Derived.Lib.BitFns
namespace Go.Proofs.YtdjlblfpkieenaaDoor
set_option linter.unusedVariables false

/-- k bits are away, and the rest is a byte. -/
theorem len_close (x : Int) (k : Nat) (b : Int) (hx0 : 0 ≤ x) (hb : b.toNat = x.toNat / 2 ^ k) (hb0 : 0 ≤ b) (h255 : b ≤ 255) (hk : k = 0 ∨ 2 ^ k ≤ x.toNat) (hx : x ≤ 18446744073709551615) : (k : Int) + Lib.len8 b = (Lib.bitLen x.toNat : Int) ∧ 0 ≤ Lib.len8 b ∧ Lib.len8 b ≤ 8 := by
  have h8 := Lib.bitLen_le8' b hb0 h255
  refine ⟨?_, by rw [Lib.len8_of b hb0 h255]; omega, by rw [Lib.len8_of b hb0 h255]; omega⟩
  rw [Lib.len8_of b hb0 h255, hb]
  rcases hk with rfl | h
  · simp
  · rw [Lib.bitLen_shift k x.toNat h (by omega)]
    omega

set_option maxHeartbeats 4000000 in
set_option maxRecDepth 100000 in
theorem len64_any (x : Int) (w : World) (h0 : 0 ≤ x) (hx : x ≤ 18446744073709551615) :
    Calls Tryd.prog 54 #[.int .u64 x] w fun e w' => e = .returned (.int .i64 (Lib.bitLen x.toNat)) ∧ w = w' := by
  go_enter Tryd.func54, Tryd.ntmps54
  go_wp2
  all_goals
    go_ret
    refine ⟨congrArg Ending.returned (congrArg (Value.int IntKind.i64) ?_), rfl⟩
  all_goals first
    | (have := len_close x 56 (x / 4294967296 / 65536 / 256 % 256) h0 (by omega) (by omega) (by omega) (.inr (by omega)) hx; omega)
    | (have := len_close x 48 (x / 4294967296 / 65536 % 256) h0 (by omega) (by omega) (by omega) (.inr (by omega)) hx; omega)
    | (have := len_close x 40 (x / 4294967296 / 256 % 256) h0 (by omega) (by omega) (by omega) (.inr (by omega)) hx; omega)
    | (have := len_close x 32 (x / 4294967296 % 256) h0 (by omega) (by omega) (by omega) (.inr (by omega)) hx; omega)
    | (have := len_close x 24 (x / 65536 / 256 % 256) h0 (by omega) (by omega) (by omega) (.inr (by omega)) hx; omega)
    | (have := len_close x 16 (x / 65536 % 256) h0 (by omega) (by omega) (by omega) (.inr (by omega)) hx; omega)
    | (have := len_close x 8 (x / 256 % 256) h0 (by omega) (by omega) (by omega) (.inr (by omega)) hx; omega)
    | (have := len_close x 0 (x % 256) h0 (by omega) (by omega) (by omega) (.inl rfl) hx; omega)
end Go.Proofs.YtdjlblfpkieenaaDoor
