/- end: the first day that is not in the set. -/
import Derived.Test.YtnmlfdmlcpgaaaaRowS
import Derived.LoopTactic
namespace Go.Proofs.Ytnmlfdmlcpgaaaa
open Go.RowKit
set_option linter.unusedVariables false

def EndPost (f : Nat → Bool) (j : Nat) (w : World) (e : Ending) (w' : World) : Prop :=
  ∃ t : Nat, e = .returned (.int .i64 (t : Int)) ∧ j ≤ t ∧ t ≤ 1024 ∧ (∀ k, j ≤ k → k < t → f k = true) ∧ (t < 1024 → f t = false) ∧ Below w.heap.size w w'

set_option maxHeartbeats 1000000 in
set_option maxRecDepth 100000 in
theorem end_any (f : Nat → Bool) (j : Nat) (w : World) (hj : j ≤ 1024) :
    Calls Try.prog 40 #[.agg (bcells f), .int .i64 j] w (EndPost f j w) := by
  have hx := Box.new w (bcells f) 40
  have hb := (Below.refl w.heap.size w).alloc (Nat.le_refl _) (.cells (bcells f) 40)
  have HX := Lib.hid hx
  have HB := Lib.hid hb
  have hne := bcells_ne f
  have hgt : ∀ k, k < 1024 → (bcells f)[k]? = some (.bool (f k)) := fun k hk => arr_get _ _ _ hk
  have HG := Lib.hid hgt
  clear hx hb hgt
  generalize bcells f = CS at *
  go_enter Try.func40, Try.ntmps40
  go_wp2_with fail
  generalize hW : World.alloc w _ = W1
  rw [hW] at HX HB
  clear hW
  go_loop [4] (fun t => ∃ k : Nat, j ≤ k ∧ k ≤ 1024 ∧ t = .int .i64 k ∧ ∀ i, j ≤ i → i < k → f i = true) (fun t => 1024 - (intOf t).toNat)
  case atStart => exact ⟨j, Nat.le_refl _, hj, rfl, fun i h1 h2 => by omega⟩
  case round =>
    obtain ⟨k, hk1, hk2, rfl, hk⟩ := hrel
    have HK := Lib.hid hk
    clear hk
    by_cases hlt : k < 1024
    · have cp := HX.out.cell k
      rw [HG.out k hlt] at cp
      have b1 : (0 : Int) ≤ (k : Int) ∧ (k : Int) < 1024 := by omega
      cases hf : f k
      · have HF := Lib.hid hf
        rw [hf] at cp
        clear hf
        go_wp2_with fail
        go_ret
        exact ⟨k, rfl, hk1, hk2, HK.out, fun _ => HF.out, HB.out⟩
      · have HF := Lib.hid hf
        rw [hf] at cp
        clear hf
        go_wp2_with fail
        go_round
        case rel =>
          refine ⟨k + 1, by omega, by omega, by go_num, fun i h1 h2 => ?_⟩
          by_cases e : i = k
          · rw [e]; exact HF.out
          · exact HK.out i h1 (by omega)
        case measure => simp [intOf]; omega
    · obtain rfl : k = 1024 := by omega
      go_wp2_with fail
      go_ret
      exact ⟨1024, rfl, hk1, hk2, HK.out, fun h => by omega, HB.out⟩
end Go.Proofs.Ytnmlfdmlcpgaaaa
