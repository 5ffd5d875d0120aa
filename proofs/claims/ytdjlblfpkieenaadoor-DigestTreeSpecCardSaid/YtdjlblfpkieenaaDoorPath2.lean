/- Climb that refuses. -/
import Derived.Test.YtdjlblfpkieenaaDoorPath
namespace Go.Proofs.YtdjlblfpkieenaaDoor
open Go.RowKit Go.Sort
set_option linter.unusedVariables false

set_option maxHeartbeats 1000000 in
set_option maxRecDepth 100000 in
theorem climb_no (w : World) :
    Calls Tryd.prog 22 #[.agg dz, .int .i64 0, .int .i64 2, .slice none 0 0] w fun e w' => e = .returned (.tuple #[.agg dz, .int .i64 1]) ∧ Below w.heap.size w w' := by
  have hp : ∀ w, Calls Tryd.prog 41 #[.int .i64 0, .int .i64 2] w fun e w' => e = .returned (.int .i64 1) ∧ w = w' := fun w => by
    have := pathLength_any 0 2 w (by omega) (by omega)
    rwa [pl_02] at this
  have hb := ((Below.refl w.heap.size w).alloc (Nat.le_refl _) (.cells dz 26)).alloc (by simp) (.cells dz 26)
  have hx := Box.new (w.alloc (.cells dz 26)) dz 26
  rw [World.size_alloc] at hx
  obtain ⟨hi1, hs1, ho1⟩ := dcells_facts (d := List.replicate 32 0) rfl
  rw [← hs1] at hi1
  have hone : dz.all (·.oneCell') = true := bcells_one _
  have HONE := Lib.hid hone
  have HP := Lib.hid hp
  have HB := Lib.hid hb
  have HX := Lib.hid hx
  have HI := Lib.hid hi1
  clear hp hb hx hi1 hs1 ho1 hone
  go_enter Tryd.func22, Tryd.ntmps22
  go_wp2_with fail
  generalize hW : World.alloc (World.alloc w _) _ = W
  have hbW : Below w.heap.size w W := by rw [← hW]; exact HB.out
  have hxW : Box W (w.heap.size + 1) dz 26 := by rw [← hW]; exact HX.out
  have HXW := Lib.hid hxW
  clear hW HB HX hxW
  refine (HP.out _).mono ?_
  rintro e w1 ⟨rfl, rfl⟩
  clear HP
  go_wp2_with (first | (refine wpList_store_row rfl 26 (.tmp 8) (.tmp 33) rfl (w.heap.size + 1) dz rfl rfl 26 dz HXW.out HI.out rfl HONE.out ?_))
  refine bodyPost_ret (v := .tuple #[.agg dz, .int .i64 1]) ?_ rfl ?_
  · exact results_row_tmp Tryd.results22 _ _ (w.heap.size + 1) 26 dz (0, 0) _ rfl (Box.setRow HXW.out) Tryd.underlying26 rfl HI.out
  · exact ⟨rfl, fin_store dz hbW (by omega)⟩
end Go.Proofs.YtdjlblfpkieenaaDoor
