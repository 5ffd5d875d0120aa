/- The reference's table of the numbers K. -/
import Derived.Test.YtdjlblfpkieenaaDoorSched
import Derived.Great.BuildSlice
namespace Go.Proofs.YtdjlblfpkieenaaDoor
open Go.RowKit
set_option linter.unusedVariables false

theorem ks_length : ks.length = 64 := rfl
theorem wcells_ks : wcells ks = ((ks.map u).map (Value.int .u32)).toArray := by
  unfold wcells
  rw [ks_length, List.map_append, List.map_map]
  simp only [Nat.sub_self, List.replicate_zero, List.map_nil, List.append_nil]
  rfl

set_option maxHeartbeats 400000 in
set_option maxRecDepth 100000 in
theorem refNumbers_any (w : World) :
    Calls Tryd.prog 48 #[] w fun e w' => e = .returned (.agg (wcells ks)) ∧ Below w.heap.size w w' := by
  have hz : Box (w.alloc (.cells (wcells []) 67)) w.heap.size (wcells []) 67 := Box.new w _ _
  have hbz := (Below.refl w.heap.size w).alloc (Nat.le_refl _) (.cells (wcells []) 67)
  have HBX := Lib.hid hz
  have HBZ := Lib.hid hbz
  have hsz := wcells_size ks (by rw [ks_length]; omega)
  have hi := size64 hsz
  have hone := wcells_one ks
  have hcs := wcells_ks
  generalize hCS : wcells ks = CS at *
  have HSZ := Lib.hid hsz
  have HI := Lib.hid hi
  have HONE := Lib.hid hone
  have HCS := Lib.hid hcs
  clear hsz hi hone hz hbz hcs hCS
  go_enter Tryd.func48, Tryd.ntmps48
  go_wp2_with (first
    | (refine wpList_buildFlatArrTo rfl 67 55 64 _ rfl .u32 (ks.map u) (some 1) rfl (by as_aux_lemma => kernel_rfl) (by as_aux_lemma => kernel_rfl) (by as_aux_lemma => kernel_rfl) (by as_aux_lemma => kernel_rfl) ?_; rw [← HCS.out])
    | (refine wpList_store_row rfl 67 (.tmp 0) (.tmp 1) rfl w.heap.size CS rfl rfl 67 (wcells []) HBX.out HI.out HSZ.out.symm HONE.out ?_))
  refine bodyPost_ret (v := .agg CS) ?_ rfl ?_
  · exact results_cell_row Tryd.results48 _ _ w.heap.size 67 CS (0, 0) _ rfl (Box.setRow HBX.out) Tryd.underlying67 rfl HI.out
  · exact ⟨rfl, HBZ.out.trans (below_grown (setRow_grown _ w.heap.size CS) (Nat.le_refl _) (by simp))⟩
end Go.Proofs.YtdjlblfpkieenaaDoor
