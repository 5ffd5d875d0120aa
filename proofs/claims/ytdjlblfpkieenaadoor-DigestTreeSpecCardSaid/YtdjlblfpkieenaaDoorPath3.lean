/- Climb of a list of one. -/
import Derived.Test.YtdjlblfpkieenaaDoorPath2
namespace Go.Proofs.YtdjlblfpkieenaaDoor
open Go.RowKit Go.Sort
set_option linter.unusedVariables false

/-- The facts of a digest's cells, for loads and stores. -/
structure DF (C : Array Value) : Prop where
  info : (Tryd.prog.info? 26).map (·.size) = some C.size
  size : dz.size = C.size
  one : C.all (·.oneCell') = true
theorem DF.of {d : List UInt8} (h : d.length = 32) : DF (dcells d) := by
  obtain ⟨h1, h2, h3⟩ := dcells_facts h
  exact ⟨h1, h2, h3⟩

set_option maxHeartbeats 1000000 in
set_option maxRecDepth 100000 in
theorem climb_leaf (d : List UInt8) (A : Option Addr) (n c : Nat) (w : World) (hK : KT w) (hd : d.length = 32) :
    Calls Tryd.prog 42 #[.agg (dcells d), .int .i64 0, .int .i64 1, .slice A n c] w (DigPost (tr [d]) w) := by
  have hb := ((Below.refl w.heap.size w).alloc (Nat.le_refl _) (.cells (dcells d) 26)).alloc (by simp) (.cells dz 26)
  have hx := (Box.new w (dcells d) 26).alloc (.cells dz 26)
  have hz := Box.new (w.alloc (.cells (dcells d) 26)) dz 26
  rw [World.size_alloc] at hz
  have hL := leaf_any d _ (hK.below hb) hd
  rw [← tr_one d] at hL
  have hT := tr_length [d]
  have HD := Lib.hid (DF.of hd)
  have HL := Lib.hid hL
  have HTL := Lib.hid hT
  have HB := Lib.hid hb
  have HX := Lib.hid hx
  have HZ := Lib.hid hz
  clear hb hx hz hL hK hd hT
  generalize tr [d] = R at *
  generalize dcells d = C1 at *
  go_enter Tryd.func42, Tryd.ntmps42
  go_wp2_with (first
    | (refine wpList_load_row rfl 26 (.tmp 4) rfl w.heap.size rfl 26 C1 (0, 0) _ HX.out Tryd.underlying26 rfl HD.out.info ?_))
  refine HL.out.mono ?_
  rintro e w4 ⟨rfl, hb4⟩
  have hbw := HB.out.trans (hb4.mono HB.out.size)
  have hr := HZ.out.below hb4
  have HR := Lib.hid (DF.of HTL.out)
  generalize hCS : dcells R = CR at *
  have HCR := Lib.hid hCS
  have HBX := Lib.hid hr
  clear hCS hr hb4 HL HX HZ HB
  go_wp2_with (first | (refine wpList_store_row rfl 26 (.tmp 8) (.tmp 14) rfl (w.heap.size + 1) CR rfl rfl 26 dz HBX.out HR.out.info HR.out.size HR.out.one ?_))
  refine bodyPost_ret (v := .agg CR) ?_ rfl ?_
  · exact results_cell_row Tryd.results42 _ _ (w.heap.size + 1) 26 CR (0, 0) _ rfl (Box.setRow HBX.out) Tryd.underlying26 rfl HR.out.info
  · exact ⟨by rw [HCR.out], fin_store CR hbw (by omega)⟩

set_option maxHeartbeats 1000000 in
set_option maxRecDepth 100000 in
theorem climb_one (d : List UInt8) (w : World) (hK : KT w) (hd : d.length = 32) :
    Calls Tryd.prog 22 #[.agg (dcells d), .int .i64 0, .int .i64 1, .slice none 0 0] w fun e w' => e = .returned (.tuple #[.agg (dcells (tr [d])), .int .i64 0]) ∧ Below w.heap.size w w' := by
  have hp : ∀ w, Calls Tryd.prog 41 #[.int .i64 0, .int .i64 1] w fun e w' => e = .returned (.int .i64 0) ∧ w = w' := fun w => by
    have := pathLength_any 0 1 w (by omega) (by omega)
    rwa [pl_end 0 1 (by omega)] at this
  have hb := ((Below.refl w.heap.size w).alloc (Nat.le_refl _) (.cells (dcells d) 26)).alloc (by simp) (.cells dz 26)
  have hx := (Box.new w (dcells d) 26).alloc (.cells dz 26)
  have hz := Box.new (w.alloc (.cells (dcells d) 26)) dz 26
  rw [World.size_alloc] at hz
  have hC : ∀ w', Below w.heap.size w w' → Calls Tryd.prog 42 #[.agg (dcells d), .int .i64 0, .int .i64 1, .slice none 0 0] w' (DigPost (tr [d]) w') := fun w' hb => climb_leaf d none 0 0 w' (hK.below hb) hd
  have hT := tr_length [d]
  have HD := Lib.hid (DF.of hd)
  have HC := Lib.hid hC
  have HTL := Lib.hid hT
  have HB := Lib.hid hb
  have HX := Lib.hid hx
  have HZ := Lib.hid hz
  have HP := Lib.hid hp
  clear hb hx hz hC hK hd hT hp
  generalize tr [d] = R at *
  generalize dcells d = C1 at *
  go_enter Tryd.func22, Tryd.ntmps22
  go_wp2_with fail
  generalize hW : World.alloc (World.alloc w _) _ = W
  have hbW : Below w.heap.size w W := by rw [← hW]; exact HB.out
  have hxW : Box W w.heap.size C1 26 := by rw [← hW]; exact HX.out
  have hzW : Box W (w.heap.size + 1) dz 26 := by rw [← hW]; exact HZ.out
  have HXW := Lib.hid hxW
  have HZW := Lib.hid hzW
  have HBW := Lib.hid hbW
  clear hW HB HX hxW HZ hzW hbW
  refine (HP.out _).mono ?_
  rintro e w1 ⟨rfl, rfl⟩
  clear HP
  go_wp2_with (first
    | (refine wpList_load_row rfl 26 (.tmp 4) rfl w.heap.size rfl 26 C1 (0, 0) _ HXW.out Tryd.underlying26 rfl HD.out.info ?_))
  refine (HC.out _ HBW.out).mono ?_
  rintro e w4 ⟨rfl, hb4⟩
  have hbw := HBW.out.trans (hb4.mono HBW.out.size)
  have hr := HZW.out.below hb4
  have HR := Lib.hid (DF.of HTL.out)
  generalize hCS : dcells R = CR at *
  have HCR := Lib.hid hCS
  have HBX := Lib.hid hr
  clear hCS hr hb4 HC HXW HZW HBW
  go_wp2_with (first | (refine wpList_store_row rfl 26 (.tmp 8) (.tmp 38) rfl (w.heap.size + 1) CR rfl rfl 26 dz HBX.out HR.out.info HR.out.size HR.out.one ?_))
  refine bodyPost_ret (v := .tuple #[.agg CR, .int .i64 0]) ?_ rfl ?_
  · exact results_row_tmp Tryd.results22 _ _ (w.heap.size + 1) 26 CR (0, 0) _ rfl (Box.setRow HBX.out) Tryd.underlying26 rfl HR.out.info
  · exact ⟨by rw [HCR.out], fin_store CR hbw (by omega)⟩
end Go.Proofs.YtdjlblfpkieenaaDoor
