/- climb: one step. -/
import Derived.Test.YtdjlblfpkieenaaDoorPth2
import Derived.Test.YtdjlblfpkieenaaDoorQl
namespace Go.Proofs.YtdjlblfpkieenaaDoor
open Go.RowKit Go.Sort
set_option linter.unusedVariables false

theorem dig_size {L : List Value} (h : L.length = 32) : (Tryd.prog.info? 26).map (·.size) = some L.length := by
  rw [h]
  exact (DF.of (d := List.replicate 32 0) rfl).info.trans rfl

set_option maxHeartbeats 1000000 in
set_option maxRecDepth 100000 in
theorem climb_left (b off n c i k m : Nat) (LD LL LT : List Value) (R : List UInt8) (w : World) (h1 : 1 < n) (hn : n ≤ 2199023255552) (hk : half n = k) (hi : i < k) (hm : m + 1 ≤ c) (hm2 : m ≤ 1000000)
    (hD : LD.length = 32) (hL : LL.length = 32) (hR : R.length = 32) (hX : w.rangeAt b (off + m * 32) LL)
    (hC : ∀ W, Below w.heap.size w W → Calls Tryd.prog 42 #[.agg LD.toArray, .int .i64 i, .int .i64 k, .slice (some ⟨b, off, none⟩) m c] W (fun e w' => e = .returned (.agg LT.toArray) ∧ Below W.heap.size W w'))
    (hP : ∀ W, Below w.heap.size w W → Calls Tryd.prog 36 #[.string ⟨#[110, 111, 100, 101]⟩, .agg LT.toArray, .agg LL.toArray] W (DigPost R W)) :
    Calls Tryd.prog 42 #[.agg LD.toArray, .int .i64 i, .int .i64 n, .slice (some ⟨b, off, none⟩) (m + 1) c] w (DigPost R w) := by
  have HSPL := Lib.hid (fun w => split_any n w h1 (by omega))
  have hkl := half_le n h1
  have hkp := half_pos n
  rw [hk] at HSPL hkl hkp
  clear hk
  have t1 : ((n : Int) == 1) = false := by simp; omega
  have hb := ((Below.refl w.heap.size w).alloc (Nat.le_refl _) (.cells LD.toArray 26)).alloc (by simp) (.cells dz 26)
  have hx := ((Box.new w LD.toArray 26).alloc (.cells dz 26)).range
  have hz := Box.new (w.alloc (.cells LD.toArray 26)) dz 26
  rw [World.size_alloc] at hz
  have hl := range_below hX hb
  have HB := Lib.hid hb
  have HX := Lib.hid hx
  have HZ := Lib.hid hz
  have HL := Lib.hid hl
  have HC := Lib.hid hC
  have HP := Lib.hid hP
  have HID := Lib.hid (dig_size hD)
  have HIL := Lib.hid (dig_size hL)
  have HRF := Lib.hid (DF.of hR)
  clear hb hx hz hl hC hP hX
  go_enter Tryd.func42, Tryd.ntmps42
  go_wp2_with fail
  generalize hW : World.alloc (World.alloc w _) _ = W
  have hbW : Below w.heap.size w W := by rw [← hW]; exact HB.out
  have hxW : W.rangeAt w.heap.size 0 LD := by rw [← hW]; exact HX.out
  have hzW : Box W (w.heap.size + 1) dz 26 := by rw [← hW]; exact HZ.out
  have hlW : W.rangeAt b (off + m * 32) LL := by rw [← hW]; exact HL.out
  clear hW HB HX HZ HL
  have HXW := Lib.hid (range_regrown hxW)
  have HLW := Lib.hid (range_regrown hlW)
  have HZW := Lib.hid hzW
  have HBW := Lib.hid hbW
  clear hxW hlW hzW
  have hg1 := hbW.size
  have HBW2 := Lib.hid hbW
  have cC := Calls.regrownAll (w := W) (fun w' hb => HC.out w' (hbW.trans (hb.mono hg1)))
  have cP := DigPost.grown (w := W) (fun w' hb => HP.out w' (hbW.trans (hb.mono hg1)))
  refine (HSPL.out _).mono ?_
  rintro e w1 ⟨rfl, rfl⟩
  go_wp2_with fail
  have i1 : (0 : Int) ≤ (m : Int) ∧ (m : Int) ≤ (c : Int) ∧ (m : Int) < (m : Int) + 1 := by omega
  clear hbW HBW HSPL HC HP t1 hm hm2 hn
  refine region_tail_below 12 (by kernel_rfl) (by kernel_rfl) ?_
  simp only [List.take_succ_cons, List.take_zero, List.drop_succ_cons, List.drop_zero]
  refine qload rfl 26 (.tmp 4) rfl w.heap.size 0 rfl LD _ HXW.out Tryd.underlying26 rfl HID.out ?_
  simp only [Act.put, List.setIfInBounds_toArray, List.set_cons_succ, List.set_cons_zero]
  iterate 6 (quiet_step (exact cC _ _))
  iterate 3 (quiet_step (fail))
  refine qload rfl 26 (.tmp 32) rfl b (off + m * 32) rfl LL _ HLW.out Tryd.underlying26 rfl HIL.out ?_
  simp only [Act.put, List.setIfInBounds_toArray, List.set_cons_succ, List.set_cons_zero]
  quiet_step (exact cP _ _)
  refine wpQuiet_nil ?_
  intro w2 hw'
  obtain ⟨⟨dq, osq⟩, hw''⟩ := hw'
  subst hw''
  have hbq := below_regrown W dq osq
  have hbx := HZW.out.below hbq
  have hbw := HBW2.out.trans (hbq.mono hg1)
  generalize grow (redrawn W dq) osq = W2 at *
  have HBX := Lib.hid hbx
  clear cC cP hbx hbq HZW HXW HLW
  have HR := Lib.hid HRF.out
  generalize hCS : dcells R = CR at *
  have HCR := Lib.hid hCS
  clear hCS HRF
  go_wp2_with (first | (refine wpList_store_row rfl 26 (.tmp 8) (.tmp 34) rfl (w.heap.size + 1) CR rfl rfl 26 dz HBX.out HR.out.info HR.out.size HR.out.one ?_))
  refine bodyPost_ret (v := .agg CR) ?_ rfl ?_
  · exact results_cell_row Tryd.results42 _ _ (w.heap.size + 1) 26 CR (0, 0) _ rfl (Box.setRow HBX.out) Tryd.underlying26 rfl HR.out.info
  · exact ⟨by rw [HCR.out], fin_store CR hbw (by omega)⟩

set_option maxHeartbeats 1000000 in
set_option maxRecDepth 100000 in
theorem climb_right (b off n c i k m : Nat) (LD LL LT : List Value) (R : List UInt8) (w : World) (h1 : 1 < n) (hn : n ≤ 2199023255552) (hk : half n = k) (hi : ¬ i < k) (hin : i < n) (hm : m + 1 ≤ c) (hm2 : m ≤ 1000000)
    (hD : LD.length = 32) (hL : LL.length = 32) (hR : R.length = 32) (hX : w.rangeAt b (off + m * 32) LL)
    (hC : ∀ W, Below w.heap.size w W → Calls Tryd.prog 42 #[.agg LD.toArray, .int .i64 ((i : Int) - (k : Int)), .int .i64 ((n : Int) - (k : Int)), .slice (some ⟨b, off, none⟩) m c] W (fun e w' => e = .returned (.agg LT.toArray) ∧ Below W.heap.size W w'))
    (hP : ∀ W, Below w.heap.size w W → Calls Tryd.prog 36 #[.string ⟨#[110, 111, 100, 101]⟩, .agg LL.toArray, .agg LT.toArray] W (DigPost R W)) :
    Calls Tryd.prog 42 #[.agg LD.toArray, .int .i64 i, .int .i64 n, .slice (some ⟨b, off, none⟩) (m + 1) c] w (DigPost R w) := by
  have HSPL := Lib.hid (fun w => split_any n w h1 (by omega))
  have hkl := half_le n h1
  have hkp := half_pos n
  rw [hk] at HSPL hkl hkp
  clear hk
  have t1 : ((n : Int) == 1) = false := by simp; omega
  have hb := ((Below.refl w.heap.size w).alloc (Nat.le_refl _) (.cells LD.toArray 26)).alloc (by simp) (.cells dz 26)
  have hx := ((Box.new w LD.toArray 26).alloc (.cells dz 26)).range
  have hz := Box.new (w.alloc (.cells LD.toArray 26)) dz 26
  rw [World.size_alloc] at hz
  have hl := range_below hX hb
  have HB := Lib.hid hb
  have HX := Lib.hid hx
  have HZ := Lib.hid hz
  have HL := Lib.hid hl
  have HC := Lib.hid hC
  have HP := Lib.hid hP
  have HID := Lib.hid (dig_size hD)
  have HIL := Lib.hid (dig_size hL)
  have HRF := Lib.hid (DF.of hR)
  clear hb hx hz hl hC hP hX
  have s1 : IntKind.i64.wrap ((i : Int) - (k : Int)) = (i : Int) - (k : Int) := IntWalk.i64_in _ (by omega)
  have s2 : IntKind.i64.wrap ((n : Int) - (k : Int)) = (n : Int) - (k : Int) := IntWalk.i64_in _ (by omega)
  go_enter Tryd.func42, Tryd.ntmps42
  go_wp2_with fail
  generalize hW : World.alloc (World.alloc w _) _ = W
  have hbW : Below w.heap.size w W := by rw [← hW]; exact HB.out
  have hxW : W.rangeAt w.heap.size 0 LD := by rw [← hW]; exact HX.out
  have hzW : Box W (w.heap.size + 1) dz 26 := by rw [← hW]; exact HZ.out
  have hlW : W.rangeAt b (off + m * 32) LL := by rw [← hW]; exact HL.out
  clear hW HB HX HZ HL
  have HXW := Lib.hid (range_regrown hxW)
  have HLW := Lib.hid (range_regrown hlW)
  have HZW := Lib.hid hzW
  have HBW := Lib.hid hbW
  clear hxW hlW hzW
  have hg1 := hbW.size
  have HBW2 := Lib.hid hbW
  have cC := Calls.regrownAll (w := W) (fun w' hb => HC.out w' (hbW.trans (hb.mono hg1)))
  have cP := DigPost.grown (w := W) (fun w' hb => HP.out w' (hbW.trans (hb.mono hg1)))
  refine (HSPL.out _).mono ?_
  rintro e w1 ⟨rfl, rfl⟩
  go_wp2_with fail
  have i1 : (0 : Int) ≤ (m : Int) ∧ (m : Int) ≤ (c : Int) ∧ (m : Int) < (m : Int) + 1 := by omega
  clear hbW HBW HSPL HC HP t1 hm hm2 hn
  refine region_tail_below 16 (by kernel_rfl) (by kernel_rfl) ?_
  simp only [List.take_succ_cons, List.take_zero, List.drop_succ_cons, List.drop_zero]
  iterate 3 (quiet_step (fail))
  refine qload rfl 26 (.tmp 37) rfl b (off + m * 32) rfl LL _ HLW.out Tryd.underlying26 rfl HIL.out ?_
  simp only [Act.put, List.setIfInBounds_toArray, List.set_cons_succ, List.set_cons_zero]
  refine qload rfl 26 (.tmp 4) rfl w.heap.size 0 rfl LD _ HXW.out Tryd.underlying26 rfl HID.out ?_
  simp only [Act.put, List.setIfInBounds_toArray, List.set_cons_succ, List.set_cons_zero]
  iterate 10 (quiet_step (exact cC _ _))
  quiet_step (exact cP _ _)
  refine wpQuiet_nil ?_
  intro w2 hw'
  obtain ⟨⟨dq, osq⟩, hw''⟩ := hw'
  subst hw''
  have hbq := below_regrown W dq osq
  have hbx := HZW.out.below hbq
  have hbw := HBW2.out.trans (hbq.mono hg1)
  generalize grow (redrawn W dq) osq = W2 at *
  have HBX := Lib.hid hbx
  clear cC cP hbx hbq HZW HXW HLW
  have HR := Lib.hid HRF.out
  generalize hCS : dcells R = CR at *
  have HCR := Lib.hid hCS
  clear hCS HRF
  go_wp2_with (first | (refine wpList_store_row rfl 26 (.tmp 8) (.tmp 50) rfl (w.heap.size + 1) CR rfl rfl 26 dz HBX.out HR.out.info HR.out.size HR.out.one ?_))
  refine bodyPost_ret (v := .agg CR) ?_ rfl ?_
  · exact results_cell_row Tryd.results42 _ _ (w.heap.size + 1) 26 CR (0, 0) _ rfl (Box.setRow HBX.out) Tryd.underlying26 rfl HR.out.info
  · exact ⟨by rw [HCR.out], fin_store CR hbw (by omega)⟩
end Go.Proofs.YtdjlblfpkieenaaDoor
