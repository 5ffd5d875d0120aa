/- Tree: the walk. -/
import Derived.Test.YtdjlblfpkieenaaDoorTree
namespace Go.Proofs.YtdjlblfpkieenaaDoor
open Go.RowKit Go.Sort
set_option linter.unusedVariables false

/-- Behind a result's store. -/
theorem fin_store {w w1 : World} {g : Nat} (CR : Array Value) (hb : Below w.heap.size w w1) (hg : w.heap.size ≤ g) : Below w.heap.size w (w1.setRow g CR) := hb.trans (below_grown (setRow_grown w1 g CR) hg hb.size)

set_option maxHeartbeats 1000000 in
set_option maxRecDepth 100000 in
theorem tree_none (A : Option Addr) (c : Nat) (w : World) (hK : KT w) :
    Calls Tryd.prog 17 #[.slice A 0 c] w (DigPost (tr []) w) := by
  have hb1 := (Below.refl w.heap.size w).alloc (Nat.le_refl _) (.cells dz 26)
  have hz := Box.new w dz 26
  have HL := Lib.hid (tagged_any ⟨#[101, 109, 112, 116, 121]⟩ none 0 [] _ (hK.below hb1) ⟨Bs.none_, by simp, by unfold maxLen; omega, fun _ => ⟨rfl, rfl⟩⟩ (by decide) (by simp))
  have HZ := Lib.hid hz
  have HB := Lib.hid hb1
  clear hb1 hz hK
  go_enter Tryd.func17, Tryd.ntmps17
  go_wp2_with fail
  refine HL.out.mono ?_
  rintro e w1 ⟨rfl, hb2⟩
  have hbw := HB.out.trans (hb2.mono HB.out.size)
  have hr := HZ.out.below hb2
  obtain ⟨hi1, hs1, ho1⟩ := dcells_facts (tg_length [101, 109, 112, 116, 121] [])
  have hT : tr [] = tg [101, 109, 112, 116, 121] [] := tr_zero
  generalize hR : tg [101, 109, 112, 116, 121] [] = R at *
  generalize hCS : dcells R = CR at *
  have HT := Lib.hid hT
  have HCR := Lib.hid hCS
  have HI := Lib.hid hi1
  have HSZ := Lib.hid hs1
  have HONE := Lib.hid ho1
  have HBX := Lib.hid hr
  clear hCS hi1 hs1 ho1 hr hb2 HL HB HZ hT hR
  go_wp2_with (first | (refine wpList_store_row rfl 26 (.tmp 2) (.tmp 8) rfl w.heap.size CR rfl rfl 26 dz HBX.out HI.out HSZ.out HONE.out ?_))
  refine bodyPost_ret (v := .agg CR) ?_ rfl ?_
  · exact results_cell_row Tryd.results17 _ _ w.heap.size 26 CR (0, 0) _ rfl (Box.setRow HBX.out) Tryd.underlying26 rfl HI.out
  · exact ⟨by rw [HT.out, HCR.out], fin_store CR hbw (Nat.le_refl _)⟩

set_option maxHeartbeats 1000000 in
set_option maxRecDepth 100000 in
theorem tree_leaf (A : Option Addr) (c : Nat) (d : List UInt8) (w : World) (hK : KT w) (hD : Ds w.heap.size w A [d]) :
    Calls Tryd.prog 17 #[.slice A 1 c] w (DigPost (tr [d]) w) := by
  have hd : d.length = 32 := hD.1 d (by simp)
  have hb1 := (Below.refl w.heap.size w).alloc (Nat.le_refl _) (.cells dz 26)
  have hz := Box.new w dz 26
  have HL := Lib.hid (leaf_any d _ (hK.below hb1) hd)
  obtain ⟨b, off, rfl, hbl, hc⟩ := (hD.up hb1).2 (by simp)
  have hr0 : World.rangeAt (w.alloc (.cells dz 26)) b off (d.map bv) := by have := hc 0 d rfl; simpa using this
  have hi0 : (Tryd.prog.info? 26).map (·.size) = some (d.map bv).length := by rw [List.length_map, hd]; kernel_rfl
  have hdc : (d.map bv).toArray = dcells d := rfl
  have HR0 := Lib.hid hr0
  have HI0 := Lib.hid hi0
  have HDC := Lib.hid hdc
  have HZ := Lib.hid hz
  have HB := Lib.hid hb1
  clear hb1 hz hK hD hc hr0 hi0 hdc hd
  generalize d.map bv = DM at *
  go_enter Tryd.func17, Tryd.ntmps17
  go_wp2_with (first | (refine wpList_load_mid rfl 26 (.tmp 12) rfl b off rfl DM _ HR0.out Tryd.underlying26 rfl HI0.out ?_))
  rw [HDC.out]
  refine HL.out.mono ?_
  rintro e w1 ⟨rfl, hb2⟩
  have hbw := HB.out.trans (hb2.mono HB.out.size)
  have hr := HZ.out.below hb2
  obtain ⟨hi1, hs1, ho1⟩ := dcells_facts (tg_length [108, 101, 97, 102] d)
  have hT : tr [d] = tg [108, 101, 97, 102] d := tr_one d
  generalize hR : tg [108, 101, 97, 102] d = R at *
  generalize hCS : dcells R = CR at *
  have HT := Lib.hid hT
  have HCR := Lib.hid hCS
  have HI := Lib.hid hi1
  have HSZ := Lib.hid hs1
  have HONE := Lib.hid ho1
  have HBX := Lib.hid hr
  clear hCS hi1 hs1 ho1 hr hb2 HL HB HZ hT hR HR0 HI0 HDC
  go_wp2_with (first | (refine wpList_store_row rfl 26 (.tmp 2) (.tmp 14) rfl w.heap.size CR rfl rfl 26 dz HBX.out HI.out HSZ.out HONE.out ?_))
  refine bodyPost_ret (v := .agg CR) ?_ rfl ?_
  · exact results_cell_row Tryd.results17 _ _ w.heap.size 26 CR (0, 0) _ rfl (Box.setRow HBX.out) Tryd.underlying26 rfl HI.out
  · exact ⟨by rw [HT.out, HCR.out], fin_store CR hbw (Nat.le_refl _)⟩
end Go.Proofs.YtdjlblfpkieenaaDoor
