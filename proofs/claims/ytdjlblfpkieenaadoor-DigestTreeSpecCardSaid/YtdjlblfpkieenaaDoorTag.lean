/- Tagged. -/
import Derived.Test.YtdjlblfpkieenaaDoorConcat
namespace Go.Proofs.YtdjlblfpkieenaaDoor
open Go.RowKit
set_option linter.unusedVariables false

/-- The hash of bytes under a tag. -/
def tg (tag l : List UInt8) : List UInt8 := sha (sha tag ++ l)
theorem tg_length (tag l : List UInt8) : (tg tag l).length = 32 := rfl
/-- A function has handed back the digest d, and turned nothing old. -/
def DigPost (d : List UInt8) (w : World) (e : Ending) (w' : World) : Prop := e = .returned (.agg (dcells d)) ∧ Below w.heap.size w w'

/-- The zero cells of a digest. -/
def dz : Array Value := bcells []
theorem dcells_facts {d : List UInt8} (h : d.length = 32) : (Tryd.prog.info? 26).map (·.size) = some (dcells d).size ∧ dz.size = (dcells d).size ∧ (dcells d).all (·.oneCell') = true := by
  have hs : (dcells d).size = 32 := by simp [dcells, h]
  exact ⟨size32 hs, by rw [hs]; exact bcells_size [] (by simp), by rw [← bcells_full _ h]; exact bcells_one _⟩

set_option maxHeartbeats 1000000 in
set_option maxRecDepth 100000 in
theorem tagged_any (tag : ByteArray) (A : Option Addr) (c : Nat) (l : List UInt8) (w : World) (hK : KT w) (hS : Sl w A l c) (ht : tag.size ≤ 1000000) (hl : l.length ≤ 1000000) :
    Calls Tryd.prog 14 #[.string tag, .slice A l.length c] w (DigPost (tg tag.data.toList l) w) := by
  have hz : Box (w.alloc (.cells dz 26)) w.heap.size dz 26 := Box.new w _ _
  have hbz := (Below.refl w.heap.size w).alloc (Nat.le_refl _) (.cells dz 26)
  obtain ⟨c1, w1, hcv, hb1, hB1, hc1, hm1⟩ := conv_str (w.alloc (.cells dz 26)) tag (le_maxLen (by omega))
  have hbw1 := hbz.trans (hb1.mono hbz.size)
  have hr1 := hz.below hb1
  have HS := Lib.hid hS
  have HK := Lib.hid hK
  have HL1 := Lib.hid (sum_any _ c1 tag.data.toList w1 (hK.below hbw1) hB1 hc1 hm1)
  have HZ := Lib.hid hr1
  clear hz hb1 hbz hB1 hS hK hr1
  rw [World.size_alloc] at hcv HL1
  have hcv : (convert 9 22 (.string tag)).run Tryd.prog (w.alloc (.cells #[.int .u8 0, .int .u8 0, .int .u8 0, .int .u8 0, .int .u8 0, .int .u8 0, .int .u8 0, .int .u8 0, .int .u8 0, .int .u8 0, .int .u8 0, .int .u8 0, .int .u8 0, .int .u8 0, .int .u8 0, .int .u8 0, .int .u8 0, .int .u8 0, .int .u8 0, .int .u8 0, .int .u8 0, .int .u8 0, .int .u8 0, .int .u8 0, .int .u8 0, .int .u8 0, .int .u8 0, .int .u8 0, .int .u8 0, .int .u8 0, .int .u8 0, .int .u8 0] 26)) = .ok (.slice (some ⟨w.heap.size + 1, 0, none⟩) tag.size c1) w1 := hcv
  go_enter Tryd.func14, Tryd.ntmps14
  go_wp2_with fail
  clear hcv
  refine HL1.out.mono ?_
  rintro e w2 ⟨rfl, hb2⟩
  have hbw2 := hbw1.trans (hb2.mono hbw1.size)
  have hr2 := HZ.out.below hb2
  obtain ⟨hi1, hs1, ho1⟩ := dcells_facts (sha_length tag.data.toList)
  have HX := Lib.hid (Box.new w2 dz 26)
  have hbx : Box ((w2.alloc (.cells dz 26)).setRow w2.heap.size (dcells (sha tag.data.toList))) w2.heap.size (dcells (sha tag.data.toList)) 26 := Box.setRow (Box.new w2 _ _)
  have hbw3 : Below w.heap.size w ((w2.alloc (.cells dz 26)).setRow w2.heap.size (dcells (sha tag.data.toList))) := (hbw2.alloc hbw2.size _).trans (below_grown (setRow_grown _ _ _) hbw2.size (by simp; have := hbw2.size; omega))
  have hr3 : Box ((w2.alloc (.cells dz 26)).setRow w2.heap.size (dcells (sha tag.data.toList))) w.heap.size dz 26 := (hr2.alloc _).grown (setRow_grown _ _ _) (fun e => by injection e with e; have := hr2.lt; omega)
  have HI1 := Lib.hid hi1
  have HS1 := Lib.hid hs1
  have HO1 := Lib.hid ho1
  have HBX := Lib.hid hbx
  have HR3 := Lib.hid hr3
  clear HL1 hb2 hr2 hi1 hs1 ho1 hbx hr3 hbw1 HZ
  generalize hCS : dcells (sha tag.data.toList) = CS at *
  have HCS := Lib.hid hCS
  clear hCS
  go_wp2_with (first | (refine wpList_store_row rfl 26 (.tmp 5) (.tmp 8) rfl w2.heap.size CS rfl rfl 26 dz HX.out HI1.out HS1.out HO1.out ?_))
  generalize hW : World.setRow _ _ CS = W3
  have hz3 : W3.heap.size = w2.heap.size + 1 := by rw [← hW, size_setRow, World.size_alloc]
  have hb3 : Below w.heap.size w W3 := by rw [← hW]; exact hbw3
  have hx3 : Box W3 w2.heap.size CS 26 := by rw [← hW]; exact HBX.out
  have hr3 : Box W3 w.heap.size dz 26 := by rw [← hW]; exact HR3.out
  clear hW hbw3 HX HI1 HS1 HO1 HBX HR3
  have hb4 := hb3.alloc (o := .cells #[.slice (some ⟨w2.heap.size, 0, none⟩) 32 32, .slice A l.length c] 22) hb3.size
  have hrow := Box.new W3 #[.slice (some ⟨w2.heap.size, 0, none⟩) 32 32, .slice A l.length c] 22
  have hx4 := hx3.alloc (.cells #[.slice (some ⟨w2.heap.size, 0, none⟩) 32 32, .slice A l.length c] 22)
  have hr4 := hr3.alloc (.cells #[.slice (some ⟨w2.heap.size, 0, none⟩) 32 32, .slice A l.length c] 22)
  have hs4 : Sl (W3.alloc (.cells #[.slice (some ⟨w2.heap.size, 0, none⟩) 32 32, .slice A l.length c] 22)) (some ⟨w2.heap.size, 0, none⟩) (sha tag.data.toList) 32 := by
    refine ⟨Bs.of_box (t := 26) ?_, by rw [sha_length]; omega, by unfold maxLen; omega, fun h => by cases h⟩
    rw [← HCS.out] at hx4
    exact hx4
  have hC := concat_any _ _ A 32 c (sha tag.data.toList) l _ (by rw [sha_length]; exact hrow) hs4 (HS.out.up hb4) (by rw [sha_length]; omega) (by rw [sha_length]; omega) hl
  have HC := Lib.hid hC
  rw [hz3] at HC
  clear hC hrow hx4 hs4 hb3 hx3 hr3
  generalize W3.alloc (.cells #[.slice (some ⟨w2.heap.size, 0, none⟩) 32 32, .slice A l.length c] 22) = W4 at *
  refine HC.out.mono ?_
  rintro e w5 ⟨A5, c5, rfl, ho5, hb5⟩
  have htg : tg tag.data.toList l = sha (sha tag.data.toList ++ l) := rfl
  have HTG := Lib.hid htg
  clear htg
  generalize sha tag.data.toList ++ l = LL at *
  have hbw5 := hb4.trans (hb5.mono hb4.size)
  have hr5 := hr4.below hb5
  obtain ⟨hB5, hc51, hc52⟩ := Bs.of_own ho5
  have HL := Lib.hid (sum_any A5 c5 LL w5 (HK.out.below hbw5) hB5 hc51 hc52)
  clear HC hb5 hb4 hr4 ho5 hB5
  go_wp2_with fail
  refine HL.out.mono ?_
  rintro e w6 ⟨rfl, hb6⟩
  have hbw6 := hbw5.trans (hb6.mono hbw5.size)
  have hr6 := hr5.below hb6
  obtain ⟨hi1, hs1, ho1⟩ := dcells_facts (sha_length LL)
  generalize hCS : dcells (sha LL) = CR at *
  have HCR := Lib.hid hCS
  have HI := Lib.hid hi1
  have HSZ := Lib.hid hs1
  have HONE := Lib.hid ho1
  have HBX := Lib.hid hr6
  clear hCS hi1 hs1 ho1 hr6 hr5 hb6 hbw5 HL hc51 hc52
  go_wp2_with (first | (refine wpList_store_row rfl 26 (.tmp 4) (.tmp 13) rfl w.heap.size CR rfl rfl 26 dz HBX.out HI.out HSZ.out HONE.out ?_))
  refine bodyPost_ret (v := .agg CR) ?_ rfl ?_
  · exact results_cell_row Tryd.results14 _ _ w.heap.size 26 CR (0, 0) _ rfl (Box.setRow HBX.out) Tryd.underlying26 rfl HI.out
  · exact ⟨by rw [HTG.out, HCR.out], hbw6.trans (below_grown (setRow_grown w6 w.heap.size CR) (Nat.le_refl _) hbw6.size)⟩
end Go.Proofs.YtdjlblfpkieenaaDoor
