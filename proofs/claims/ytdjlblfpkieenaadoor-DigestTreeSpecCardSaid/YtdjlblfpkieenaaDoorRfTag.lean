/- The reference's Tagged. -/
import Derived.Test.YtdjlblfpkieenaaDoorRfSum
import Derived.Test.YtdjlblfpkieenaaDoorPair
namespace Go.Proofs.YtdjlblfpkieenaaDoor
open Go.RowKit Go.Sort
set_option linter.unusedVariables false

set_option maxHeartbeats 1000000 in
set_option maxRecDepth 100000 in
theorem refTagged_any (tag : ByteArray) (A : Option Addr) (c : Nat) (l : List UInt8) (w : World) (hS : Sl w A l c) (ht : tag.size ≤ 10000) (hl : l.length ≤ 10000) :
    Calls Tryd.prog 15 #[.string tag, .slice A l.length c] w (DigPost (tg tag.data.toList l) w) := by
  have hz : Box (w.alloc (.cells dz 26)) w.heap.size dz 26 := Box.new w _ _
  have hbz := (Below.refl w.heap.size w).alloc (Nat.le_refl _) (.cells dz 26)
  obtain ⟨c1, w1, hcv, hb1, hB1, hc1, hm1⟩ := conv_str (w.alloc (.cells dz 26)) tag (le_maxLen (by omega))
  have hbw1 := hbz.trans (hb1.mono hbz.size)
  have hr1 := hz.below hb1
  have HS := Lib.hid hS
  obtain ⟨n, hn⟩ : ∃ n, l.length = n := ⟨_, rfl⟩
  have HN := Lib.hid hn
  rw [hn] at hl ⊢
  have hn2 : 32 + n ≤ 1000000 := by omega
  have HL1 := Lib.hid (refSum_any _ c1 tag.data.toList w1 ⟨hB1, hc1, hm1, fun h => by cases h⟩ (by show tag.size ≤ _; omega))
  have HZ := Lib.hid hr1
  clear hz hb1 hbz hB1 hS hr1 hn
  rw [World.size_alloc] at hcv HL1
  have hcv : (convert 9 22 (.string tag)).run Tryd.prog (w.alloc (.cells #[.int .u8 0, .int .u8 0, .int .u8 0, .int .u8 0, .int .u8 0, .int .u8 0, .int .u8 0, .int .u8 0, .int .u8 0, .int .u8 0, .int .u8 0, .int .u8 0, .int .u8 0, .int .u8 0, .int .u8 0, .int .u8 0, .int .u8 0, .int .u8 0, .int .u8 0, .int .u8 0, .int .u8 0, .int .u8 0, .int .u8 0, .int .u8 0, .int .u8 0, .int .u8 0, .int .u8 0, .int .u8 0, .int .u8 0, .int .u8 0, .int .u8 0, .int .u8 0] 26)) = .ok (.slice (some ⟨w.heap.size + 1, 0, none⟩) tag.size c1) w1 := hcv
  go_enter Tryd.func15, Tryd.ntmps15
  go_wp2_with fail
  clear hcv
  refine HL1.out.mono ?_
  rintro e w2 ⟨rfl, hb2⟩
  have hbw2 := hbw1.trans (hb2.mono hbw1.size)
  have hr2 := HZ.out.below hb2
  obtain ⟨hi1, hs1, ho1⟩ := dcells_facts (sha_length tag.data.toList)
  have HX := Lib.hid (Box.new w2 dz 26)
  have hbx : Box ((w2.alloc (.cells dz 26)).setRow w2.heap.size (dcells (sha tag.data.toList))) w2.heap.size (dcells (sha tag.data.toList)) 26 := Box.setRow (Box.new w2 _ _)
  have hbw3 : Below w.heap.size w ((w2.alloc (.cells dz 26)).setRow w2.heap.size (dcells (sha tag.data.toList))) := (hbw2.alloc hbw2.size _).trans (below_grown (setRow_grown _ _ _) hbw2.size (by simp; have := hbw2.size; omega))
  have hr3 : Box ((w2.alloc (.cells dz 26)).setRow w2.heap.size (dcells (sha tag.data.toList))) w.heap.size dz 26 := (hr2.alloc _).grown (setRow_grown _ _ _) (fun e => by injection e with e; have := hr2.lt; omega)
  have HI1 := Lib.hid hi1
  have HS1 := Lib.hid hs1
  have HO1 := Lib.hid ho1
  have HBX := Lib.hid hbx
  have HR3 := Lib.hid hr3
  clear HL1 hb2 hr2 hi1 hs1 ho1 hbx hr3 hbw1 HZ
  generalize hCS : dcells (sha tag.data.toList) = CS at *
  have HCS := Lib.hid hCS
  clear hCS
  go_wp2_with (first
    | (refine wpList_store_row rfl 26 (.tmp 5) (.tmp 8) rfl w2.heap.size CS rfl rfl 26 dz HX.out HI1.out HS1.out HO1.out ?_
       generalize hW : World.setRow _ _ CS = W3
       have hb3 : Below w.heap.size w W3 := by rw [← hW]; exact hbw3
       have hx3 : Box W3 w2.heap.size CS 26 := by rw [← hW]; exact HBX.out
       have hr3 : Box W3 w.heap.size dz 26 := by rw [← hW]; exact HR3.out
       have HR0 := Lib.hid (Row8.start W3)
       have hb0 : Below W3.heap.size W3 (W3.alloc (.cells #[] 5)) := (Below.refl W3.heap.size W3).alloc (Nat.le_refl _) _
       have HSD : Hid (Sl (W3.alloc (.cells #[] 5)) (some ⟨w2.heap.size, 0, none⟩) (sha tag.data.toList) 32) := Lib.hid (by rw [← HCS.out] at hx3; exact Sl.of_box (hx3.below hb0) (sha_length _))
       have HB3 := Lib.hid hb3
       have HR3' := Lib.hid hr3
       clear hW hbw3 HX HI1 HS1 HO1 HBX HR3 hb3 hx3 hr3 hb0)
    | (at_builtin; first
      | (refine wpList_append_bytes (w0 := W3) rfl (.tmp 9) (.tmp 10) rfl (some ⟨W3.heap.size, 0, none⟩) [] 0 0 rfl rfl HR0.out (some ⟨w2.heap.size, 0, none⟩) (sha tag.data.toList) 32 32 (sha_length _) rfl HSD.out 32 rfl (by omega) ?_
         intro A4 c4 w4 hR4
         have HR4 := Lib.hid hR4
         have HSL := Lib.hid (HS.out.up (HB3.out.trans (hR4.2.mono HB3.out.size)))
         clear hR4)
      | (refine wpList_append_bytes (w0 := W3) rfl (.tmp 11) (.tmp 12) rfl A4 ([] ++ sha tag.data.toList) 32 c4 rfl (sha_length _) HR4.out A l n c HN.out rfl HSL.out (32 + n) rfl hn2 ?_
         intro A5 c5 w5 hR5
         have HR5 := Lib.hid hR5
         clear hR5)))
  have hlen : ([] ++ sha tag.data.toList ++ l).length = 32 + n := by rw [List.nil_append, List.length_append, sha_length, HN.out]
  have hL := refSum_any A5 c5 ([] ++ sha tag.data.toList ++ l) w5 HR5.out.sl (by rw [hlen]; omega)
  rw [hlen] at hL
  have HL := Lib.hid hL
  have htg : tg tag.data.toList l = sha ([] ++ sha tag.data.toList ++ l) := rfl
  have HTG := Lib.hid htg
  have hbw5 : Below w.heap.size w w5 := HB3.out.trans (HR5.out.2.mono HB3.out.size)
  have hr5 := HR3'.out.below HR5.out.2
  clear hL htg HR5 HR4 HR0 HSD HSL hlen
  generalize [] ++ sha tag.data.toList ++ l = LL at *
  refine HL.out.mono ?_
  rintro e w6 ⟨rfl, hb6⟩
  have hbw6 := hbw5.trans (hb6.mono hbw5.size)
  have hr6 := hr5.below hb6
  obtain ⟨hi1, hs1, ho1⟩ := dcells_facts (sha_length LL)
  generalize hCR : dcells (sha LL) = CR at *
  have HCR := Lib.hid hCR
  have HI := Lib.hid hi1
  have HSZ := Lib.hid hs1
  have HONE := Lib.hid ho1
  have HBX := Lib.hid hr6
  clear hCR hi1 hs1 ho1 hr6 hr5 hb6 hbw5 HL
  go_wp2_with (first | (refine wpList_store_row rfl 26 (.tmp 4) (.tmp 14) rfl w.heap.size CR rfl rfl 26 dz HBX.out HI.out HSZ.out HONE.out ?_))
  refine bodyPost_ret (v := .agg CR) ?_ rfl ?_
  · exact results_cell_row Tryd.results15 _ _ w.heap.size 26 CR (0, 0) _ rfl (Box.setRow HBX.out) Tryd.underlying26 rfl HI.out
  · exact ⟨by rw [HTG.out, HCR.out], hbw6.trans (below_grown (setRow_grown w6 w.heap.size CR) (Nat.le_refl _) hbw6.size)⟩
end Go.Proofs.YtdjlblfpkieenaaDoor
