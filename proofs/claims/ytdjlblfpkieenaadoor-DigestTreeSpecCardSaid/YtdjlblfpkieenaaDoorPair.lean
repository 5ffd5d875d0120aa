/- leaf, pair, Chain. -/
import Derived.Test.YtdjlblfpkieenaaDoorTag
import Derived.Deep.Onto
namespace Go.Proofs.YtdjlblfpkieenaaDoor
open Go.RowKit
set_option linter.unusedVariables false

theorem Sl.of_box {w : World} {g : Nat} {d : List UInt8} (h : Box w g (dcells d) 26) (hd : d.length = 32) : Sl w (some ⟨g, 0, none⟩) d 32 :=
  ⟨Bs.of_box h, by omega, by unfold maxLen; omega, fun h => by cases h⟩

set_option maxHeartbeats 1000000 in
set_option maxRecDepth 100000 in
theorem leaf_any (d : List UInt8) (w : World) (hK : KT w) (hd : d.length = 32) :
    Calls Tryd.prog 34 #[.agg (dcells d)] w (DigPost (tg [108, 101, 97, 102] d) w) := by
  have hb1 := ((Below.refl w.heap.size w).alloc (Nat.le_refl _) (.cells (dcells d) 26)).alloc (by simp) (.cells dz 26)
  have hx := (Box.new w (dcells d) 26).alloc (.cells dz 26)
  have hz := Box.new (w.alloc (.cells (dcells d) 26)) dz 26
  rw [World.size_alloc] at hz
  have hL := tagged_any ⟨#[108, 101, 97, 102]⟩ (some ⟨w.heap.size, 0, none⟩) 32 d _ (hK.below hb1) (Sl.of_box hx hd) (by decide) (by omega)
  rw [hd] at hL
  have HL := Lib.hid hL
  have HZ := Lib.hid hz
  have HB := Lib.hid hb1
  have hsz : (dcells d).size = 32 := by simp [dcells, hd]
  have hi := size32 hsz
  clear hL hz hb1 hx
  generalize dcells d = CD at *
  go_enter Tryd.func34, Tryd.ntmps34
  go_wp2_with fail
  refine HL.out.mono ?_
  rintro e w1 ⟨rfl, hb2⟩
  have hbw := HB.out.trans (hb2.mono HB.out.size)
  have hr := HZ.out.below hb2
  obtain ⟨hi1, hs1, ho1⟩ := dcells_facts (tg_length [108, 101, 97, 102] d)
  generalize hCS : dcells (tg [108, 101, 97, 102] d) = CR at *
  have HCR := Lib.hid hCS
  have HI := Lib.hid hi1
  have HSZ := Lib.hid hs1
  have HONE := Lib.hid ho1
  have HBX := Lib.hid hr
  clear hCS hi1 hs1 ho1 hr hb2 HL HB HZ hi hsz
  go_wp2_with (first | (refine wpList_store_row rfl 26 (.tmp 2) (.tmp 4) rfl (w.heap.size + 1) CR rfl rfl 26 dz HBX.out HI.out HSZ.out HONE.out ?_))
  refine bodyPost_ret (v := .agg CR) ?_ rfl ?_
  · exact results_cell_row Tryd.results34 _ _ (w.heap.size + 1) 26 CR (0, 0) _ rfl (Box.setRow HBX.out) Tryd.underlying26 rfl HI.out
  · exact ⟨by rw [HCR.out], hbw.trans (below_grown (setRow_grown w1 (w.heap.size + 1) CR) (by omega) hbw.size)⟩

theorem own_other {w : World} {B n g : Nat} {v : Value} {e t : TypeId} {size : Nat} {xs : List Value} {cs : Array Value} {z : Nat × Nat} (h : w.ownsRow B e size v n xs) (hg : w.heap[g]? = some (.cells cs t z)) (hne : e ≠ t) : some g ≠ v.ownBlock := by
  rcases h.2 with ⟨rfl, _⟩ | ⟨g', cap, cur, rfl, _, hh, _⟩
  · simp [Value.ownBlock]
  · intro he
    simp [Value.ownBlock] at he
    subst he
    rw [hh] at hg
    injection hg with hg
    injection hg with _ ht
    exact hne ht
/-- A row of the call's own, as a slice that came in. -/
theorem Sl.of_own {w : World} {B c : Nat} {A : Option Addr} {l : List UInt8} (h : w.ownsRow B 5 1 (.slice A l.length c) l.length (l.map bv)) : Sl w A l c := by
  obtain ⟨h1, h2, h3⟩ := Bs.of_own h
  refine ⟨h1, h2, h3, fun hA => ?_⟩
  subst hA
  rcases h.2 with ⟨hv, hn⟩ | ⟨g, cap, cur, hv, _⟩
  · injection hv with _ _ hc
    exact ⟨List.length_eq_zero_iff.1 hn, hc⟩
  · injection hv with hA
    cases hA
theorem make064 (w : World) : (Instr.makeSlice 22 (.int .i64 0) (.int .i64 64)).run Tryd.prog w = .ok (.slice (some ⟨w.heap.size, 0, none⟩) 0 64) (w.alloc (.cells (zrow 64) 5)) := by
  obtain ⟨i0, hi0, hz0, hz1, hz2⟩ := info_parts u8_info
  have := run_make w 22 5 i0 (.int .u8 0) Tryd.underlying22 hi0 hz0 .i64 .i64 0 64 (by omega) (by omega) (by rw [hz2]; omega) (by omega)
  rw [hz1, Nat.mul_one, made_u8] at this
  exact this
theorem own_make (w : World) (n : Nat) (hn : n ≤ 1000000) : (w.alloc (.cells (zrow n) 5)).ownsRow w.heap.size 5 1 (.slice (some ⟨w.heap.size, 0, none⟩) 0 n) 0 [] :=
  ⟨rfl, .inr ⟨w.heap.size, n, zrow n, rfl, Nat.le_refl _, heap_alloc_new w _, Nat.zero_le _, le_maxLen (by omega), by simp [zrow, rowOf], rfl⟩⟩

set_option maxHeartbeats 1000000 in
set_option maxRecDepth 100000 in
theorem pair_any (tag : ByteArray) (d1 d2 : List UInt8) (w : World) (hK : KT w) (hd1 : d1.length = 32) (hd2 : d2.length = 32) (ht : tag.size ≤ 1000000) :
    Calls Tryd.prog 36 #[.string tag, .agg (dcells d1), .agg (dcells d2)] w (DigPost (tg tag.data.toList (d1 ++ d2)) w) := by
  obtain ⟨i0, hi0, hz0, hz1, hz2⟩ := info_parts u8_info
  have hmk : ∀ w : World, (Instr.makeSlice 22 (.int .i64 0) (.int .i64 64)).run Tryd.prog w = .ok (.slice (some ⟨w.heap.size, 0, none⟩) 0 64) (w.alloc (.cells (zrow 64) 5)) := make064
  have hb0 := (((Below.refl w.heap.size w).alloc (Nat.le_refl _) (.cells (dcells d1) 26)).alloc (by simp) (.cells (dcells d2) 26)).alloc (by simp; omega) (.cells dz 26)
  have hb1 := hb0.alloc hb0.size (.cells (zrow 64) 5)
  have hx1 := (((Box.new w (dcells d1) 26).alloc (.cells (dcells d2) 26)).alloc (.cells dz 26)).alloc (.cells (zrow 64) 5)
  have hx2 := ((Box.new (w.alloc (.cells (dcells d1) 26)) (dcells d2) 26).alloc (.cells dz 26)).alloc (.cells (zrow 64) 5)
  have hz := (Box.new ((w.alloc (.cells (dcells d1) 26)).alloc (.cells (dcells d2) 26)) dz 26).alloc (.cells (zrow 64) 5)
  have ho := (own_make (((w.alloc (.cells (dcells d1) 26)).alloc (.cells (dcells d2) 26)).alloc (.cells dz 26)) 64 (by omega)).mono (base' := w.heap.size) hb0.size
  simp only [World.size_alloc] at hz hx2 ho
  have hlz := hz.lt
  have hn1 := (Sl.of_box hx1 hd1).news
  have HB := Lib.hid hb1
  have HX2 := Lib.hid hx2
  have HZ := Lib.hid hz
  have HO := Lib.hid ho
  have HN1 := Lib.hid hn1
  have HK := Lib.hid hK
  have hl1 : (d1.map bv).length = 32 * 1 := by rw [List.length_map, hd1]
  have hl2 : (d2.map bv).length = 32 * 1 := by rw [List.length_map, hd2]
  have HL1 := Lib.hid hl1
  have HL2 := Lib.hid hl2
  have HD1 := Lib.hid hd1
  have HD2 := Lib.hid hd2
  have hs1 : (dcells d1).size = 32 := by simp [dcells, hd1]
  have hs2 : (dcells d2).size = 32 := by simp [dcells, hd2]
  clear hb0 hb1 hx1 hx2 hz hK ho hn1 hl1 hl2 hd1 hd2 hlz
  generalize hC1 : dcells d1 = C1 at *
  generalize hC2 : dcells d2 = C2 at *
  have HC2 := Lib.hid hC2
  clear hC1 hC2
  go_enter Tryd.func36, Tryd.ntmps36
  have hne1 : some (w.heap.size + 1) ≠ (Value.slice (some ⟨w.heap.size + 1 + 1 + 1, 0, none⟩) 0 64).ownBlock := by simp [Value.ownBlock]
  have hne2 : some (w.heap.size + 1 + 1) ≠ (Value.slice (some ⟨w.heap.size + 1 + 1 + 1, 0, none⟩) 0 64).ownBlock := by simp [Value.ownBlock]
  have HNE := Lib.hid (And.intro hne1 hne2)
  clear hne1 hne2
  go_wp2_with (at_builtin; first
    | (refine wpList_append_own _ rfl (.tmp 9) (.tmp 10) 22 rfl w.heap.size 5 i0 (.int .u8 0) 1 1 Tryd.underlying22 hi0 hz0 hz1 hz2 rfl (by decide) _ 0 [] rfl HO.out ⟨w.heap.size, 0, none⟩ 32 32 (d1.map bv) rfl HL1.out HN1.out (bv_one d1) (le_maxLen (by omega)) (by omega) HB.out.size ?_; intro v1 w2 ho2 hg2 _; have hb2 : Below w.heap.size w w2 := HB.out.grown hg2 HB.out.size (fun i hi => (HO.out.lt i hi).1); have hx2 := HX2.out.grown hg2 HNE.out.1; have hz2' := HZ.out.grown hg2 HNE.out.2; rw [← HC2.out] at hx2; have hn2 := (Sl.of_box hx2 HD2.out).news; have HN2 := Lib.hid hn2; have HZ2 := Lib.hid hz2'; clear hn2 hz2' hx2 hg2)
    | (refine wpList_append_own _ rfl (.tmp 12) (.tmp 13) 22 rfl w.heap.size 5 i0 (.int .u8 0) 1 1 Tryd.underlying22 hi0 hz0 hz1 hz2 rfl (by decide) v1 (0 + 32) ([] ++ d1.map bv) rfl ho2 ⟨w.heap.size + 1, 0, none⟩ 32 32 (d2.map bv) rfl HL2.out HN2.out (bv_one d2) (le_maxLen (by omega)) (by omega) hb2.size ?_; intro v3 w3 ho3 hg3 _; have hb3 : Below w.heap.size w w3 := hb2.grown hg3 hb2.size (fun i hi => (ho2.lt i hi).1); have HG3 := Lib.hid hg3; have HO2 := Lib.hid ho2; clear hg3 ho2; obtain ⟨A3, c3, hv3⟩ := own_form ho3; subst hv3))
  have hl64 : (d1 ++ d2).length = 64 := by rw [List.length_append, HD1.out, HD2.out]
  have hs3 : Sl w3 A3 (d1 ++ d2) c3 := Sl.of_own (B := w.heap.size) (by rw [hl64, List.map_append]; exact ho3)
  have hz3 := HZ2.out.grown HG3.out (own_other HO2.out HZ2.out (by decide))
  have hL := tagged_any tag A3 c3 (d1 ++ d2) w3 (HK.out.below hb3) hs3 ht (by omega)
  rw [hl64] at hL
  have HL := Lib.hid hL
  have HTL : Hid ((tg tag.data.toList (d1 ++ d2)).length = 32) := rfl
  generalize tg tag.data.toList (d1 ++ d2) = R at *
  clear hl64 hs3 hL ho3 hb2 HG3 HO2 HZ2 HN2 HNE HC2 HN1 HO HZ HX2 HB hmk
  refine HL.out.mono ?_
  rintro e w4 ⟨rfl, hb4⟩
  have hbw := hb3.trans (hb4.mono hb3.size)
  have hr := hz3.below hb4
  obtain ⟨hi1, hs1, ho1⟩ := dcells_facts HTL.out
  generalize hCS : dcells R = CR at *
  have HCR := Lib.hid hCS
  have HI := Lib.hid hi1
  have HSZ := Lib.hid hs1
  have HONE := Lib.hid ho1
  have HBX := Lib.hid hr
  clear hCS hi1 hs1 ho1 hr hb4 HL hz3 hb3
  go_wp2_with (first | (refine wpList_store_row rfl 26 (.tmp 6) (.tmp 17) rfl (w.heap.size + 1 + 1) CR rfl rfl 26 dz HBX.out HI.out HSZ.out HONE.out ?_))
  refine bodyPost_ret (v := .agg CR) ?_ rfl ?_
  · exact results_cell_row Tryd.results36 _ _ (w.heap.size + 1 + 1) 26 CR (0, 0) _ rfl (Box.setRow HBX.out) Tryd.underlying26 rfl HI.out
  · exact ⟨by rw [HCR.out], hbw.trans (below_grown (setRow_grown w4 (w.heap.size + 1 + 1) CR) (by omega) hbw.size)⟩

set_option maxHeartbeats 1000000 in
set_option maxRecDepth 100000 in
theorem chain_any (d1 d2 : List UInt8) (w : World) (hK : KT w) (hd1 : d1.length = 32) (hd2 : d2.length = 32) :
    Calls Tryd.prog 25 #[.agg (dcells d1), .agg (dcells d2)] w (DigPost (tg [99, 104, 97, 105, 110] (d1 ++ d2)) w) := by
  have hb1 := (((Below.refl w.heap.size w).alloc (Nat.le_refl _) (.cells (dcells d1) 26)).alloc (by simp) (.cells (dcells d2) 26)).alloc (by simp; omega) (.cells dz 26)
  have hx1 := ((Box.new w (dcells d1) 26).alloc (.cells (dcells d2) 26)).alloc (.cells dz 26)
  have hx2 := (Box.new (w.alloc (.cells (dcells d1) 26)) (dcells d2) 26).alloc (.cells dz 26)
  have hz := Box.new ((w.alloc (.cells (dcells d1) 26)).alloc (.cells (dcells d2) 26)) dz 26
  simp only [World.size_alloc] at hz hx2
  have hP := pair_any ⟨#[99, 104, 97, 105, 110]⟩ d1 d2 _ (hK.below hb1) hd1 hd2 (by decide)
  obtain ⟨hi1, hs1, _⟩ := dcells_facts hd1
  obtain ⟨hi2, hs2, _⟩ := dcells_facts hd2
  have HP := Lib.hid hP
  have HB := Lib.hid hb1
  have HX1 := Lib.hid hx1
  have HX2 := Lib.hid hx2
  have HZ := Lib.hid hz
  have HI1 := Lib.hid hi1
  have HI2 := Lib.hid hi2
  have HTL : Hid ((tg [99, 104, 97, 105, 110] (d1 ++ d2)).length = 32) := rfl
  have hz1 : (dcells d1).size = 32 := by simp [dcells, hd1]
  have hz2 : (dcells d2).size = 32 := by simp [dcells, hd2]
  clear hb1 hx1 hx2 hz hP hi1 hi2 hs1 hs2
  change Hid (Calls _ _ _ _ (DigPost (tg [99, 104, 97, 105, 110] (d1 ++ d2)) _)) at HP
  generalize tg [99, 104, 97, 105, 110] (d1 ++ d2) = R at *
  generalize dcells d1 = C1 at *
  generalize dcells d2 = C2 at *
  go_enter Tryd.func25, Tryd.ntmps25
  go_wp2_with (first
    | (refine wpList_load_row rfl 26 (.tmp 2) rfl w.heap.size rfl 26 C1 (0, 0) _ HX1.out Tryd.underlying26 rfl HI1.out ?_)
    | (refine wpList_load_row rfl 26 (.tmp 3) rfl (w.heap.size + 1) rfl 26 C2 (0, 0) _ HX2.out Tryd.underlying26 rfl HI2.out ?_))
  refine HP.out.mono ?_
  rintro e w4 ⟨rfl, hb4⟩
  have hbw := HB.out.trans (hb4.mono HB.out.size)
  have hr := HZ.out.below hb4
  obtain ⟨hi1, hs1, ho1⟩ := dcells_facts HTL.out
  generalize hCS : dcells R = CR at *
  have HCR := Lib.hid hCS
  have HI := Lib.hid hi1
  have HSZ := Lib.hid hs1
  have HONE := Lib.hid ho1
  have HBX := Lib.hid hr
  clear hCS hi1 hs1 ho1 hr hb4 HP HX1 HX2 HZ HB
  go_wp2_with (first | (refine wpList_store_row rfl 26 (.tmp 4) (.tmp 7) rfl (w.heap.size + 1 + 1) CR rfl rfl 26 dz HBX.out HI.out HSZ.out HONE.out ?_))
  refine bodyPost_ret (v := .agg CR) ?_ rfl ?_
  · exact results_cell_row Tryd.results25 _ _ (w.heap.size + 1 + 1) 26 CR (0, 0) _ rfl (Box.setRow HBX.out) Tryd.underlying26 rfl HI.out
  · exact ⟨by rw [HCR.out], hbw.trans (below_grown (setRow_grown w4 (w.heap.size + 1 + 1) CR) (by omega) hbw.size)⟩
end Go.Proofs.YtdjlblfpkieenaaDoor
