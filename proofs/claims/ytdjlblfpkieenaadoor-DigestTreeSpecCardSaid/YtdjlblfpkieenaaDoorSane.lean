/- The statements' first check. -/
import Derived.Test.YtdjlblfpkieenaaDoorEq
namespace Go.Proofs.YtdjlblfpkieenaaDoor
open Go.RowKit Go.Sort
set_option linter.unusedVariables false

theorem first4 {W : World} {g : Nat} {l : List UInt8} {a b c d : UInt8} (h : Box W g (dcells l) 26) (hl : l.take 4 = [a, b, c, d]) :
    W.cell? ⟨g, 0, none⟩ = some (bv a) ∧ W.cell? ⟨g, 1, none⟩ = some (bv b) ∧ W.cell? ⟨g, 2, none⟩ = some (bv c) ∧ W.cell? ⟨g, 3, none⟩ = some (bv d) := by
  have hk : ∀ k, k < 4 → W.cell? ⟨g, k, none⟩ = ([a, b, c, d][k]?).map bv := fun k hk => by
    rw [h.cell k, ← hl, List.getElem?_take_of_lt hk]
    simp [dcells]
  exact ⟨hk 0 (by omega), hk 1 (by omega), hk 2 (by omega), hk 3 (by omega)⟩
/-- The digest {1}. -/
def one32 : List UInt8 := 1 :: List.replicate 31 0
theorem one32_length : one32.length = 32 := rfl
def abc : Array Value := #[.int .u8 97, .int .u8 98, .int .u8 99]
theorem abc_bs (w : World) : Bs (w.alloc (.cells abc 5 (3, 4))).heap.size (w.alloc (.cells abc 5 (3, 4))) (some ⟨w.heap.size, 0, none⟩) [97, 98, 99] := fun _ => by
  refine ⟨w.heap.size, 0, rfl, by simp, fun j x hx => ?_⟩
  rw [Nat.zero_add]
  refine (World.cell?_alloc_mark w abc 5 (3, 4) j).trans ?_
  match j, hx with
  | 0, h => cases h; rfl
  | 1, h => cases h; rfl
  | 2, h => cases h; rfl

/-- What lasts through the last statement. -/
theorem s_up {w W W' : World} {g : Nat} {L : List Value} (h : W.rangeAt g 0 L ∧ Below w.heap.size w W) (hb : Below W.heap.size W W') : W'.rangeAt g 0 L ∧ Below w.heap.size w W' :=
  ⟨fun j v hv => (hb.cell (block_lt_of_cell (h.1 j v hv))).trans (h.1 j v hv), h.2.trans (hb.mono h.2.size)⟩
theorem s_alloc {w W : World} {g : Nat} {L : List Value} (h : W.rangeAt g 0 L ∧ Below w.heap.size w W) (o : Obj) : (W.alloc o).rangeAt g 0 L ∧ Below w.heap.size w (W.alloc o) :=
  s_up h ((Below.refl W.heap.size W).alloc (Nat.le_refl _) o)
theorem s_past {w W W' : World} {g : Nat} {L : List Value} (o : Obj) (h : W.rangeAt g 0 L ∧ Below w.heap.size w W) (hb : Below (W.alloc o).heap.size (W.alloc o) W') : W'.rangeAt g 0 L ∧ Below w.heap.size w W' :=
  s_up (s_alloc h o) hb
/-- A function hands back a digest, and turns nothing old. -/
def Gives (C : Array Value) (w : World) (e : Ending) (w' : World) : Prop := e = .returned (.agg C) ∧ Below w.heap.size w w'
theorem tree_box (d : List UInt8) (W : World) (g : Nat) (hK : KT W) (hd : d.length = 32) (hx : Box W g (dcells d) 26) :
    Calls Tryd.prog 17 #[.slice (some ⟨g, 0, none⟩) 1 1] W (Gives (dcells (tr [d])) W) := by
  refine (tree_leaf (some ⟨g, 0, none⟩) 1 d _ hK ⟨fun x hx => by simp at hx; rw [hx]; exact hd, fun _ => ⟨g, 0, rfl, hx.lt, fun i x hi => ?_⟩⟩).mono fun e w' h => h
  match i, hi with
  | 0, h =>
    cases h
    intro j v hv
    rw [show 0 + 0 * 32 + j = j by omega, hx.cell j]
    simpa [dcells] using hv
theorem tagged_box (tag : ByteArray) (l : List UInt8) (W : World) (g : Nat) (hK : KT W) (hx : Box W g (rowOf l) 5) (ht : tag.size ≤ 1000000) (hl : l.length ≤ 1000000) :
    Calls Tryd.prog 14 #[.string tag, .slice (some ⟨g, 0, none⟩) l.length l.length] W (Gives (dcells (tg tag.data.toList l)) W) :=
  tagged_any tag (some ⟨g, 0, none⟩) l.length l W hK ⟨Bs.of_box hx, Nat.le_refl _, le_maxLen (by omega), fun h => by cases h⟩ ht hl

attribute [local go_sem ↓] eql_dig neq_dig
attribute [local go_sem] guard_dig
set_option maxHeartbeats 1000000 in
set_option maxRecDepth 100000 in
theorem sane_any (w : World) (hK : KT w) :
    Calls Tryd.prog 11 #[] w fun e w' => e = .returned (.bool true) ∧ Below w.heap.size w w' := by
  have hb1 := (Below.refl w.heap.size w).alloc (Nat.le_refl _) (.cells abc 5 (3, 4))
  have HC1 := Lib.hid (sum_any (some ⟨w.heap.size, 0, none⟩) 3 [97, 98, 99] _ (hK.below hb1) (abc_bs w) (Nat.le_refl _) (by unfold maxLen; omega))
  have hC2 : ∀ w', Below w.heap.size w w' → Calls Tryd.prog 12 #[.slice none 0 0] w' (HashPost [] w') := fun w' hb => sum_any none 0 [] w' (hK.below hb) Bs.none_ (Nat.le_refl _) (by omega)
  have HC2 := Lib.hid hC2
  have HDA := Lib.hid (DF.of (sha_length [97, 98, 99]))
  have HDB := Lib.hid (DF.of (sha_length []))
  have kc : ∀ (w : World) (C : Array Value) (n c : Nat), (convert 22 22 (.slice (some ⟨w.heap.size, 0, none⟩) n c)).run Tryd.prog (w.alloc (.cells C 5)) = .ok (.slice (some ⟨w.heap.size, 0, none⟩) n c) (w.alloc (.cells C 5 (C.size, C.size + 1))) := fun w C n c => Lib.run_convert_bytes_const (P := Tryd.prog) w _ _ C n c Tryd.underlying22 Tryd.underlying5
  have hA4 := sha_abc
  have hB4 := sha_none
  have HB1 := Lib.hid hb1
  have HK := Lib.hid hK
  unfold HashPost at HC1 HC2
  clear hb1 hC2 hK
  generalize hSA : sha [97, 98, 99] = SA at *
  generalize hSB : sha [] = SB at *
  have HA4 := Lib.hid hA4
  have HB4 := Lib.hid hB4
  clear hA4 hB4 hSA hSB
  generalize hCA : dcells SA = CA at *
  generalize hCB : dcells SB = CB at *
  have HCA := Lib.hid hCA
  have HCB := Lib.hid hCB
  clear hCA hCB
  go_enter Tryd.func11, Tryd.ntmps11
  go_wp2_with fail
  refine HC1.out.mono ?_
  rintro e w1 ⟨rfl, hb1⟩
  have hbw1 := HB1.out.trans (hb1.mono HB1.out.size)
  clear HC1 hb1 HB1
  go_wp2_with fail
  refine (HC2.out _ hbw1).mono ?_
  rintro e w2 ⟨rfl, hb2⟩
  have hbw2 := hbw1.trans (hb2.mono hbw1.size)
  clear HC2 hb2 hbw1
  have hx1 := (Box.new w2 dz 26).alloc (.cells dz 26)
  have hx2 := Box.new (w2.alloc (.cells dz 26)) dz 26
  have hb3 := (hbw2.alloc hbw2.size (.cells dz 26)).alloc (by simp; have := hbw2.size; omega) (.cells dz 26)
  rw [World.size_alloc] at hx2
  have HX1 := Lib.hid hx1
  have HX2 := Lib.hid ((hx2.grown (setRow_grown _ w2.heap.size CA) (fun e => by injection e with e; omega)))
  have HB3 := Lib.hid hb3
  have HB2 := Lib.hid hbw2.size
  clear hx1 hx2 hb3 hbw2
  go_wp2_with (first
    | (refine wpList_store_row rfl 26 (.tmp 1) (.tmp 12) rfl w2.heap.size CA rfl rfl 26 dz HX1.out HDA.out.info HDA.out.size HDA.out.one ?_)
    | (refine wpList_store_row rfl 26 (.tmp 2) (.tmp 13) rfl (w2.heap.size + 1) CB rfl rfl 26 dz HX2.out HDB.out.info HDB.out.size HDB.out.one ?_))
  have hHB2 := HB2.out
  generalize hW : World.setRow (World.setRow _ _ CA) _ CB = W
  have hbW : Below w.heap.size w W := by
    rw [← hW]
    exact (HB3.out.trans (below_grown (setRow_grown _ _ _) HB2.out HB3.out.size)).trans (below_grown (setRow_grown _ _ _) (by omega) ((HB3.out.trans (below_grown (setRow_grown _ _ _) HB2.out HB3.out.size)).size))
  have haW : Box W w2.heap.size CA 26 := by
    rw [← hW]
    exact (Box.setRow HX1.out).grown (setRow_grown _ _ _) (fun e => by injection e with e; omega)
  have hbxW : Box W (w2.heap.size + 1) CB 26 := by rw [← hW]; exact Box.setRow HX2.out
  generalize w2.heap.size = g at *
  have hT1 := tr_length [one32]
  have HC1 := Lib.hid (fun w' (hb : Below w.heap.size w w') => climb_one one32 w' (HK.out.below hb) one32_length)
  have HDT := Lib.hid (DF.of hT1)
  obtain ⟨T1, hTT⟩ : ∃ T1, T1 = tr [one32] := ⟨_, rfl⟩
  rw [← hTT] at HC1 hT1 HDT
  have HIT := Lib.hid (IsDig.of hT1)
  obtain ⟨LT, hCT⟩ : ∃ LT, T1.map bv = LT := ⟨_, rfl⟩
  have hCT1 : dcells T1 = LT.toArray := by rw [← hCT]; rfl
  have hLL : LT.length = 32 := by rw [← hCT, List.length_map, hT1]
  rw [hCT1] at HC1 HDT HIT
  have hCT1 : dcells (tr [one32]) = LT.toArray := by rw [← hTT]; exact hCT1
  have HLL := Lib.hid hLL
  obtain ⟨CT, hCT2⟩ : ∃ CT, CT = LT.toArray := ⟨_, rfl⟩
  rw [← hCT2] at HC1 HDT HIT hCT1
  have HCT := Lib.hid hCT2
  clear hCT hCT2 hLL
  clear hTT
  have HBW := Lib.hid hbW
  have HAW := Lib.hid haW
  have HBXW := Lib.hid hbxW
  have HHB2 := Lib.hid hHB2
  have hD0 : DF dz := by rw [show dz = dcells (List.replicate 32 0) from rfl]; exact DF.of rfl
  have HD0 := Lib.hid hD0
  clear hHB2 hW HB2 HB3 HX1 HX2 hbW haW hbxW kc hT1 hD0
  refine (path_nil W).mono ?_
  rintro e w3 ⟨rfl, rfl⟩
  go_wp2_with fail
  refine (climb_no W).mono ?_
  rintro e w3 ⟨rfl, hb3⟩
  have hbw3 := HBW.out.trans (hb3.mono HBW.out.size)
  have ha3 := HAW.out.below hb3
  have hb3x := HBXW.out.below hb3
  have hx3 := Box.new w3 dz 26
  have HX3 := Lib.hid hx3
  have HA3 := Lib.hid ha3
  have HB3 := Lib.hid hb3x
  have HBW3 := Lib.hid hbw3
  clear hb3 hbw3 ha3 hb3x hx3 HBW HAW HBXW
  go_wp2_with (first
    | (refine wpList_store_row rfl 26 (.tmp 5) (.tmp 21) rfl w3.heap.size dz rfl rfl 26 dz HX3.out HD0.out.info HD0.out.size HD0.out.one ?_))
  generalize hW : World.setRow _ _ dz = W2
  have hb2 : Below w3.heap.size w3 W2 := by
    rw [← hW]
    exact ((Below.refl w3.heap.size w3).alloc (Nat.le_refl _) (.cells dz 26)).trans (below_grown (setRow_grown _ _ _) (Nat.le_refl _) (by simp))
  have hbw2 := HBW3.out.trans (hb2.mono HBW3.out.size)
  have HA2 := Lib.hid (HA3.out.below hb2)
  have HB2 := Lib.hid (HB3.out.below hb2)
  have HBW2 := Lib.hid hbw2
  generalize w3.heap.size = g3 at *
  clear hb2 hbw2 HX3 HA3 HB3 HBW3 hW
  refine (HC1.out W2 HBW2.out).mono ?_
  rintro e w4 ⟨rfl, hb4⟩
  have hbw4 := HBW2.out.trans (hb4.mono HBW2.out.size)
  have ha4 := HA2.out.below hb4
  have hb4x := HB2.out.below hb4
  have hx4 := Box.new w4 dz 26
  have HX4 := Lib.hid hx4
  have HA4W := Lib.hid ha4
  have HB4W := Lib.hid hb4x
  have HBW4 := Lib.hid hbw4
  clear hb4 hbw4 ha4 hb4x hx4 HBW2 HA2 HB2 HC1
  go_upto_region 5 with (first
    | (refine wpList_store_row rfl 26 (.tmp 7) (.tmp 26) rfl w4.heap.size CT rfl rfl 26 dz HX4.out HDT.out.info HDT.out.size HDT.out.one ?_))
  generalize hW : World.setRow _ _ CT = W5
  have hb5 : Below w4.heap.size w4 W5 := by
    rw [← hW]
    exact ((Below.refl w4.heap.size w4).alloc (Nat.le_refl _) (.cells dz 26)).trans (below_grown (setRow_grown _ _ _) (Nat.le_refl _) (by simp))
  have hx5 : Box W5 w4.heap.size CT 26 := by rw [← hW]; exact Box.setRow HX4.out
  have ha5 := HA4W.out.below hb5
  have hbx5 := HB4W.out.below hb5
  have HBW5 := Lib.hid (HBW4.out.trans (hb5.mono HBW4.out.size))
  rw [← HCA.out] at ha5
  rw [← HCB.out] at hbx5
  obtain ⟨p0, p1, p2, p3⟩ := first4 ha5 HA4.out
  obtain ⟨q0, q1, q2, q3⟩ := first4 hbx5 HB4.out
  have a0 : W5.cell? ⟨g, 0, none⟩ = some (.int .u8 186) := p0
  have a1 : W5.cell? ⟨g, 1, none⟩ = some (.int .u8 120) := p1
  have a2 : W5.cell? ⟨g, 2, none⟩ = some (.int .u8 22) := p2
  have a3 : W5.cell? ⟨g, 3, none⟩ = some (.int .u8 191) := p3
  have b0 : W5.cell? ⟨g + 1, 0, none⟩ = some (.int .u8 227) := q0
  have b1 : W5.cell? ⟨g + 1, 1, none⟩ = some (.int .u8 176) := q1
  have b2 : W5.cell? ⟨g + 1, 2, none⟩ = some (.int .u8 196) := q2
  have b3 : W5.cell? ⟨g + 1, 3, none⟩ = some (.int .u8 66) := q3
  generalize w4.heap.size = g4 at *
  have HX5 := Lib.hid hx5
  clear p0 p1 p2 p3 q0 q1 q2 q3 hx5 hb5 ha5 hbx5 hW HX4 HA4W HB4W HBW4 HA4 HB4 HCA HCB HDA HDB
  go_upto_region 6 with (fail)
  have hKW : ∀ w', Below w.heap.size w w' → KT w' := fun w' hb => HK.out.below hb
  have hb51 : Below W5.heap.size W5 ((W5.alloc (.cells #[.int .u8 1, .int .u8 0, .int .u8 0, .int .u8 0, .int .u8 0, .int .u8 0, .int .u8 0, .int .u8 0, .int .u8 0, .int .u8 0, .int .u8 0, .int .u8 0, .int .u8 0, .int .u8 0, .int .u8 0, .int .u8 0, .int .u8 0, .int .u8 0, .int .u8 0, .int .u8 0, .int .u8 0, .int .u8 0, .int .u8 0, .int .u8 0, .int .u8 0, .int .u8 0, .int .u8 0, .int .u8 0, .int .u8 0, .int .u8 0, .int .u8 0, .int .u8 0] 26)).drew) := ((Below.refl W5.heap.size W5).alloc (Nat.le_refl _) _).drew
  have hTR : Calls Tryd.prog 17 #[.slice (some ⟨W5.heap.size, 0, none⟩) 1 1] ((W5.alloc (.cells #[.int .u8 1, .int .u8 0, .int .u8 0, .int .u8 0, .int .u8 0, .int .u8 0, .int .u8 0, .int .u8 0, .int .u8 0, .int .u8 0, .int .u8 0, .int .u8 0, .int .u8 0, .int .u8 0, .int .u8 0, .int .u8 0, .int .u8 0, .int .u8 0, .int .u8 0, .int .u8 0, .int .u8 0, .int .u8 0, .int .u8 0, .int .u8 0, .int .u8 0, .int .u8 0, .int .u8 0, .int .u8 0, .int .u8 0, .int .u8 0, .int .u8 0, .int .u8 0] 26)).drew) (Gives CT ((W5.alloc (.cells #[.int .u8 1, .int .u8 0, .int .u8 0, .int .u8 0, .int .u8 0, .int .u8 0, .int .u8 0, .int .u8 0, .int .u8 0, .int .u8 0, .int .u8 0, .int .u8 0, .int .u8 0, .int .u8 0, .int .u8 0, .int .u8 0, .int .u8 0, .int .u8 0, .int .u8 0, .int .u8 0, .int .u8 0, .int .u8 0, .int .u8 0, .int .u8 0, .int .u8 0, .int .u8 0, .int .u8 0, .int .u8 0, .int .u8 0, .int .u8 0, .int .u8 0, .int .u8 0] 26)).drew)) := by
    have := tree_box one32 ((W5.alloc (.cells (dcells one32) 26)).drew) W5.heap.size ((hKW _ HBW5.out).below hb51) one32_length (Box.new W5 _ _).drew
    rw [hCT1] at this
    exact this
  obtain ⟨CE, hCE⟩ : ∃ CE, CE = dcells (tr []) := ⟨_, rfl⟩
  have hTN : ∀ w', Below w.heap.size w w' → Calls Tryd.prog 17 #[.slice none 0 0] w' (Gives CE w') := fun w' hb => by
    rw [hCE]
    exact tree_none none 0 w' (hKW w' hb)
  have hTE : ∀ w', Below w.heap.size w w' → Calls Tryd.prog 14 #[.string ⟨#[101, 109, 112, 116, 121]⟩, .slice none 0 0] w' (Gives CE w') := fun w' hb => by
    rw [hCE, tr_zero]
    exact tagged_any ⟨#[101, 109, 112, 116, 121]⟩ none 0 [] w' (hKW w' hb) ⟨Bs.none_, by simp, by unfold maxLen; omega, fun _ => ⟨rfl, rfl⟩⟩ (by decide) (by simp)
  obtain ⟨CC, hCC⟩ : ∃ CC, CC = dcells (tg [99, 104, 97, 105, 110] (List.replicate 64 0)) := ⟨_, rfl⟩
  have hCH : ∀ w', Below w.heap.size w w' → Calls Tryd.prog 25 #[.agg dz, .agg dz] w' (Gives CC w') := fun w' hb => by
    rw [hCC]
    exact chain_any (List.replicate 32 0) (List.replicate 32 0) w' (hKW w' hb) rfl rfl
  have hTC : ∀ w' g, Below w.heap.size w w' → Box w' g (zrow 64) 5 → Calls Tryd.prog 14 #[.string ⟨#[99, 104, 97, 105, 110]⟩, .slice (some ⟨g, 0, none⟩) 64 64] w' (Gives CC w') := fun w' g hb hx => by
    rw [hCC]
    exact tagged_box ⟨#[99, 104, 97, 105, 110]⟩ (List.replicate 64 0) w' g (hKW w' hb) hx (by decide) (by decide)
  have iE : IsDig CE := by rw [hCE]; exact IsDig.of (tr_length _)
  have iC : IsDig CC := by rw [hCC]; exact IsDig.of (tg_length _ _)
  have hmk : ∀ w : World, (Instr.makeSlice 22 (.int .i64 64) (.int .i64 64)).run Tryd.prog w = .ok (.slice (some ⟨w.heap.size, 0, none⟩) 64 64) (w.alloc (.cells (zrow 64) 5)) := fun w => make_any 64 w (by omega)
  obtain rfl := HCT.out
  have iT : IsDig LT.toArray := HIT.out
  have h5 : W5.rangeAt g4 0 LT ∧ Below w.heap.size w W5 := by
    refine ⟨fun j v hv => ?_, HBW5.out⟩
    rw [Nat.zero_add, HX5.out.cell j]
    simpa using hv
  have h50 := s_up h5 ((Below.refl W5.heap.size W5).drew)
  have h51 := s_up h5 hb51
  have H51 := Lib.hid h51
  have hu26 := Tryd.underlying26
  have hi26 : (Tryd.prog.info? 26).map (·.size) = some LT.length := by rw [HLL.out]; kernel_rfl
  have HTR := Lib.hid hTR
  have HTN := Lib.hid hTN
  have HTE := Lib.hid hTE
  have HCH := Lib.hid hCH
  have HTC := Lib.hid hTC
  have H50 := Lib.hid h50
  clear hKW hTR hTN hTE hCH hTC h5 h50 h51 hb51 hCE hCC HIT HCT HLL HX5 HBW5 HK HDT HHB2 HD0 a0 a1 a2 a3 b0 b1 b2 b3 hCT1
  go_region_held3 (fun w' => w'.rangeAt g4 0 LT ∧ Below w.heap.size w w')
    (first | exact H50.out | exact H51.out | exact H6.out | exact H7.out | exact H8.out | exact s_alloc H8.out _ | exact H9.out | exact s_alloc H9.out _ | exact H10.out | go_keep)
    (first
      | (go_at_call 17; first
          | ((with_reducible refine HTR.out.mono ?_); rintro e w6 ⟨rfl, hb6⟩; have H6 := Lib.hid (s_up H51.out hb6); clear hb6)
          | ((with_reducible refine (HTN.out _ H6.out.2).mono ?_); rintro e w7 ⟨rfl, hb7⟩; have H7 := Lib.hid (s_up H6.out hb7); clear hb7))
      | (go_at_call 25; first
          | (refine (HCH.out _ H8.out.2).mono ?_; rintro e w9 ⟨rfl, hb9⟩; have H9 := Lib.hid (s_up H8.out hb9); clear hb9)
          | (refine (HCH.out _ (s_alloc H8.out _).2).mono ?_; rintro e w9 ⟨rfl, hb9⟩; have H9 := Lib.hid (s_past _ H8.out hb9); have HZ9 := Lib.hid ((Box.new w8 (zrow 64) 5).below hb9); clear hb9))
      | (go_at_call 14; first
          | ((with_reducible refine (HTE.out _ H7.out.2).mono ?_); rintro e w8 ⟨rfl, hb8⟩; have H8 := Lib.hid (s_up H7.out hb8); clear hb8)
          | ((with_reducible refine (HTC.out _ _ H9.out.2 HZ9.out).mono ?_); rintro e w10 ⟨rfl, hb10⟩; have H10 := Lib.hid (s_up H9.out hb10); clear hb10)
          | ((with_reducible refine (HTC.out _ _ (s_alloc H9.out _).2 (Box.new w9 (zrow 64) 5)).mono ?_); rintro e w10 ⟨rfl, hb10⟩; have H10 := Lib.hid (s_past _ H9.out hb10); clear hb10)))
  all_goals
    go_wp2_with fail
    go_ret
    exact ⟨rfl, H10.out.2⟩
end Go.Proofs.YtdjlblfpkieenaaDoor
