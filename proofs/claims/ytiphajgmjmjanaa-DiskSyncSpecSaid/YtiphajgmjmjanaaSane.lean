/- The law's examples. -/
import Derived.Test.YtiphajgmjmjanaaRd
import Derived.Test.YtiphajgmjmjanaaKeep
import Derived.Test.YtiphajgmjmjanaaSy
import Derived.Test.YtiphajgmjmjanaaNw
import Derived.Test.YtiphajgmjmjanaaFew
import Derived.Deep.Cut
import Derived.Test.YtiphajgmjmjanaaFld
namespace Go.Proofs.Ytiphajgmjmjanaa
open Go.RowKit
set_option linter.unusedVariables false

def z129 : List UInt8 := List.replicate 129 0
set_option maxRecDepth 100000 in
theorem sane_plain : ∃ (D2 W1 S1 S2 X1 : Dk) (b one non lost : List UInt8), (nwe 0 = 1 ∧ nw 0 = dk0) ∧ (nwe 2 = 0 ∧ nw 2 = D2) ∧ (wre D2 1 [7] = 0 ∧ wr D2 1 [7] = W1) ∧ (rde W1 1 = 0 ∧ rd W1 1 = b) ∧ (rde D2 2 = 70 ∧ rd D2 2 = []) ∧ (wre D2 0 z129 = 1 ∧ wr D2 0 z129 = dk0) ∧
    (ste W1 1 = 0 ∧ st W1 1 = S1) ∧ (wre S1 0 (dbl 8 8) = 0 ∧ wr S1 0 (dbl 8 8) = S2) ∧ (sye S2 = 70 ∧ sy S2 = X1 ∧ X1.stop = true) ∧ (rde (rs X1) 1 = 0 ∧ rd (rs X1) 1 = one) ∧ (rde (rs X1) 0 = 0 ∧ rd (rs X1) 0 = non) ∧ (rde (rs W1) 1 = 0 ∧ rd (rs W1) 1 = lost) ∧
    (b.length = 128 ∧ b[0]? = some 7) ∧ (one.length = 128 ∧ one[0]? = some 7) ∧ (non.length = 128 ∧ non[0]? = some 8 ∧ non[64]? = some 0) ∧ (lost.length = 128 ∧ lost[0]? = some 0) ∧ vld S2 = true ∧ vld X1 = true :=
  ⟨_, _, _, _, _, _, _, _, _, ⟨by decide +kernel, rfl⟩, ⟨by decide +kernel, rfl⟩, ⟨by decide +kernel, rfl⟩, ⟨by decide +kernel, rfl⟩, ⟨by decide +kernel, by decide +kernel⟩, ⟨by decide +kernel, by unfold wr; rw [if_neg (by decide +kernel)]⟩, ⟨by decide +kernel, rfl⟩, ⟨by decide +kernel, rfl⟩, ⟨by decide +kernel, rfl, by decide +kernel⟩, ⟨by decide +kernel, rfl⟩, ⟨by decide +kernel, rfl⟩, ⟨by decide +kernel, rfl⟩,
    ⟨by decide +kernel, by decide +kernel⟩, ⟨by decide +kernel, by decide +kernel⟩, ⟨by decide +kernel, by decide +kernel, by decide +kernel⟩, ⟨by decide +kernel, by decide +kernel⟩, by decide +kernel, by decide +kernel⟩

/-- A disk that has come is put into a box. -/
theorem dk_put {w : World} {d : Dk} {A B : Option Addr} {c k : Nat} (i : DkIn w d A c B k) :
    DBox (w.alloc (.cells #[.slice A d.secs.length c, .slice B d.pend.length k, .int .i64 d.left, .bool d.stop] 25)) w.heap.size d A c B k ∧
    DkIn (w.alloc (.cells #[.slice A d.secs.length c, .slice B d.pend.length k, .int .i64 d.left, .bool d.stop] 25)) d A c B k ∧
    Below w.heap.size w (w.alloc (.cells #[.slice A d.secs.length c, .slice B d.pend.length k, .int .i64 d.left, .bool d.stop] 25)) :=
  have hb := (Below.refl w.heap.size w).alloc (Nat.le_refl _) (.cells #[.slice A d.secs.length c, .slice B d.pend.length k, .int .i64 d.left, .bool d.stop] 25)
  ⟨Box.new w _ _, i.up hb, hb⟩

set_option maxHeartbeats 4000000 in
set_option maxRecDepth 100000 in
theorem sane_any (w : World) : Calls Try.prog 10 #[] w fun e w' => e = .returned (.bool true) ∧ Below w.heap.size w w' := by
  obtain ⟨D2, W1, S1, S2, X1, b, one, non, lost, ⟨p1, p1'⟩, ⟨p2, p2'⟩, ⟨p3, p3'⟩, ⟨p4, p4'⟩, ⟨p5, p5'⟩, ⟨p6, p6'⟩, ⟨p7, p7'⟩, ⟨p8, p8'⟩, ⟨p9, p9', p9s⟩, ⟨p10, p10'⟩, ⟨p11, p11'⟩, ⟨p12, p12'⟩, ⟨l1, g1⟩, ⟨l2, g2⟩, ⟨l3, g3, g3'⟩, ⟨l4, g4⟩, vS2, vX1⟩ := sane_plain
  have H1 := Lib.hid (fun W => p1' ▸ p1 ▸ new_any 0 W)
  have H2 := Lib.hid (fun W => p2' ▸ p2 ▸ new_any 2 W)
  have H3 := Lib.hid (fun W A c B k D kd (h : DkIn W D2 A c B k) (hD : Sl W D [7] kd) => p3' ▸ p3 ▸ write_any D2 A B D c k kd 1 [7] W h hD)
  have H4 := Lib.hid (fun W A c B k (h : DkIn W W1 A c B k) => p4' ▸ p4 ▸ read_any W1 A B c k 1 W h)
  have H5 := Lib.hid (fun W A c B k (h : DkIn W D2 A c B k) => p5' ▸ p5 ▸ read_any D2 A B c k 2 W h)
  have H6 := Lib.hid (fun W A c B k D kd (h : DkIn W D2 A c B k) (hD : Sl W D z129 kd) => p6' ▸ p6 ▸ write_any D2 A B D c k kd 0 z129 W h hD)
  have H7 := Lib.hid (fun W A c B k (h : DkIn W W1 A c B k) => p7' ▸ p7 ▸ stop_any W1 A B c k 1 W h)
  have H8 := Lib.hid (fun W A c B k D kd (h : DkIn W S1 A c B k) (hD : Sl W D (dbl 8 8) kd) => p8' ▸ p8 ▸ write_any S1 A B D c k kd 0 (dbl 8 8) W h hD)
  have H9 := Lib.hid (fun W A c B k (h : DkIn W S2 A c B k) => p9' ▸ p9 ▸ sync_any S2 A B c k W h)
  have H10 := Lib.hid (fun W A c B k (h : DkIn W (rs X1) A c B k) => p10' ▸ p10 ▸ read_any (rs X1) A B c k 1 W h)
  have H11 := Lib.hid (fun W A c B k (h : DkIn W (rs X1) A c B k) => p11' ▸ p11 ▸ read_any (rs X1) A B c k 0 W h)
  have H12 := Lib.hid (fun W A c B k (h : DkIn W (rs W1) A c B k) => p12' ▸ p12 ▸ read_any (rs W1) A B c k 1 W h)
  have HR1 := Lib.hid (fun W A c B k (h : DkIn W X1 A c B k) => show Calls Try.prog 17 #[.agg #[.slice A X1.secs.length c, .slice B X1.pend.length k, .int .i64 X1.left, .bool X1.stop]] W fun e w' => e = .returned (dkv (rs X1) A c none 0) ∧ DkIn w' (rs X1) A c none 0 ∧ Below W.heap.size W w' from restart_any X1 A B c k W h.1)
  have HR2 := Lib.hid (fun W A c B k (h : DkIn W W1 A c B k) => restart_any W1 A B c k W h.1)
  have HL := Lib.hid (And.intro l1 (And.intro l2 (And.intro l3 l4)))
  have HG := Lib.hid (And.intro g1 (And.intro g2 (And.intro g3 (And.intro g3' g4))))
  rw [p9s] at HR1
  have HX := Lib.hid p9s
  have HW := Lib.hid (And.intro (whl_vld vS2) (whl_vld vX1))
  clear vS2 vX1
  rw [show z129.length = 129 from List.length_replicate] at H6
  rw [dbl_length] at H8
  have HCK := Lib.hid (fun W => show Calls Try.prog 15 #[.agg #[.slice none 0 0, .slice none 0 0, .int .i64 0, .bool false]] W fun e w' => e = .returned (.int .i64 70) ∧ Below W.heap.size W w' from check_any dk0 none none 0 0 W (DkIn.zero W))
  have HRZ := Lib.hid (fun W => show Calls Try.prog 17 #[.agg #[.slice none 0 0, .slice none 0 0, .int .i64 0, .bool false]] W fun e w' => e = .returned (.agg #[.slice none 0 0, .slice none 0 0, .int .i64 (-1), .bool false]) ∧ DkIn w' (rs dk0) none 0 none 0 ∧ Below W.heap.size W w' from restart_any dk0 none none 0 0 W (RR.nil W))
  unfold DkPost dkv dkc at *
  unfold RdPost at *
  rw [l1] at H4
  rw [l2] at H10
  rw [l3] at H11
  rw [l4] at H12
  clear p1 p1' p2 p2' p3 p3' p4 p4' p5 p5' p6 p6' p7 p7' p8 p8' p9 p9' p9s p10 p10' p11 p11' p12 p12' l1 l2 l3 l4 g1 g2 g3 g3' g4
  go_enter Try.func10, Try.ntmps10
  go_wp2_with fail
  refine (H1.out w).mono ?_
  rintro e w1 ⟨A1, c1, B1, k1, rfl, i1, hb1⟩
  go_wp2_with fail
  have HB1 := Lib.hid (hb1.trans (((Below.refl _ w1).alloc (Nat.le_refl _) (.cells #[.slice A1 dk0.secs.length c1, .slice B1 dk0.pend.length k1, .int .i64 dk0.left, .bool dk0.stop] 25)).mono hb1.size))
  generalize w1.alloc _ = u1 at *
  clear i1 hb1
  refine (H2.out u1).mono ?_
  rintro e w2 ⟨A2, c2, B2, k2, rfl, i2, hb2⟩
  have hx2 := (dk_put i2).1
  have hx2b : DBox _ w2.heap.size D2 A2 c2 B2 k2 := Box.alloc hx2 (.cells #[.int .u8 7] 5)
  have hs2 := sl_lit (w2.alloc (.cells #[.slice A2 D2.secs.length c2, .slice B2 D2.pend.length k2, .int .i64 D2.left, .bool D2.stop] 25)) [7] 1 rfl (by omega) #[.int .u8 7] rfl
  rw [World.size_alloc] at hs2
  have hb2b := alloc2_below w2 (.cells #[.slice A2 D2.secs.length c2, .slice B2 D2.pend.length k2, .int .i64 D2.left, .bool D2.stop] 25) (.cells #[.int .u8 7] 5)
  have K2 := Lib.hid (And.intro hx2b (And.intro hs2 (And.intro (i2.up hb2b) (bthen (bthen HB1.out hb2) hb2b))))
  clear hx2 hx2b hs2 hb2b i2 hb2
  go_wp2_with fail
  generalize World.alloc (w2.alloc _) _ = u2 at *
  refine (H3.out u2 A2 c2 B2 k2 _ 1 K2.out.2.2.1 K2.out.2.1).mono ?_
  rintro e w3 ⟨A3, c3, B3, k3, rfl, i3, hb3⟩
  obtain ⟨hx3, hi3, hb3c⟩ := dk_put i3
  have hb3b := bthen hb3 hb3c
  have K3 := Lib.hid (And.intro hx3 (And.intro hi3 (And.intro (DBox.up K2.out.1 hb3b) (And.intro (K2.out.2.2.1.up hb3b) (bthen K2.out.2.2.2 hb3b)))))
  have hz32 : w2.heap.size < w3.heap.size := Nat.lt_of_lt_of_le (Box.lt K2.out.1) hb3.size
  clear hx3 hi3 hb3c hb3b i3 hb3 K2
  go_wp2_with fail
  generalize w3.alloc _ = u3 at *
  refine (H4.out u3 A3 c3 B3 k3 K3.out.2.1).mono ?_
  rintro e w4 ⟨A4, c4, rfl, i4, hb4⟩
  have K4 := Lib.hid (And.intro i4 (And.intro (DBox.up K3.out.1 hb4) (And.intro (K3.out.2.1.up hb4) (And.intro (DBox.up K3.out.2.2.1 hb4) (And.intro (K3.out.2.2.2.1.up hb4) (bthen K3.out.2.2.2.2 hb4))))))
  have hz34 : w3.heap.size < w4.heap.size := Nat.lt_of_lt_of_le (Box.lt K3.out.1) hb4.size
  clear i4 hb4
  obtain ⟨q0, q1, q2, q3⟩ := DBox.cells K4.out.2.2.2.1
  go_wp2_with fail
  refine (H5.out w4 A2 c2 B2 k2 K4.out.2.2.2.2.1).mono ?_
  rintro e w5 ⟨A5, c5, rfl, _, hb5⟩
  have K5 := Lib.hid (And.intro (K4.out.1.up hb5) (And.intro (DBox.up K4.out.2.1 hb5) (And.intro (K4.out.2.2.1.up hb5) (And.intro (DBox.up K4.out.2.2.2.1 hb5) (And.intro (K4.out.2.2.2.2.1.up hb5) (bthen K4.out.2.2.2.2.2 hb5))))))
  clear q0 q1 q2 q3 hb5 K3
  have hmk : ∀ w : World, (Instr.makeSlice 35 (.int .i64 129) (.int .i64 129)).run Try.prog w = .ok (.slice (some ⟨w.heap.size, 0, none⟩) 129 129) (w.alloc (.cells (zrow 129) 5)) := fun w => make_any 129 w (by omega)
  have HK := Lib.hid (fun W (hb : Below w5.heap.size w5 W) => (DBox.up K5.out.2.2.2.1 hb).cells)
  have ba := (Below.refl w5.heap.size w5).alloc (Nat.le_refl _) (.cells (zrow 129) 5)
  have bb := (Below.refl w5.heap.size w5).alloc (Nat.le_refl _) (.cells #[.slice none 0 0, .slice none 0 0, .int .i64 0, .bool false] 25)
  have bab := ba.alloc (by simp) (.cells #[.slice none 0 0, .slice none 0 0, .int .i64 0, .bool false] 25)
  have bba := bb.alloc (by simp) (.cells (zrow 129) 5)
  have za := sl_box (Box.new w5 (zrow 129) 5) (show z129.length = 129 from List.length_replicate) (by omega)
  have zab := za.up ((Below.refl _ (w5.alloc (.cells (zrow 129) 5))).alloc (Nat.le_refl _) (.cells #[.slice none 0 0, .slice none 0 0, .int .i64 0, .bool false] 25))
  have zba := sl_box (Box.new (w5.alloc (.cells #[.slice none 0 0, .slice none 0 0, .int .i64 0, .bool false] 25)) (zrow 129) 5) (show z129.length = 129 from List.length_replicate) (by omega)
  have xb := Box.new w5 #[.slice none 0 0, .slice none 0 0, .int .i64 0, .bool false] 25
  have xba := xb.alloc (.cells (zrow 129) 5)
  have xab := Box.new (w5.alloc (.cells (zrow 129) 5)) #[.slice none 0 0, .slice none 0 0, .int .i64 0, .bool false] 25
  rw [World.size_alloc] at zba xab
  have H6A := Lib.hid (H6.out (w5.alloc (.cells (zrow 129) 5)).drew A2 c2 B2 k2 (some ⟨w5.heap.size, 0, none⟩) 129 (K5.out.2.2.2.2.1.up ba.drew) za)
  have H6AB := Lib.hid (H6.out ((w5.alloc (.cells (zrow 129) 5)).alloc (.cells #[.slice none 0 0, .slice none 0 0, .int .i64 0, .bool false] 25)).drew A2 c2 B2 k2 (some ⟨w5.heap.size, 0, none⟩) 129 (K5.out.2.2.2.2.1.up bab.drew) zab)
  have H6BA := Lib.hid (H6.out ((w5.alloc (.cells #[.slice none 0 0, .slice none 0 0, .int .i64 0, .bool false] 25)).alloc (.cells (zrow 129) 5)).drew A2 c2 B2 k2 (some ⟨w5.heap.size + 1, 0, none⟩) 129 (K5.out.2.2.2.2.1.up bba.drew) zba)
  have XBA := Lib.hid (Box.drew xba)
  have XAB := Lib.hid (Box.drew xab)
  have Ba := Lib.hid ba.drew
  have Bb := Lib.hid bb.drew
  have Bab := Lib.hid bab.drew
  have Bba := Lib.hid bba.drew
  clear ba bb bab bba za zab zba xb xba xab
  go_upto_region 6 with (fail)
  go_cut [11, 12] from 24 (fun x e W7 => (∃ p, x = .pointer (some p)) ∧ e = .int .i64 1 ∧ Below w5.heap.size w5 W7)
  case first =>
    go_region_held3 (fun w' => w'.cell? ⟨w2.heap.size, 0, none⟩ = some (.slice A2 D2.secs.length c2) ∧ w'.cell? ⟨w2.heap.size, 1, none⟩ = some (.slice B2 D2.pend.length k2) ∧ w'.cell? ⟨w2.heap.size, 2, none⟩ = some (.int .i64 D2.left) ∧ w'.cell? ⟨w2.heap.size, 3, none⟩ = some (.bool D2.stop))
      (with_reducible first | exact HK.out _ (Below.refl w5.heap.size w5).drew | exact HK.out _ Ba.out | exact HK.out _ Bb.out | exact HK.out _ Bab.out | exact HK.out _ Bba.out | exact HK.out _ B6.out | exact HK.out _ (B6.out.alloc B6.out.size _) | exact HK.out _ ((((B6.out.setCell (Nat.le_refl _) _).setCell (Nat.le_refl _) _).setCell (Nat.le_refl _) _).setCell (Nat.le_refl _) _) | exact HK.out _ ((((B6.out.setCell (Nat.le_succ _) _).setCell (Nat.le_succ _) _).setCell (Nat.le_succ _) _).setCell (Nat.le_succ _) _) | go_keep)
      (first
        | (go_at_call 19; (with_reducible refine H6A.out.mono ?_); rintro e w6 ⟨A6, c6, B6a, k6, rfl, _, hb6⟩; have B6 := Lib.hid (bthen (a := w5) Ba.out hb6); clear hb6)
        | (go_at_call 19; (with_reducible refine H6AB.out.mono ?_); rintro e w6 ⟨A6, c6, B6a, k6, rfl, _, hb6⟩; have B6 := Lib.hid (bthen (a := w5) Bab.out hb6); have x6 := Box.below XAB.out hb6; have y0 := x6.cell 0; have y1 := x6.cell 1; have y2 := x6.cell 2; have y3 := x6.cell 3; have g0 := x6.frozen 0; have g1 := x6.frozen 1; have g2 := x6.frozen 2; have g3 := x6.frozen 3; clear hb6)
        | (go_at_call 19; (with_reducible refine H6BA.out.mono ?_); rintro e w6 ⟨A6, c6, B6a, k6, rfl, _, hb6⟩; have B6 := Lib.hid (bthen (a := w5) Bba.out hb6); have x6 := Box.below XBA.out hb6; have y0 := x6.cell 0; have y1 := x6.cell 1; have y2 := x6.cell 2; have y3 := x6.cell 3; have g0 := x6.frozen 0; have g1 := x6.frozen 1; have g2 := x6.frozen 2; have g3 := x6.frozen 3; clear hb6)
        | fail)
    all_goals
      first
        | (with_reducible change Exit.then _ _ Exit.normal _ (w6.alloc _)
           have B7 := Lib.hid (B6.out.alloc B6.out.size (.cells #[.slice A6 dk0.secs.length c6, .slice B6a dk0.pend.length k6, .int .i64 dk0.left, .bool dk0.stop] 25))
           generalize w6.alloc _ = W7 at B7 ⊢)
        | (with_reducible change Exit.then _ _ Exit.normal _ (World.setCell _ ⟨w5.heap.size + 1, 3, none⟩ _)
           have B7 := Lib.hid ((((B6.out.setCell (p := ⟨w5.heap.size + 1, 0, none⟩) (Nat.le_succ _) (.slice A6 dk0.secs.length c6)).setCell (p := ⟨w5.heap.size + 1, 1, none⟩) (Nat.le_succ _) (.slice B6a dk0.pend.length k6)).setCell (p := ⟨w5.heap.size + 1, 2, none⟩) (Nat.le_succ _) (.int .i64 dk0.left)).setCell (p := ⟨w5.heap.size + 1, 3, none⟩) (Nat.le_succ _) (.bool dk0.stop))
           generalize World.setCell _ ⟨w5.heap.size + 1, 3, none⟩ _ = W7 at B7 ⊢)
        | (with_reducible change Exit.then _ _ Exit.normal _ (World.setCell _ ⟨w5.heap.size, 3, none⟩ _)
           have B7 := Lib.hid ((((B6.out.setCell (p := ⟨w5.heap.size, 0, none⟩) (Nat.le_refl _) (.slice A6 dk0.secs.length c6)).setCell (p := ⟨w5.heap.size, 1, none⟩) (Nat.le_refl _) (.slice B6a dk0.pend.length k6)).setCell (p := ⟨w5.heap.size, 2, none⟩) (Nat.le_refl _) (.int .i64 dk0.left)).setCell (p := ⟨w5.heap.size, 3, none⟩) (Nat.le_refl _) (.bool dk0.stop))
           generalize World.setCell _ ⟨w5.heap.size, 3, none⟩ _ = W7 at B7 ⊢)
    all_goals
      go_wp2_with fail
      go_meet
      case rel => exact ⟨⟨_, rfl⟩, rfl, B7.out⟩
  case rest =>
    clear Ba Bb Bab Bba XBA XAB H6A H6AB H6BA HK hmk K4 H6 H5
    obtain ⟨⟨p11, rfl⟩, rfl, hbc⟩ := hcut
    have K7 := Lib.hid (And.intro (K5.out.1.up hbc) (And.intro (DBox.up K5.out.2.1 hbc) (And.intro (K5.out.2.2.1.up hbc) (bthen K5.out.2.2.2.2.2 hbc))))
    have hz37 : w3.heap.size < wc.heap.size := Box.lt K7.out.2.1
    clear hbc K5
    obtain ⟨q0, q1, q2, q3⟩ := DBox.cells K7.out.2.1
    go_wp2_with fail
    refine (H7.out wc A3 c3 B3 k3 K7.out.2.2.1).mono ?_
    rintro e w8 ⟨A8, c8, B8, k8, rfl, i8, hb8⟩
    obtain ⟨hx8, hi8, hb8c⟩ := dk_put i8
    have hb8b := bthen hb8 hb8c
    have L8 := Lib.hid (And.intro (K7.out.1.up hb8) (And.intro (DBox.up K7.out.2.1 hb8) (And.intro (K7.out.2.2.1.up hb8) (bthen K7.out.2.2.2 hb8))))
    have K8 := Lib.hid (And.intro (K7.out.1.up hb8b) (And.intro (DBox.up K7.out.2.1 hb8b) (And.intro (K7.out.2.2.1.up hb8b) (And.intro hx8 (And.intro hi8 (bthen K7.out.2.2.2 hb8b))))))
    have hz38 : w3.heap.size < w8.heap.size := Nat.lt_of_lt_of_le hz37 hb8.size
    have hb8d := Lib.hid hb8c
    clear hx8 hi8 hb8c hb8b i8 hb8 q0 q1 q2 q3 K7 hz37
    go_upto_region 8 with (fail)
    generalize w8.alloc _ = u8 at *
    go_cut [15] from 24 (fun e W' => e = .int .i64 0 ∧ Below w8.heap.size u8 W' ∧ ∃ A9 c9 B9 k9, Box W' w8.heap.size #[.slice A9 S2.secs.length c9, .slice B9 S2.pend.length k9, .int .i64 S2.left, .bool S2.stop] 25 ∧ DkIn W' S2 A9 c9 B9 k9)
    case first =>
      have HBX := Lib.hid (fun V (hb : Below u8.heap.size u8 V) => DBox.up K8.out.2.2.2.1 hb)
      have HDB := Lib.hid (fun V => show Calls Try.prog 27 #[.int .u8 8] V fun e w' => e = .returned (.slice (some ⟨V.heap.size, 0, none⟩) 128 128) ∧ Box w' V.heap.size (rowOf (dbl 8 8)) 5 ∧ Below V.heap.size V w' from double_any 8 V)
      have HDI := Lib.hid (fun V (hb : Below u8.heap.size u8 V) => K8.out.2.2.2.2.1.up hb)
      have q := (HBX.out u8.drew (Below.refl u8.heap.size u8).drew).cells
      obtain ⟨q0, q1, q2, q3⟩ := q
      go_region_with (first
        | (go_at_call 27; (with_reducible refine (HDB.out _).mono ?_); rintro e w9 ⟨rfl, hx9, hb9⟩; have B9 := Lib.hid ((Below.refl u8.heap.size u8).drew.trans hb9); obtain ⟨s0, s1, s2, s3⟩ := (HBX.out w9 B9.out).cells; have S9 := Lib.hid (show Sl w9 (some ⟨u8.heap.size, 0, none⟩) (dbl 8 8) 128 from sl_box hx9 (dbl_length _ _) (by omega)); clear hx9 hb9)
        | (go_at_call 19; (with_reducible refine (H8.out w9 A8 c8 B8 k8 (some ⟨u8.heap.size, 0, none⟩) 128 (HDI.out w9 B9.out) S9.out).mono ?_); rintro e w10 ⟨A9, c9, B9a, k9, rfl, i9, hb10⟩; have B10 := Lib.hid (bthen B9.out hb10); have hxv := HBX.out w10 B10.out; obtain ⟨t0, t1, t2, t3⟩ := DBox.cells hxv; have g0 := Box.frozen hxv 0; have g1 := Box.frozen hxv 1; have g2 := Box.frozen hxv 2; have g3 := Box.frozen hxv 3; have I9 := Lib.hid (And.intro i9 hxv); clear i9 hb10 hxv))
      all_goals
        go_wp2_with fail
        go_meet
        case rel => exact ⟨rfl, (B10.out.mono hb8d.out.size).trans (dk_store I9.out.1 HW.out.1 I9.out.2 (HDI.out w10 B10.out) (Nat.le_refl _)).2.2, _, _, _, _, (dk_store I9.out.1 HW.out.1 I9.out.2 (HDI.out w10 B10.out) (Nat.le_refl _)).1, (dk_store I9.out.1 HW.out.1 I9.out.2 (HDI.out w10 B10.out) (Nat.le_refl _)).2.1⟩
    case rest =>
      obtain ⟨rfl, hbc, A9, c9, B9, k9, hx9, hi9⟩ := hcut
      have hbd := hb8d.out.trans hbc
      have K9 := Lib.hid (And.intro (L8.out.1.up hbd) (And.intro (DBox.up L8.out.2.1 hbd) (And.intro (L8.out.2.2.1.up hbd) (And.intro hi9 (bthen L8.out.2.2.2 hbd)))))
      clear K8 hb8d H7 H8
      have hz3c := Nat.lt_of_lt_of_le hz38 hbd.size
      have q0 := hx9.cell 0
      have q1 := hx9.cell 1
      have q2 := hx9.cell 2
      have q3 := hx9.cell 3
      simp only [List.getElem?_toArray, List.getElem?_cons_zero, List.getElem?_cons_succ] at q0 q1 q2 q3
      clear hx9 hi9 hbc hbd L8
      go_wp2_with fail
      refine (H9.out wc A9 c9 B9 k9 K9.out.2.2.2.1).mono ?_
      rintro e wa ⟨Aa, ca, Ba, ka, rfl, ia, hba⟩
      obtain ⟨hxa, hia, hbac⟩ := dk_put ia
      have hbab := bthen hba hbac
      have Ka := Lib.hid (And.intro (K9.out.1.up hbab) (And.intro (DBox.up K9.out.2.1 hbab) (And.intro (K9.out.2.2.1.up hbab) (And.intro hxa (And.intro hia (bthen K9.out.2.2.2.2 hbab))))))
      have hzwa : w3.heap.size < wa.heap.size := Nat.lt_of_lt_of_le hz3c hba.size
      have La := Lib.hid (And.intro (K9.out.1.up hba) (And.intro (DBox.up K9.out.2.1 hba) (And.intro (K9.out.2.2.1.up hba) (And.intro (bthen K9.out.2.2.2.2 hba) hbac))))
      clear hxa hia hbac hbab ia hba q0 q1 q2 q3 K9 H9 hz3c
      go_upto_region 10 with (fail)
      generalize wa.alloc _ = ua at *
      obtain ⟨q0, q1, q2, q3⟩ := DBox.cells Ka.out.2.2.2.1
      have f0 := Box.frozen Ka.out.2.2.2.1 0
      have f1 := Box.frozen Ka.out.2.2.2.1 1
      have f2 := Box.frozen Ka.out.2.2.2.1 2
      have f3 := Box.frozen Ka.out.2.2.2.1 3
      rw [HX.out] at q3
      go_wp2_with fail
      refine (HR1.out ua Aa ca Ba ka (by have := Ka.out.2.2.2.2.1; exact this)).mono ?_
      rintro e wb ⟨rfl, ib, hbb⟩
      have hxb := DBox.up Ka.out.2.2.2.1 hbb
      have hst := dk_store ib (whl_rs HW.out.2) hxb (Ka.out.2.2.2.2.1.up hbb) (n0 := wa.heap.size) (Nat.le_refl _)
      obtain ⟨r0, r1, r2, r3⟩ := hxb.cells
      have g0 := Box.frozen hxb 0
      have g1 := Box.frozen hxb 1
      have g2 := Box.frozen hxb 2
      have g3 := Box.frozen hxb 3
      have Hst := Lib.hid (And.intro hst.1 (And.intro hst.2.1 ((La.out.2.2.2.2.trans (hbb.mono La.out.2.2.2.2.size)).trans hst.2.2)))
      have hzb : wa.heap.size < wb.heap.size := Box.lt hxb
      clear hst hxb hbb ib q0 q1 q2 q3 f0 f1 f2 f3
      go_upto_region 13 with (fail)
      generalize World.setCell _ ⟨wa.heap.size, 3, none⟩ _ = wS at *
      have KS := Lib.hid (And.intro (La.out.1.up Hst.out.2.2) (And.intro (DBox.up La.out.2.1 Hst.out.2.2) (And.intro (La.out.2.2.1.up Hst.out.2.2) (And.intro Hst.out.1 (And.intro Hst.out.2.1 (bthen La.out.2.2.2.1 Hst.out.2.2))))))
      clear r0 r1 r2 r3 g0 g1 g2 g3 Hst La Ka HR1
      obtain ⟨q0, q1, q2, q3⟩ := KS.out.2.2.2.1.cells
      go_wp2_with fail
      refine (H10.out wS Aa ca none 0 KS.out.2.2.2.2.1).mono ?_
      rintro e wd ⟨Ad, cd, rfl, id_, hbd⟩
      have KD := Lib.hid (And.intro (KS.out.1.up hbd) (And.intro (DBox.up KS.out.2.1 hbd) (And.intro (KS.out.2.2.1.up hbd) (And.intro (DBox.up KS.out.2.2.2.1 hbd) (And.intro (KS.out.2.2.2.2.1.up hbd) (And.intro (bthen KS.out.2.2.2.2.2 hbd) id_))))))
      clear q0 q1 q2 q3 id_ hbd KS
      obtain ⟨q0, q1, q2, q3⟩ := KD.out.2.2.2.1.cells
      go_wp2_with fail
      refine (H11.out wd Aa ca none 0 KD.out.2.2.2.2.1).mono ?_
      rintro e wf ⟨Af, cf, rfl, if_, hbf⟩
      have KF := Lib.hid (And.intro (KD.out.1.up hbf) (And.intro (DBox.up KD.out.2.1 hbf) (And.intro (KD.out.2.2.1.up hbf) (And.intro (bthen KD.out.2.2.2.2.2.1 hbf) (And.intro (KD.out.2.2.2.2.2.2.up hbf) if_)))))
      clear q0 q1 q2 q3 if_ hbf KD
      obtain ⟨q0, q1, q2, q3⟩ := KF.out.2.1.cells
      go_wp2_with fail
      refine (HR2.out wf A3 c3 B3 k3 KF.out.2.2.1).mono ?_
      rintro e wg ⟨rfl, ig, hbg⟩
      have KG := Lib.hid (And.intro (KF.out.1.up hbg) (And.intro ig (And.intro (bthen KF.out.2.2.2.1 hbg) (And.intro (KF.out.2.2.2.2.1.up hbg) (KF.out.2.2.2.2.2.up hbg)))))
      clear q0 q1 q2 q3 ig hbg KF
      go_wp2_with fail
      refine (H12.out wg A3 c3 none 0 KG.out.2.1).mono ?_
      rintro e wh ⟨Ah, ch, rfl, ih, hbh⟩
      have hbw := Lib.hid (bthen KG.out.2.2.1 hbh)
      obtain ⟨xb, ob, rfl, _, hcb⟩ := (KG.out.1.up hbh).1 (by rw [HL.out.1]; omega)
      obtain ⟨xo, oo, rfl, _, hco⟩ := (KG.out.2.2.2.1.up hbh).1 (by rw [HL.out.2.1]; omega)
      obtain ⟨xn, on_, rfl, _, hcn⟩ := (KG.out.2.2.2.2.up hbh).1 (by rw [HL.out.2.2.1]; omega)
      obtain ⟨xl, ol, rfl, _, hcl⟩ := ih.1 (by rw [HL.out.2.2.2]; omega)
      have y0 : wh.cell? ⟨xb, ob, none⟩ = some (.int .u8 7) := hcb 0 7 HG.out.1
      have y1 : wh.cell? ⟨xo, oo, none⟩ = some (.int .u8 7) := hco 0 7 HG.out.2.1
      have y2 : wh.cell? ⟨xn, on_, none⟩ = some (.int .u8 8) := hcn 0 8 HG.out.2.2.1
      have y3 : wh.cell? ⟨xn, on_ + 64, none⟩ = some (.int .u8 0) := hcn 64 0 HG.out.2.2.2.1
      have y4 : wh.cell? ⟨xl, ol, none⟩ = some (.int .u8 0) := hcl 0 0 HG.out.2.2.2.2
      clear hcb hco hcn hcl ih hbh KG
      go_wp2_with fail
      refine (HCK.out wh).mono ?_
      rintro e wi ⟨rfl, hbi⟩
      have hbw2 := Lib.hid (bthen hbw.out hbi)
      clear hbi hbw
      go_wp2_with fail
      refine (HRZ.out wi).mono ?_
      rintro e wj ⟨rfl, _, hbj⟩
      have hfd := fun W => fld_left W
      go_wp2_with fail
      go_ret
      exact ⟨rfl, bthen hbw2.out hbj⟩
end Go.Proofs.Ytiphajgmjmjanaa
