/- DiskHistory. -/
import Derived.Test.YtiphajgmjmjanaaSane
import Derived.Test.YtiphajgmjmjanaaHo
import Derived.Test.YtiphajgmjmjanaaWt
import Derived.Deep.Cut
import Derived.Deep.CutRange
import Derived.Deep.CutBlock
import Derived.Deep.RegionHeld3
namespace Go.Proofs.Ytiphajgmjmjanaa
open Go.RowKit
set_option linter.unusedVariables false
set_option linter.unusedSimpArgs false

set_option maxHeartbeats 40000000 in
set_option maxRecDepth 100000 in
theorem lawHist_any (C : Option Addr) (cs : Nat) (l : List (Bool × UInt8 × UInt8)) (left : UInt8) (w : World) (hC : AA w C l cs) :
    Calls Try.prog 6 #[.slice C l.length cs, bv left] w fun e w' => e = .returned (.bool true) ∧ Below w.heap.size w w' := by
  have HSN := Lib.hid (fun W => sane_any W)
  have HF := Lib.hid (fun W (hb : Below w.heap.size w W) => hC.up hb)
  have hcm := Nat.le_trans hC.2.1 hC.2.2.1
  unfold maxLen at hcm
  obtain ⟨n, hn⟩ : ∃ n, l.length = n := ⟨_, rfl⟩
  rw [hn] at hcm ⊢
  have HN := Lib.hid hn
  have hlf := left.toNat_lt
  have hle : bv left = .int .u8 (left.toNat : Int) := rfl
  rw [hle]
  obtain ⟨lf, hlq⟩ : ∃ lf, left.toNat = lf := ⟨_, rfl⟩
  rw [hlq] at hlf ⊢
  obtain ⟨hn1, hn2, hn3⟩ := hd_new lf (by omega)
  have HNW := Lib.hid (fun W => new_any 4 W)
  rw [hn1] at HNW
  obtain ⟨D1, hD1⟩ : ∃ D1, nw 4 = D1 := ⟨_, rfl⟩
  rw [hD1] at HNW hn2 hn3
  have HST := Lib.hid (fun A B c k W (hS : DkIn W D1 A c B k) => stop_any D1 A B c k lf W hS)
  have hr0 := hd_rng (F := [0, 0, 0, 0]) (S := [0, 0, 0, 0]) (ws := []) (left := (lf : Int)) rfl rfl (by decide) (fun a ha => by cases ha) (by omega) (by omega)
  rw [hn2, hn3] at HST
  obtain ⟨D2, hD2⟩ : ∃ D2, hd [0, 0, 0, 0] [0, 0, 0, 0] [] lf = D2 := ⟨_, rfl⟩
  rw [hD2] at HST hr0
  have HW2 := Lib.hid (And.intro (whl_rng hr0) hD2)
  have hwx : IntKind.i64.wrap (lf : Int) = (lf : Int) := by rw [IntKind.wrap_i64]; omega
  unfold DkPost at *
  unfold dkv dkc at *
  clear hC hn hn1 hn2 hn3 hD1 hr0 hD2 hle hlq
  go_enter Try.func6, Try.ntmps6
  go_wp2_with fail
  refine (HSN.out w).mono ?_
  rintro e w1 ⟨rfl, hb1⟩
  have K1 := Lib.hid hb1
  clear hb1
  by_cases hbig : 40 < n
  · have hd1 : decide ((40 : Int) < (n : Int)) = true := decide_eq_true (by omega)
    have hd2 : (40 : Int) < (n : Int) := by omega
    go_wp2_with fail
    go_ret
    exact ⟨rfl, K1.out⟩
  · have hd1 : decide ((40 : Int) < (n : Int)) = false := decide_eq_false (by omega)
    have hd2 : ¬ (40 : Int) < (n : Int) := by omega
    go_wp2_with fail
    refine (HNW.out w1).mono ?_
    rintro e w2 ⟨A2, c2, B2, k2, rfl, i2, hb2⟩
    obtain ⟨x2, i2, hb2c⟩ := dk_put i2
    have K2 := Lib.hid (And.intro x2 (And.intro i2 (bthen (bthen K1.out hb2) hb2c)))
    have hz2 : w.heap.size ≤ w2.heap.size := (bthen K1.out hb2).size
    clear hb2 x2 i2 hb2c hd1 hd2 K1 HSN HNW
    go_upto_region 6 with fail
    generalize w2.alloc _ = u2 at *
    obtain ⟨q0, q1, q2, q3⟩ := K2.out.1.cells
    go_wp2_with fail
    refine (HST.out A2 B2 c2 k2 u2 K2.out.2.1).mono ?_
    rintro e w3 ⟨A3, c3, B3, k3, rfl, i3, hb3⟩
    have y3 := DBox.up K2.out.1 hb3
    clear q0 q1 q2 q3
    have g0 := Box.frozen y3 0
    have g1 := Box.frozen y3 1
    have g2 := Box.frozen y3 2
    have g3 := Box.frozen y3 3
    obtain ⟨q0, q1, q2, q3⟩ := y3.cells
    have ST := Lib.hid (dk_store i3 HW2.out.1 y3 (K2.out.2.1.up hb3) (n0 := w.heap.size) hz2)
    have SB := Lib.hid ((bthen K2.out.2.2 hb3).trans ST.out.2.2)
    have ST2 := Lib.hid (And.intro ST.out.1 ST.out.2.1)
    clear y3 i3 hb3 K2 ST HST
    go_upto_region 7 with fail
    generalize World.setCell _ ⟨w2.heap.size, 3, none⟩ _ = w4 at *
    clear q0 q1 q2 q3 g0 g1 g2 g3
    go_upto_region 9 with fail
    go_upto_region 11 with fail
    have x8 := Box.new w4 (arr [0, 0, 0, 0]) 44
    have x9 := Box.new (w4.alloc (.cells (arr [0, 0, 0, 0]) 44)) (arr [0, 0, 0, 0]) 44
    have x10 := Box.new ((w4.alloc (.cells (arr [0, 0, 0, 0]) 44)).alloc (.cells (arr [0, 0, 0, 0]) 44)) (arr [0, 0, 0, 0]) 44
    have x11 := WT.new (((w4.alloc (.cells (arr [0, 0, 0, 0]) 44)).alloc (.cells (arr [0, 0, 0, 0]) 44)).alloc (.cells (arr [0, 0, 0, 0]) 44)) (w4.heap.size + 1 + 1 + 1) (by simp)
    simp only [World.size_alloc] at x9 x10 x11
    have hba := ((((Below.refl w4.heap.size w4).alloc (Nat.le_refl _) (.cells (arr [0, 0, 0, 0]) 44)).alloc (by simp) (.cells (arr [0, 0, 0, 0]) 44)).alloc (by simp; omega) (.cells (arr [0, 0, 0, 0]) 44)).alloc (by simp; omega) (.cells #[] 46)
    have KL := Lib.hid (And.intro (DBox.up ST2.out.1 hba) (And.intro (ST2.out.2.up hba) (And.intro (((x8.alloc (.cells (arr [0, 0, 0, 0]) 44)).alloc (.cells (arr [0, 0, 0, 0]) 44)).alloc (.cells #[] 46)) (And.intro ((x9.alloc (.cells (arr [0, 0, 0, 0]) 44)).alloc (.cells #[] 46)) (And.intro (x10.alloc (.cells #[] 46)) (And.intro x11 (bthen SB.out hba)))))))
    have hz58 : w2.heap.size < w4.heap.size := Box.lt ST2.out.1
    have hzw : w.heap.size ≤ w2.heap.size := hz2
    clear x8 x9 x10 x11 hba SB ST2 hz2
    rw [show arr [0, 0, 0, 0] = #[.int .u8 0, .int .u8 0, .int .u8 0, .int .u8 0] from rfl] at KL
    generalize World.alloc _ (.cells #[] 46) = u at *
    rw [show #[.int .u8 0, .int .u8 0, .int .u8 0, .int .u8 0] = arr [0, 0, 0, 0] from rfl] at KL
    generalize w4.heap.size = b8 at *
    generalize w2.heap.size = b5 at *
    go_wp2_with fail
    go_loopw [11, 12, 13] (fun s11 s12 s13 wr => ∃ (k room : Nat) (F : List UInt8) (L : List (Bool × UInt8 × UInt8)) (g cg : Nat) (A5 : Option Addr) (c5 : Nat) (B5 : Option Addr) (k5 : Nat), k ≤ n ∧ s11 = .slice (some ⟨g, 0, none⟩) L.length cg ∧ s12 = .int .i64 room ∧ s13 = .int .i64 k ∧ L.length ≤ k ∧ room ≤ 255 ∧ F.length = 4 ∧ DBox wr b5 (hd F F (acs L) room) A5 c5 B5 k5 ∧ DkIn wr (hd F F (acs L) room) A5 c5 B5 k5 ∧ Box wr b8 (arr (lup F (acs L))) 44 ∧ Box wr (b8 + 1) (arr F) 44 ∧ Box wr (b8 + 1 + 1) (arr F) 44 ∧ WT wr (b8 + 1 + 1 + 1) g cg L ∧ Below w.heap.size w wr) (fun _ _ i _ => n - (intOf i).toNat)
    case atStart =>
      refine ⟨0, lf, [0, 0, 0, 0], [], b8 + 1 + 1 + 1, 0, A3, c3, B3, k3, Nat.zero_le _, rfl, rfl, rfl, Nat.zero_le _, by omega, rfl, ?_, ?_, KL.out.2.2.1, KL.out.2.2.2.1, KL.out.2.2.2.2.1, KL.out.2.2.2.2.2.1, KL.out.2.2.2.2.2.2⟩
      · rw [show acs [] = [] from rfl, HW2.out.2]; exact KL.out.1
      · rw [show acs [] = [] from rfl, HW2.out.2]; exact KL.out.2.1
    case round =>
      obtain ⟨k, room, F, L, g, cg, A5, c5, B5, k5, hk, rfl, rfl, rfl, hLk, hroom, hF4, y5, i5, y8, y9, y10, yt, hbw⟩ := hrel
      have KR := Lib.hid (And.intro y5 (And.intro i5 (And.intro y8 (And.intro y9 (And.intro y10 (And.intro yt hbw))))))
      clear y5 i5 y8 y9 y10 yt hbw KL
      have hwl : (acs L).length ≤ 40 := by rw [acs_length]; omega
      have hrg := hd_rng (left := (room : Int)) hF4 hF4 (show (acs L).length ≤ 4096 by omega) (acs_four L) (by omega) (by omega)
      by_cases hlt : k < n
      · obtain ⟨a, ha⟩ : ∃ a, l[k]? = some a := ⟨_, List.getElem?_eq_getElem (by rw [HN.out]; exact hlt)⟩
        obtain ⟨b, off, rfl, hb, hat⟩ := (HF.out wr KR.out.2.2.2.2.2.2).1 (by rw [HN.out]; omega)
        obtain ⟨p0, p1, p2⟩ := hat k a ha
        obtain ⟨sx, xa, xc⟩ := a
        simp only at p0 p1 p2
        have hya := xa.toNat_lt
        have hp1 : bv xa = .int .u8 (xa.toNat : Int) := rfl
        have hp2 : bv xc = .int .u8 (xc.toNat : Int) := rfl
        rw [hp1] at p1
        rw [hp2] at p2
        obtain ⟨an, hxn⟩ : ∃ an, xa.toNat = an := ⟨_, rfl⟩
        obtain ⟨cn, hcn⟩ : ∃ cn, xc.toNat = cn := ⟨_, rfl⟩
        rw [hxn] at p1 hya
        rw [hcn] at p2
        obtain ⟨q, hq⟩ : ∃ q, an % 4 = q := ⟨_, rfl⟩
        have hq4 : q < 4 := by omega
        have hrem : (an : Int).tmod 4 = (q : Int) := by rw [← hq]; rfl
        have hwq : IntKind.i64.wrap (q : Int) = (q : Int) := by rw [IntKind.wrap_i64]; omega
        have i1 : (0 : Int) ≤ (k : Int) := by omega
        have i2 : (k : Int) < (n : Int) := by omega
        have HE := Lib.hid (And.intro hxn (And.intro hcn (And.intro hq (show bv xc = .int .u8 (cn : Int) by rw [hp2, hcn]))))
        obtain ⟨X, hX⟩ : ∃ X, hd F F (acs L) room = X := ⟨_, rfl⟩
        rw [hX] at hrg KR
        have HWX := Lib.hid (And.intro (whl_rng hrg) (And.intro hX (show 3 ≤ X.secs.length by rw [← hX]; show 3 ≤ (mk F F).length; rw [mk_length rfl]; omega)))
        have xe := Box.new wr #[.bool sx, .int .u8 (an : Int), .int .u8 (cn : Int)] 46
        have hba := (Below.refl wr.heap.size wr).alloc (Nat.le_refl _) (.cells #[.bool sx, .int .u8 (an : Int), .int .u8 (cn : Int)] 46)
        have K1 := Lib.hid (And.intro (DBox.up KR.out.1 hba) (And.intro (KR.out.2.1.up hba) (And.intro (KR.out.2.2.1.below hba) (And.intro (KR.out.2.2.2.1.below hba) (And.intro (KR.out.2.2.2.2.1.below hba) (And.intro (KR.out.2.2.2.2.2.1.up hba) (And.intro (bthen KR.out.2.2.2.2.2.2 hba) xe)))))))
        have hzg : b8 + 1 + 1 + 1 < wr.heap.size := by have := KR.out.2.2.2.2.2.1.lo; omega
        clear hp1 hp2 hat ha xe hba KR hrg hxn hcn hq hX
        go_upto_region 16 with fail
        clear p0 p1 p2 i1 i2
        generalize World.alloc _ _ = v at *
        generalize wr.heap.size = b14 at *
        cases sx
        · have hsn : acs L ++ [(q, xc)] = acs (L ++ [(false, xa, xc)]) := by rw [acs_snoc]; show _ = acs L ++ [(xa.toNat % 4, xc)]; rw [HE.out.1, HE.out.2.2.1]
          obtain ⟨hwe, hwy⟩ := hd_wr (left := (room : Int)) hF4 hF4 (show (acs L).length < 4096 by omega) (acs_four L) (by omega) (by omega) q hq4 xc
          rw [HWX.out.2.1] at hwe hwy
          rw [hsn] at hwy
          have hLl : (L ++ [(false, xa, xc)]).length = L.length + 1 := by simp
          have hwl2 : (acs (L ++ [(false, xa, xc)])).length ≤ 41 := by rw [acs_length, hLl]; omega
          have hrg2 := hd_rng (left := (room : Int)) hF4 hF4 (show (acs (L ++ [(false, xa, xc)])).length ≤ 4096 by omega) (acs_four (L ++ [(false, xa, xc)])) (by omega) (by omega)
          obtain ⟨Y, hY⟩ : ∃ Y, hd F F (acs (L ++ [(false, xa, xc)])) room = Y := ⟨_, rfl⟩
          rw [hY] at hrg2 hwy
          have HWR := Lib.hid (fun W D kd (hb : DkIn W X A5 c5 B5 k5) (hD : Sl W D (dbl xc xc) kd) => write_any X A5 B5 D c5 k5 kd (q : Int) (dbl xc xc) W hb hD)
          rw [hwe, hwy, dbl_length] at HWR
          have HDB := Lib.hid (fun V => double_any xc V)
          rw [HE.out.2.2.2] at HDB
          unfold SecPost at HDB
          unfold DkPost at HWR
          unfold dkv dkc at HWR
          have HY := Lib.hid (And.intro (whl_rng hrg2) (And.intro hY hwl2))
          clear hsn hwe hwy hLl hwl2 hrg2 hY
          have hb14 : b14 < v.heap.size := Box.lt K1.out.2.2.2.2.2.2.2
          obtain ⟨e0, e1, e2⟩ : v.cell? ⟨b14, 0, none⟩ = some (.bool false) ∧ v.cell? ⟨b14, 1, none⟩ = some (.int .u8 (an : Int)) ∧ v.cell? ⟨b14, 2, none⟩ = some (.int .u8 (cn : Int)) := ⟨K1.out.2.2.2.2.2.2.2.cell 0, K1.out.2.2.2.2.2.2.2.cell 1, K1.out.2.2.2.2.2.2.2.cell 2⟩
          have HK := Lib.hid (fun W (hb : Below v.heap.size v W) => And.intro (DBox.up K1.out.1 hb).cells (And.intro ((hb.cell (p := ⟨b14, 1, none⟩) hb14).trans e1) ((hb.cell (p := ⟨b14, 2, none⟩) hb14).trans e2)))
          simp only [and_assoc] at HK
          go_upto_region 17 with fail
          clear e0 e1 e2
          have bb := (Below.refl v.heap.size v).alloc (Nat.le_refl _) (.cells #[.slice none 0 0, .slice none 0 0, .int .i64 0, .bool false] 25)
          have xb := Box.new v #[.slice none 0 0, .slice none 0 0, .int .i64 0, .bool false] 25
          have Bb := Lib.hid bb.drew
          have Xb := Lib.hid (Box.drew xb)
          have iV := Lib.hid K1.out.2.1
          clear bb xb
          go_cut [15, 16] from 46 to 157 (fun x e W7 => ∃ z A6 c6 B6 k6, x = .pointer (some ⟨z, 0, none⟩) ∧ e = .int .i64 0 ∧ v.heap.size ≤ z ∧ DBox W7 z Y A6 c6 B6 k6 ∧ DkIn W7 Y A6 c6 B6 k6 ∧ Below v.heap.size v W7)
          case first =>
            go_region_held3 (fun w' => w'.cell? ⟨b5, 0, none⟩ = some (.slice A5 X.secs.length c5) ∧ w'.cell? ⟨b5, 1, none⟩ = some (.slice B5 X.pend.length k5) ∧ w'.cell? ⟨b5, 2, none⟩ = some (.int .i64 X.left) ∧ w'.cell? ⟨b5, 3, none⟩ = some (.bool X.stop) ∧ w'.cell? ⟨b14, 1, none⟩ = some (.int .u8 (an : Int)) ∧ w'.cell? ⟨b14, 2, none⟩ = some (.int .u8 (cn : Int)))
              (with_reducible first | exact HK.out _ (Below.refl v.heap.size v).drew | exact HK.out _ Bb.out | exact HK.out _ B9.out | exact HK.out _ (B9.out.alloc B9.out.size _) | exact HK.out _ B6.out | exact HK.out _ (B6.out.alloc B6.out.size _) | exact HK.out _ ((((B6.out.setCell (Nat.le_refl _) _).setCell (Nat.le_refl _) _).setCell (Nat.le_refl _) _).setCell (Nat.le_refl _) _) | exact HK.out _ ((((B6.out.setCell B9.out.size _).setCell B9.out.size _).setCell B9.out.size _).setCell B9.out.size _) | go_keep)
              (first
                | (go_at_call 27; (with_reducible refine (HDB.out v.drew).mono ?_); rintro e w9 ⟨rfl, hx9, hb9⟩; have B9 := Lib.hid ((Below.refl v.heap.size v).drew.trans hb9); have S9 := Lib.hid (show Sl w9 (some ⟨v.heap.size, 0, none⟩) (dbl xc xc) 128 from sl_box hx9 (dbl_length _ _) (by omega)); clear hx9 hb9)
                | (go_at_call 27; (with_reducible refine (HDB.out (v.alloc (.cells #[.slice none 0 0, .slice none 0 0, .int .i64 0, .bool false] 25)).drew).mono ?_); rintro e w9 ⟨rfl, hx9, hb9⟩; have B9 := Lib.hid (bthen (a := v) Bb.out hb9); have S9 := Lib.hid (show Sl w9 (some ⟨(v.alloc (.cells #[.slice none 0 0, .slice none 0 0, .int .i64 0, .bool false] 25)).heap.size, 0, none⟩) (dbl xc xc) 128 from sl_box hx9 (dbl_length _ _) (by omega)); rw [World.size_alloc] at S9; have X9 := Lib.hid (Box.below Xb.out hb9); clear hx9 hb9)
                | (go_at_call 19; (with_reducible refine (HWR.out w9 (some ⟨v.heap.size, 0, none⟩) 128 (iV.out.up B9.out) S9.out).mono ?_); rintro e w6 ⟨A6, c6, B6a, k6, rfl, i6, hb6⟩; have B6 := Lib.hid (bthen (a := v) B9.out hb6); have I6 := Lib.hid i6; clear hb6 i6)
                | (go_at_call 19; (with_reducible refine (HWR.out w9 (some ⟨v.heap.size + 1, 0, none⟩) 128 (iV.out.up B9.out) S9.out).mono ?_); rintro e w6 ⟨A6, c6, B6a, k6, rfl, i6, hb6⟩; have B6 := Lib.hid (bthen (a := v) B9.out hb6); have x6 := Box.below X9.out hb6; have y0 := x6.cell 0; have y1 := x6.cell 1; have y2 := x6.cell 2; have y3 := x6.cell 3; have g0 := x6.frozen 0; have g1 := x6.frozen 1; have g2 := x6.frozen 2; have g3 := x6.frozen 3; have X6 := Lib.hid x6; have I6 := Lib.hid i6; clear hb6 i6 x6)
                | (go_at_call 19; (with_reducible refine (HWR.out (w9.alloc (.cells #[.slice none 0 0, .slice none 0 0, .int .i64 0, .bool false] 25)) (some ⟨v.heap.size, 0, none⟩) 128 (iV.out.up (B9.out.alloc B9.out.size _)) (S9.out.up ((Below.refl w9.heap.size w9).alloc (Nat.le_refl _) _))).mono ?_); rintro e w6 ⟨A6, c6, B6a, k6, rfl, i6, hb6⟩; have B6 := Lib.hid (bthen (a := v) (B9.out.alloc B9.out.size _) hb6); have x6 := Box.below (Box.new w9 #[.slice none 0 0, .slice none 0 0, .int .i64 0, .bool false] 25) hb6; have y0 := x6.cell 0; have y1 := x6.cell 1; have y2 := x6.cell 2; have y3 := x6.cell 3; have g0 := x6.frozen 0; have g1 := x6.frozen 1; have g2 := x6.frozen 2; have g3 := x6.frozen 3; have X6 := Lib.hid x6; have I6 := Lib.hid i6; clear hb6 i6 x6)
                | fail)
            all_goals
              first
                | (with_reducible change Exit.then _ _ Exit.normal _ (w6.alloc _)
                   have F7 := Lib.hid (dk_put I6.out)
                   have B7 := Lib.hid (bthen (a := v) B6.out F7.out.2.2)
                   have F8 := Lib.hid (And.intro F7.out.1 F7.out.2.1)
                   clear F7
                   generalize w6.alloc _ = W7 at *)
                | (with_reducible change Exit.then _ _ Exit.normal _ (World.setCell _ ⟨v.heap.size, 3, none⟩ _)
                   have F7 := Lib.hid (dk_store I6.out HY.out.1 (show DBox w6 v.heap.size dk0 none 0 none 0 from X6.out) (DkIn.zero w6) (n0 := v.heap.size) (Nat.le_refl _))
                   have B7 := Lib.hid (B6.out.trans F7.out.2.2)
                   have F8 := Lib.hid (And.intro F7.out.1 F7.out.2.1)
                   clear F7
                   generalize World.setCell _ ⟨v.heap.size, 3, none⟩ _ = W7 at *)
                | (with_reducible change Exit.then _ _ Exit.normal _ (World.setCell _ ⟨w9.heap.size, 3, none⟩ _)
                   have F7 := Lib.hid (dk_store I6.out HY.out.1 (show DBox w6 w9.heap.size dk0 none 0 none 0 from X6.out) (DkIn.zero w6) (n0 := v.heap.size) B9.out.size)
                   have B7 := Lib.hid (B6.out.trans F7.out.2.2)
                   have F8 := Lib.hid (And.intro F7.out.1 F7.out.2.1)
                   clear F7
                   generalize World.setCell _ ⟨w9.heap.size, 3, none⟩ _ = W7 at *)
            all_goals
              go_wp2_with fail
              go_meet
              case rel => first | exact ⟨_, _, _, _, _, rfl, rfl, B6.out.size, F8.out.1, F8.out.2, B7.out⟩ | exact ⟨_, _, _, _, _, rfl, rfl, Nat.le_refl _, F8.out.1, F8.out.2, B7.out⟩ | exact ⟨_, _, _, _, _, rfl, rfl, B9.out.size, F8.out.1, F8.out.2, B7.out⟩
          case rest =>
            obtain ⟨z, A6, c6, B6, k6, rfl, rfl, hzV, y7, i7, hbc⟩ := hcut
            have hzz : b14 < z := Nat.lt_of_lt_of_le hb14 hzV
            have K7 := Lib.hid (And.intro (DBox.up K1.out.1 hbc) (And.intro (K1.out.2.1.up hbc) (And.intro (K1.out.2.2.1.below hbc) (And.intro (K1.out.2.2.2.1.below hbc) (And.intro (K1.out.2.2.2.2.1.below hbc) (And.intro (K1.out.2.2.2.2.2.1.up hbc) (And.intro (bthen K1.out.2.2.2.2.2.2.1 hbc) (K1.out.2.2.2.2.2.2.2.below hbc))))))))
            have ST := Lib.hid (dk_store i7 HY.out.1 K7.out.1 K7.out.2.1 (n0 := w.heap.size) hzw)
            have hk4 := fun {g : Nat} {t : TypeId} {cs : Array Value} (h : Box wc g cs t) (hne : g ≠ b5) => box_keep4 (.slice A6 Y.secs.length c6) (.slice B6 Y.pend.length k6) (.int .i64 Y.left) (.bool Y.stop) h hne
            have K8 := Lib.hid (And.intro ST.out.1 (And.intro ST.out.2.1 (And.intro (hk4 K7.out.2.2.1 (by omega)) (And.intro (hk4 K7.out.2.2.2.1 (by omega)) (And.intro (hk4 K7.out.2.2.2.2.1 (by omega)) (And.intro ((((K7.out.2.2.2.2.2.1.set (b := b5) (i := 0) (v := .slice A6 Y.secs.length c6) (by omega)).set (b := b5) (i := 1) (v := .slice B6 Y.pend.length k6) (by omega)).set (b := b5) (i := 2) (v := .int .i64 Y.left) (by omega)).set (b := b5) (i := 3) (v := .bool Y.stop) (by omega)) (And.intro (K7.out.2.2.2.2.2.2.1.trans ST.out.2.2) (hk4 K7.out.2.2.2.2.2.2.2 (by omega)))))))))
            obtain ⟨r0, r1, r2, r3⟩ := y7.cells
            obtain ⟨q0, q1, q2, q3⟩ := K7.out.1.cells
            have g0 := Box.frozen K7.out.1 0
            have g1 := Box.frozen K7.out.1 1
            have g2 := Box.frozen K7.out.1 2
            have g3 := Box.frozen K7.out.1 3
            clear ST hk4 y7 i7 hbc K1 K7 HK Bb Xb iV HDB HWR
            go_upto_region 21 with fail
            generalize World.setCell _ ⟨b5, 3, none⟩ _ = wS at *
            clear r0 r1 r2 r3 q0 q1 q2 q3 g0 g1 g2 g3
            obtain ⟨e0, e1, e2⟩ : wS.cell? ⟨b14, 0, none⟩ = some (.bool false) ∧ wS.cell? ⟨b14, 1, none⟩ = some (.int .u8 (an : Int)) ∧ wS.cell? ⟨b14, 2, none⟩ = some (.int .u8 (cn : Int)) := ⟨K8.out.2.2.2.2.2.2.2.cell 0, K8.out.2.2.2.2.2.2.2.cell 1, K8.out.2.2.2.2.2.2.2.cell 2⟩
            have i1 : (0 : Int) ≤ (q : Int) := by omega
            have i2 : (q : Int) < (4 : Int) := by omega
            have f8 := K8.out.2.2.1.frozen q
            obtain ⟨y8, t8⟩ : ∃ y, wS.cell? ⟨b8, q, none⟩ = some (bv y) := by
              have h1 := arr_cell K8.out.2.2.1 q
              rw [List.getElem?_eq_getElem (show q < (lup F (acs L)).length by rw [lup_length]; omega)] at h1
              exact ⟨_, h1⟩
            have x8 := arr_set (i := q) (x := xc) K8.out.2.2.1
            rw [HE.out.2.2.2, show (lup F (acs L)).set q xc = lup F (acs (L ++ [(false, xa, xc)])) by rw [acs_snoc, lup_snoc]; show _ = (lup F (acs L)).set (xa.toNat % 4) xc; rw [HE.out.1, HE.out.2.2.1]] at x8
            have K9 := Lib.hid (And.intro (show DBox _ b5 Y A6 c6 B6 k6 from box_other (b := b8) (i := q) (v := .int .u8 (cn : Int)) K8.out.1 (by omega)) (And.intro (K8.out.2.1.small (i := q) (v := .int .u8 (cn : Int)) HY.out.1 K8.out.2.2.1 (by rw [lup_length]; omega)) (And.intro x8 (And.intro (box_other (b := b8) (i := q) (v := .int .u8 (cn : Int)) K8.out.2.2.2.1 (by omega)) (And.intro (box_other (b := b8) (i := q) (v := .int .u8 (cn : Int)) K8.out.2.2.2.2.1 (by omega)) (And.intro (K8.out.2.2.2.2.2.1.set (b := b8) (i := q) (v := .int .u8 (cn : Int)) (by omega)) (And.intro (K8.out.2.2.2.2.2.2.1.setCell (p := ⟨b8, q, none⟩) (by show w.heap.size ≤ b8; omega) (.int .u8 (cn : Int))) (box_other (b := b8) (i := q) (v := .int .u8 (cn : Int)) K8.out.2.2.2.2.2.2.2 (by omega)))))))))
            clear x8 K8
            go_upto_region 22 with fail
            generalize World.setCell _ ⟨b8, q, none⟩ _ = wT at *
            clear e0 e1 e2 f8 t8 i1 i2
            obtain ⟨e0, e1, e2⟩ : wT.cell? ⟨b14, 0, none⟩ = some (.bool false) ∧ wT.cell? ⟨b14, 1, none⟩ = some (.int .u8 (an : Int)) ∧ wT.cell? ⟨b14, 2, none⟩ = some (.int .u8 (cn : Int)) := ⟨K9.out.2.2.2.2.2.2.2.cell 0, K9.out.2.2.2.2.2.2.2.cell 1, K9.out.2.2.2.2.2.2.2.cell 2⟩
            have hxa : bv xa = .int .u8 (an : Int) := by rw [← HE.out.1]; rfl
            have HB := Lib.hid (show Box (wT.alloc (.cells #[.bool false, .int .u8 (an : Int), .int .u8 (cn : Int)] 46)) wT.heap.size #[.bool false, bv xa, bv xc] 46 by rw [hxa, HE.out.2.2.2]; exact Box.new _ _ _)
            have hba := (Below.refl wT.heap.size wT).alloc (Nat.le_refl _) (.cells #[.bool false, .int .u8 (an : Int), .int .u8 (cn : Int)] 46)
            have K10 := Lib.hid (And.intro (DBox.up K9.out.1 hba) (And.intro (K9.out.2.1.up hba) (And.intro (K9.out.2.2.1.below hba) (And.intro (K9.out.2.2.2.1.below hba) (And.intro (K9.out.2.2.2.2.1.below hba) (And.intro (K9.out.2.2.2.2.2.1.up hba) (bthen K9.out.2.2.2.2.2.2.1 hba)))))))
            have hlT : b8 + 1 + 1 + 1 ≤ (wT.alloc (.cells #[.bool false, .int .u8 (an : Int), .int .u8 (cn : Int)] 46)).heap.size := by have := K10.out.2.2.2.2.2.1.lo; omega
            clear hxa hba K9
            go_upto_region 38 with (refine wpList_append_act rfl (.tmp 80) (.tmp 82) rfl (b8 + 1 + 1 + 1) g _ cg L rfl rfl K10.out.2.2.2.2.2.1 wT.heap.size (false, xa, xc) rfl HB.out hlT (by omega) ?_; intro g2 cg2 w12 hw12 hg12)
            have hlo := K10.out.2.2.2.2.2.1.lo
            have hY3 : 3 ≤ Y.secs.length := by rw [← HY.out.2.1]; show 3 ≤ (mk F F).length; rw [mk_length rfl]; omega
            have K11 := Lib.hid (And.intro (show DBox w12 b5 Y A6 c6 B6 k6 from Box.grown K10.out.1 hg12 (by intro e; injection e; omega)) (And.intro (K10.out.2.1.wt HY.out.1 K10.out.2.2.2.2.2.1 hY3 hg12) (And.intro (K10.out.2.2.1.grown hg12 (by intro e; injection e; omega)) (And.intro (K10.out.2.2.2.1.grown hg12 (by intro e; injection e; omega)) (And.intro (K10.out.2.2.2.2.1.grown hg12 (by intro e; injection e; omega)) (And.intro hw12 (K10.out.2.2.2.2.2.2.trans (below_grown hg12 (by omega) K10.out.2.2.2.2.2.2.size))))))))
            have HHD := Lib.hid (fun k hk => hd_rd (left := (room : Int)) hF4 hF4 (show (acs (L ++ [(false, xa, xc)])).length ≤ 4096 by have := HY.out.2.2; omega) (acs_four (L ++ [(false, xa, xc)])) (by omega) (by omega) k hk)
            rw [HY.out.2.1] at HHD
            have hLl : (L ++ [(false, xa, xc)]).length = L.length + 1 := by simp
            have HLL := Lib.hid hLl
            clear hw12 hg12 hlo hY3 hLl K10 HB e0 e1 e2
            obtain ⟨f0, f1, f2, f3, hLa⟩ := four_of (show (lup F (acs (L ++ [(false, xa, xc)]))).length = 4 by rw [lup_length]; exact hF4)
            have hho := holds_any Y A6 B6 c6 k6 f0 f1 f2 f3 f0 f1 f2 f3 w12 K11.out.2.1 (by intro k hk; have := HHD.out k hk; rw [hLa] at this; exact this)
            have x8 := K11.out.2.2.1
            rw [hLa] at x8
            have HHO := Lib.hid hho
            obtain ⟨t0, t1, t2, t3⟩ : w12.cell? ⟨b8, 0, none⟩ = some (bv f0) ∧ w12.cell? ⟨b8, 1, none⟩ = some (bv f1) ∧ w12.cell? ⟨b8, 2, none⟩ = some (bv f2) ∧ w12.cell? ⟨b8, 3, none⟩ = some (bv f3) := ⟨x8.cell 0, x8.cell 1, x8.cell 2, x8.cell 3⟩
            unfold dkv dkc at HHO
            clear hho hLa x8
            obtain ⟨q0, q1, q2, q3⟩ := K11.out.1.cells
            go_wp2_with fail
            refine HHO.out.mono ?_
            rintro e w20 ⟨rfl, hb20⟩
            clear q0 q1 q2 q3 t0 t1 t2 t3 HHO
            have K12 := Lib.hid (And.intro (DBox.up K11.out.1 hb20) (And.intro (K11.out.2.1.up hb20) (And.intro (K11.out.2.2.1.below hb20) (And.intro (K11.out.2.2.2.1.below hb20) (And.intro (K11.out.2.2.2.2.1.below hb20) (And.intro (K11.out.2.2.2.2.2.1.up hb20) (bthen K11.out.2.2.2.2.2.2 hb20)))))))
            clear hb20 K11
            rw [← HY.out.2.1] at K12
            go_wp2_with fail
            go_roundw
            case rel => exact ⟨k + 1, room, F, L ++ [(false, xa, xc)], g2, cg2, A6, c6, B6, k6, by omega, by rw [HLL.out], rfl, by go_num, by rw [HLL.out]; omega, hroom, hF4, K12.out.1, K12.out.2.1, K12.out.2.2.1, K12.out.2.2.2.1, K12.out.2.2.2.2.1, K12.out.2.2.2.2.2.1, K12.out.2.2.2.2.2.2⟩
            case measure => simp [intOf]; omega
        · have HSY := Lib.hid (sync_any X A5 B5 c5 k5 v K1.out.2.1)
          have hrgX : rng X = true := by rw [← HWX.out.2.1]; exact hd_rng (left := (room : Int)) hF4 hF4 (show (acs L).length ≤ 4096 by omega) (acs_four L) (by omega) (by omega)
          have hwS := whl_sy hrgX
          have hsy := fun h => hd_sy (room := room) (ws := acs L) hF4 (show (acs L).length ≤ 4096 by omega) (acs_four L) (by omega) h
          have hss := fun h => hd_stop (room := room) (ws := acs L) hF4 (show (acs L).length ≤ 4096 by omega) (acs_four L) (by omega) h
          rw [HWX.out.2.1, acs_length] at hsy hss
          obtain ⟨S, hS⟩ : ∃ S, sy X = S := ⟨_, rfl⟩
          obtain ⟨E, hE⟩ : ∃ E, sye X = E := ⟨_, rfl⟩
          rw [hS, hE] at HSY hsy hss
          rw [hS] at hwS
          have HSS := Lib.hid (And.intro hsy hss)
          have HWS := Lib.hid hwS
          unfold DkPost at HSY
          unfold dkv dkc at HSY
          clear hrgX hsy hss hS hE hwS
          obtain ⟨q0, q1, q2, q3⟩ := K1.out.1.cells
          have e0 : v.cell? ⟨b14, 0, none⟩ = some (.bool true) := K1.out.2.2.2.2.2.2.2.cell 0
          go_wp2_with fail
          refine HSY.out.mono ?_
          rintro e w8 ⟨A8, c8, B8, k8, rfl, i8, hb8⟩
          obtain ⟨x17, i17, hb8c⟩ := dk_put i8
          have hb8d := bthen hb8 hb8c
          have K2 := Lib.hid (And.intro (DBox.up K1.out.1 hb8d) (And.intro (K1.out.2.1.up hb8d) (And.intro (K1.out.2.2.1.below hb8d) (And.intro (K1.out.2.2.2.1.below hb8d) (And.intro (K1.out.2.2.2.2.1.below hb8d) (And.intro (K1.out.2.2.2.2.2.1.up hb8d) (And.intro (bthen K1.out.2.2.2.2.2.2.1 hb8d) (And.intro x17 i17))))))))
          have hz17 : b14 < w8.heap.size := Nat.lt_of_lt_of_le (Box.lt K1.out.2.2.2.2.2.2.2) hb8.size
          clear q0 q1 q2 q3 e0 i8 hb8 x17 i17 hb8c hb8d K1 HSY
          go_upto_region 24 with fail
          generalize w8.alloc _ = v8 at *
          generalize w8.heap.size = b17 at *
          obtain ⟨len, hlen⟩ : ∃ len, L.length = len := ⟨_, rfl⟩
          have hlk2 : len ≤ k := by rw [← hlen]; exact hLk
          rw [hlen] at HSS ⊢
          have HLE := Lib.hid hlen
          clear hlen hLk
          go_upto_region 25 with fail
          generalize hP : decide (room < len) = P at *
          have HP := Lib.hid hP
          clear hP
          go_upto_block 2 with fail
          go_cut [20] from 93 to 130 (fun s20 W' => DBox W' b5 X A5 c5 B5 k5 ∧ DkIn W' X A5 c5 B5 k5 ∧ Box W' b8 (arr (lup F (acs L))) 44 ∧ Box W' (b8 + 1) (arr (lup F ((acs L).take (min len (room + 1))))) 44 ∧ Box W' (b8 + 1 + 1) (arr (lup F ((acs L).take (min len room)))) 44 ∧ WT W' (b8 + 1 + 1 + 1) g cg L ∧ Below w.heap.size w W' ∧ DBox W' b17 S A8 c8 B8 k8 ∧ DkIn W' S A8 c8 B8 k8)
          case first =>
            go_wp2_with fail
            go_loopw [20] (fun i wr => ∃ kk : Nat, kk ≤ len ∧ kk ≤ room + 1 ∧ i = .int .i64 kk ∧ DBox wr b5 X A5 c5 B5 k5 ∧ DkIn wr X A5 c5 B5 k5 ∧ Box wr b8 (arr (lup F (acs L))) 44 ∧ Box wr (b8 + 1) (arr (lup F ((acs L).take kk))) 44 ∧ Box wr (b8 + 1 + 1) (arr (lup F ((acs L).take (min kk room)))) 44 ∧ WT wr (b8 + 1 + 1 + 1) g cg L ∧ Below w.heap.size w wr ∧ DBox wr b17 S A8 c8 B8 k8 ∧ DkIn wr S A8 c8 B8 k8) (fun i _ => len - (intOf i).toNat)
            case atStart => exact ⟨0, Nat.zero_le _, Nat.zero_le _, rfl, K2.out.1, K2.out.2.1, K2.out.2.2.1, by rw [List.take_zero]; exact K2.out.2.2.2.1, by rw [Nat.zero_min, List.take_zero]; exact K2.out.2.2.2.2.1, K2.out.2.2.2.2.2.1, K2.out.2.2.2.2.2.2.1, K2.out.2.2.2.2.2.2.2.1, K2.out.2.2.2.2.2.2.2.2⟩
            case round =>
              obtain ⟨kk, hk1, hk2, rfl, hrel⟩ := hrel
              have KS := Lib.hid hrel
              clear hrel K2
              by_cases hlt1 : kk < len
              · by_cases hlt2 : kk ≤ room
                · obtain ⟨a2, ha2⟩ : ∃ a2, L[kk]? = some a2 := ⟨_, List.getElem?_eq_getElem (by rw [HLE.out]; exact hlt1)⟩
                  obtain ⟨p0, p1, p2⟩ := KS.out.2.2.2.2.2.1.at_ ha2
                  have hws := acs_at ha2
                  obtain ⟨s2, xa2, xc2⟩ := a2
                  simp only at p1 p2 hws
                  have hp1 : bv xa2 = .int .u8 (xa2.toNat : Int) := rfl
                  have hp2 : bv xc2 = .int .u8 (xc2.toNat : Int) := rfl
                  rw [hp1] at p1
                  rw [hp2] at p2
                  have hya2 := xa2.toNat_lt
                  obtain ⟨an2, hxn2⟩ : ∃ an2, xa2.toNat = an2 := ⟨_, rfl⟩
                  obtain ⟨cn2, hcn2⟩ : ∃ cn2, xc2.toNat = cn2 := ⟨_, rfl⟩
                  rw [hxn2] at p1 hws hya2
                  rw [hcn2] at p2
                  have hbx : bv xc2 = .int .u8 (cn2 : Int) := by rw [hp2, hcn2]
                  obtain ⟨r, hr⟩ : ∃ r, an2 % 4 = r := ⟨_, rfl⟩
                  rw [hr] at hws
                  have hr4 : r < 4 := by omega
                  have hrm2 : (an2 : Int).tmod 4 = (r : Int) := by rw [← hr]; rfl
                  have i1 : (0 : Int) ≤ (kk : Int) := by omega
                  have i2 : (kk : Int) < (len : Int) := by omega
                  have i3 : (0 : Int) ≤ (r : Int) := by omega
                  have i4 : (r : Int) < (4 : Int) := by omega
                  have hnx := lup_next (F := F) hws
                  have hgl := KS.out.2.2.2.2.2.1.lo
                  have f9 := KS.out.2.2.2.1.frozen r
                  obtain ⟨y9, t9⟩ : ∃ y, wr.cell? ⟨b8 + 1, r, none⟩ = some (bv y) := by
                    have h1 := arr_cell KS.out.2.2.2.1 r
                    rw [List.getElem?_eq_getElem (show r < (lup F ((acs L).take kk)).length by rw [lup_length]; omega)] at h1
                    exact ⟨_, h1⟩
                  have x9 := arr_set (i := r) (x := xc2) KS.out.2.2.2.1
                  rw [hbx, ← hnx] at x9
                  have HX2 := Lib.hid (And.intro hbx (And.intro hnx (And.intro hgl (show bv xa2 = .int .u8 (an2 : Int) by rw [hp1, hxn2]))))
                  have K3 := Lib.hid (And.intro (show DBox _ b5 X A5 c5 B5 k5 from box_other (b := b8 + 1) (i := r) (v := .int .u8 (cn2 : Int)) KS.out.1 (by omega)) (And.intro (KS.out.2.1.small (i := r) (v := .int .u8 (cn2 : Int)) HWX.out.1 KS.out.2.2.2.1 (by rw [lup_length]; omega)) (And.intro (box_other (b := b8 + 1) (i := r) (v := .int .u8 (cn2 : Int)) KS.out.2.2.1 (by omega)) (And.intro x9 (And.intro (box_other (b := b8 + 1) (i := r) (v := .int .u8 (cn2 : Int)) KS.out.2.2.2.2.1 (by omega)) (And.intro (KS.out.2.2.2.2.2.1.set (b := b8 + 1) (i := r) (v := .int .u8 (cn2 : Int)) (by omega)) (And.intro (KS.out.2.2.2.2.2.2.1.setCell (p := ⟨b8 + 1, r, none⟩) (by show w.heap.size ≤ b8 + 1; omega) (.int .u8 (cn2 : Int))) (And.intro (show DBox _ b17 S A8 c8 B8 k8 from box_other (b := b8 + 1) (i := r) (v := .int .u8 (cn2 : Int)) KS.out.2.2.2.2.2.2.2.1 (by omega)) (KS.out.2.2.2.2.2.2.2.2.small (i := r) (v := .int .u8 (cn2 : Int)) HWS.out KS.out.2.2.2.1 (by rw [lup_length]; omega))))))))))
                  have HQ := Lib.hid (show wr.drew.cell? ⟨g, kk * 3 + 1, none⟩ = some (.int .u8 (an2 : Int)) ∧ wr.drew.cell? ⟨g, kk * 3 + 2, none⟩ = some (.int .u8 (cn2 : Int)) from ⟨p1, p2⟩)
                  obtain ⟨_, p4, p5⟩ := K3.out.2.2.2.2.2.1.at_ ha2
                  simp only at p4 p5
                  rw [hp1, hxn2] at p4
                  rw [hbx] at p5
                  have HQ2 := Lib.hid (show (wr.setCell ⟨b8 + 1, r, none⟩ (.int .u8 (cn2 : Int))).drew.cell? ⟨g, kk * 3 + 1, none⟩ = some (.int .u8 (an2 : Int)) ∧ (wr.setCell ⟨b8 + 1, r, none⟩ (.int .u8 (cn2 : Int))).drew.cell? ⟨g, kk * 3 + 2, none⟩ = some (.int .u8 (cn2 : Int)) from ⟨p4, p5⟩)
                  clear p0 p1 p2 p4 p5 hp1 hp2 hxn2 hcn2 hbx hnx hgl x9 hws hr hya2
                  go_wp2_with fail
                  go_region_held3 (fun w' => w'.cell? ⟨g, kk * 3 + 1, none⟩ = some (.int .u8 (an2 : Int)) ∧ w'.cell? ⟨g, kk * 3 + 2, none⟩ = some (.int .u8 (cn2 : Int)))
                    (first | exact HQ.out | exact HQ2.out | go_keep)
                    (first | fail)
                  go_upto_region 29 with fail
                  have hbd := (Below.refl (wr.setCell ⟨b8 + 1, r, none⟩ (.int .u8 (cn2 : Int))).heap.size (wr.setCell ⟨b8 + 1, r, none⟩ (.int .u8 (cn2 : Int)))).drew
                  have K4 := Lib.hid (And.intro (DBox.up K3.out.1 hbd) (And.intro (K3.out.2.1.up hbd) (And.intro (K3.out.2.2.1.below hbd) (And.intro (K3.out.2.2.2.1.below hbd) (And.intro (K3.out.2.2.2.2.1.below hbd) (And.intro (K3.out.2.2.2.2.2.1.up hbd) (And.intro (K3.out.2.2.2.2.2.2.1.drew) (And.intro (DBox.up K3.out.2.2.2.2.2.2.2.1 hbd) (K3.out.2.2.2.2.2.2.2.2.up hbd)))))))))
                  clear hbd K3 KS HQ HQ2 f9 t9
                  generalize World.drew _ = wA at *
                  by_cases hlt3 : kk < room
                  · obtain ⟨p0, p1, p2⟩ := K4.out.2.2.2.2.2.1.at_ ha2
                    simp only at p1 p2
                    rw [HX2.out.2.2.2] at p1
                    rw [HX2.out.1] at p2
                    have hmk : min kk room = kk := by omega
                    rw [hmk] at K4
                    have f9 := K4.out.2.2.2.2.1.frozen r
                    obtain ⟨y9, t9⟩ : ∃ y, wA.cell? ⟨b8 + 1 + 1, r, none⟩ = some (bv y) := by
                      have h1 := arr_cell K4.out.2.2.2.2.1 r
                      rw [List.getElem?_eq_getElem (show r < (lup F ((acs L).take kk)).length by rw [lup_length]; omega)] at h1
                      exact ⟨_, h1⟩
                    have x9 := arr_set (i := r) (x := xc2) K4.out.2.2.2.2.1
                    rw [HX2.out.1, ← HX2.out.2.1] at x9
                    have K6 := Lib.hid (And.intro (show DBox _ b5 X A5 c5 B5 k5 from box_other (b := b8 + 1 + 1) (i := r) (v := .int .u8 (cn2 : Int)) K4.out.1 (by omega)) (And.intro (K4.out.2.1.small (i := r) (v := .int .u8 (cn2 : Int)) HWX.out.1 K4.out.2.2.2.2.1 (by rw [lup_length]; omega)) (And.intro (box_other (b := b8 + 1 + 1) (i := r) (v := .int .u8 (cn2 : Int)) K4.out.2.2.1 (by omega)) (And.intro (box_other (b := b8 + 1 + 1) (i := r) (v := .int .u8 (cn2 : Int)) K4.out.2.2.2.1 (by omega)) (And.intro x9 (And.intro (K4.out.2.2.2.2.2.1.set (b := b8 + 1 + 1) (i := r) (v := .int .u8 (cn2 : Int)) (by omega)) (And.intro (K4.out.2.2.2.2.2.2.1.setCell (p := ⟨b8 + 1 + 1, r, none⟩) (by show w.heap.size ≤ b8 + 1 + 1; omega) (.int .u8 (cn2 : Int))) (And.intro (show DBox _ b17 S A8 c8 B8 k8 from box_other (b := b8 + 1 + 1) (i := r) (v := .int .u8 (cn2 : Int)) K4.out.2.2.2.2.2.2.2.1 (by omega)) (K4.out.2.2.2.2.2.2.2.2.small (i := r) (v := .int .u8 (cn2 : Int)) HWS.out K4.out.2.2.2.2.1 (by rw [lup_length]; omega))))))))))
                    have HQ := Lib.hid (show wA.drew.cell? ⟨g, kk * 3 + 1, none⟩ = some (.int .u8 (an2 : Int)) ∧ wA.drew.cell? ⟨g, kk * 3 + 2, none⟩ = some (.int .u8 (cn2 : Int)) from ⟨p1, p2⟩)
                    obtain ⟨_, p4, p5⟩ := K6.out.2.2.2.2.2.1.at_ ha2
                    simp only at p4 p5
                    rw [HX2.out.2.2.2] at p4
                    rw [HX2.out.1] at p5
                    have HQ2 := Lib.hid (show (wA.setCell ⟨b8 + 1 + 1, r, none⟩ (.int .u8 (cn2 : Int))).drew.cell? ⟨g, kk * 3 + 1, none⟩ = some (.int .u8 (an2 : Int)) ∧ (wA.setCell ⟨b8 + 1 + 1, r, none⟩ (.int .u8 (cn2 : Int))).drew.cell? ⟨g, kk * 3 + 2, none⟩ = some (.int .u8 (cn2 : Int)) from ⟨p4, p5⟩)
                    clear p0 p1 p2 p4 p5 x9 hmk
                    go_wp2_with fail
                    go_region_held3 (fun w' => w'.cell? ⟨g, kk * 3 + 1, none⟩ = some (.int .u8 (an2 : Int)) ∧ w'.cell? ⟨g, kk * 3 + 2, none⟩ = some (.int .u8 (cn2 : Int)))
                      (first | exact HQ.out | exact HQ2.out | go_keep)
                      (first | fail)
                    have hbd := (Below.refl (wA.setCell ⟨b8 + 1 + 1, r, none⟩ (.int .u8 (cn2 : Int))).heap.size (wA.setCell ⟨b8 + 1 + 1, r, none⟩ (.int .u8 (cn2 : Int)))).drew
                    have K7 := Lib.hid (And.intro (DBox.up K6.out.1 hbd) (And.intro (K6.out.2.1.up hbd) (And.intro (K6.out.2.2.1.below hbd) (And.intro (K6.out.2.2.2.1.below hbd) (And.intro (K6.out.2.2.2.2.1.below hbd) (And.intro (K6.out.2.2.2.2.2.1.up hbd) (And.intro (K6.out.2.2.2.2.2.2.1.drew) (And.intro (DBox.up K6.out.2.2.2.2.2.2.2.1 hbd) (K6.out.2.2.2.2.2.2.2.2.up hbd)))))))))
                    clear hbd K6 K4 HQ HQ2 f9 t9
                    generalize World.drew _ = wB at *
                    go_wp2_with fail
                    go_roundw
                    case rel =>
                      have m1 : min (kk + 1) room = kk + 1 := by omega
                      exact ⟨kk + 1, by omega, by omega, by go_num, K7.out.1, K7.out.2.1, K7.out.2.2.1, K7.out.2.2.2.1, by rw [m1]; exact K7.out.2.2.2.2.1, K7.out.2.2.2.2.2⟩
                    case measure => simp [intOf]; omega
                  · go_wp2_with fail
                    go_roundw
                    case rel =>
                      have m1 : min (kk + 1) room = min kk room := by omega
                      exact ⟨kk + 1, by omega, by omega, by go_num, K4.out.1, K4.out.2.1, K4.out.2.2.1, K4.out.2.2.2.1, by rw [m1]; exact K4.out.2.2.2.2.1, K4.out.2.2.2.2.2⟩
                    case measure => simp [intOf]; omega
                · go_wp2_with fail
                  go_meet
                  case rel =>
                    have m1 : min len (room + 1) = kk := by omega
                    have m2 : min len room = min kk room := by omega
                    rw [m1, m2]
                    exact KS.out
              · obtain rfl : kk = len := by omega
                go_wp2_with fail
                go_meet
                case rel =>
                  have m1 : min kk (room + 1) = kk := by omega
                  rw [m1]
                  exact KS.out
          case rest =>
            have KT := Lib.hid hcut
            clear hcut K2
            by_cases hst : room < len
            · have hPt : P = true := by rw [← HP.out]; exact decide_eq_true (by omega)
              subst hPt
              obtain ⟨rfl, hs2, hs3⟩ := HSS.out.2 hst
              have m1 : min len (room + 1) = room + 1 := by omega
              have m2 : min len room = room := by omega
              rw [m1, m2] at KT
              have q3 : wc.cell? ⟨b17, 3, none⟩ = some (.bool true) := by have := KT.out.2.2.2.2.2.2.2.1.cells.2.2.2; rw [hs2] at this; exact this
              have hF1 : (lup F ((acs L).take (room + 1))).length = 4 := by rw [lup_length]; exact hF4
              have hF2 : (lup F ((acs L).take room)).length = 4 := by rw [lup_length]; exact hF4
              have hhd := fun (k : Nat) hk => hd_rd (F := lup F ((acs L).take (room + 1))) (S := lup F ((acs L).take room)) (ws := []) (left := -1) hF1 hF2 (by decide) (fun a ha => by cases ha) (by omega) (by omega) k hk
              have x9 := KT.out.2.2.2.1
              have x10 := KT.out.2.2.2.2.1
              obtain ⟨f0, f1, f2, f3, hfa⟩ := four_of hF1
              obtain ⟨s0, s1, s2, s3, hfb⟩ := four_of hF2
              have hrs := hs3
              obtain ⟨R, hR⟩ : ∃ R, rs S = R := ⟨_, rfl⟩
              rw [hR] at hrs
              rw [← hrs] at hhd
              rw [hfa] at hhd x9
              rw [hfb] at hhd x10
              have HHO := Lib.hid (fun W (hi : DkIn W R A8 c8 none 0) => holds_any R A8 none c8 0 f0 f1 f2 f3 s0 s1 s2 s3 W hi hhd)
              have HRS := Lib.hid (restart_any S A8 B8 c8 k8 wc.drew (KT.out.2.2.2.2.2.2.2.2.up (Below.refl wc.heap.size wc).drew).1)
              rw [hR] at HRS
              unfold dkv dkc at HHO HRS
              have hxb := KT.out.2.2.2.2.2.2.2.1
              have HKW := Lib.hid (fun W (hb : Below wc.heap.size wc W) => And.intro (DBox.up hxb hb).cells (And.intro (x9.below hb) (x10.below hb)))
              rw [hs2] at HKW
              have HK := Lib.hid (fun W (hb : Below wc.heap.size wc W) => show W.cell? ⟨b17, 0, none⟩ = some (.slice A8 S.secs.length c8) ∧ W.cell? ⟨b17, 1, none⟩ = some (.slice B8 S.pend.length k8) ∧ W.cell? ⟨b17, 2, none⟩ = some (.int .i64 S.left) ∧ W.cell? ⟨b17, 3, none⟩ = some (.bool true) ∧ W.cell? ⟨b8 + 1, 0, none⟩ = some (bv f0) ∧ W.cell? ⟨b8 + 1, 1, none⟩ = some (bv f1) ∧ W.cell? ⟨b8 + 1, 2, none⟩ = some (bv f2) ∧ W.cell? ⟨b8 + 1, 3, none⟩ = some (bv f3) ∧ W.cell? ⟨b8 + 1 + 1, 0, none⟩ = some (bv s0) ∧ W.cell? ⟨b8 + 1 + 1, 1, none⟩ = some (bv s1) ∧ W.cell? ⟨b8 + 1 + 1, 2, none⟩ = some (bv s2) ∧ W.cell? ⟨b8 + 1 + 1, 3, none⟩ = some (bv s3) from ⟨(HKW.out W hb).1.1, (HKW.out W hb).1.2.1, (HKW.out W hb).1.2.2.1, (HKW.out W hb).1.2.2.2, (HKW.out W hb).2.1.cell 0, (HKW.out W hb).2.1.cell 1, (HKW.out W hb).2.1.cell 2, (HKW.out W hb).2.1.cell 3, (HKW.out W hb).2.2.cell 0, (HKW.out W hb).2.2.cell 1, (HKW.out W hb).2.2.cell 2, (HKW.out W hb).2.2.cell 3⟩)
              have HBW := Lib.hid KT.out.2.2.2.2.2.2.1
              rw [hs2] at HRS
              clear q3 m1 m2 hs2 hs3 HSS KT
              clear hF1 hF2 hhd x9 x10 hfa hfb hrs hR hxb
              go_upto_region 32 with fail
              go_region_held3 (fun w' => w'.cell? ⟨b17, 0, none⟩ = some (.slice A8 S.secs.length c8) ∧ w'.cell? ⟨b17, 1, none⟩ = some (.slice B8 S.pend.length k8) ∧ w'.cell? ⟨b17, 2, none⟩ = some (.int .i64 S.left) ∧ w'.cell? ⟨b17, 3, none⟩ = some (.bool true) ∧ w'.cell? ⟨b8 + 1, 0, none⟩ = some (bv f0) ∧ w'.cell? ⟨b8 + 1, 1, none⟩ = some (bv f1) ∧ w'.cell? ⟨b8 + 1, 2, none⟩ = some (bv f2) ∧ w'.cell? ⟨b8 + 1, 3, none⟩ = some (bv f3) ∧ w'.cell? ⟨b8 + 1 + 1, 0, none⟩ = some (bv s0) ∧ w'.cell? ⟨b8 + 1 + 1, 1, none⟩ = some (bv s1) ∧ w'.cell? ⟨b8 + 1 + 1, 2, none⟩ = some (bv s2) ∧ w'.cell? ⟨b8 + 1 + 1, 3, none⟩ = some (bv s3))
                (with_reducible first | exact HK.out _ (Below.refl wc.heap.size wc).drew | exact HK.out _ B9.out | exact HK.out _ B10.out | go_keep)
                (first
                  | (go_at_call 17; (with_reducible refine HRS.out.mono ?_); rintro e w9 ⟨rfl, i9, hb9⟩; have B9 := Lib.hid ((Below.refl wc.heap.size wc).drew.trans hb9); have I9 := Lib.hid i9; clear i9 hb9)
                  | (go_at_call 28; (with_reducible refine (HHO.out w9 I9.out).mono ?_); rintro e w10 ⟨rfl, hb10⟩; have B10 := Lib.hid (bthen (a := wc) B9.out hb10); clear hb10)
                  | fail)
              all_goals
                go_wp2_with fail
                go_ret
              exact ⟨rfl, bthen HBW.out B10.out⟩
            · have hPt : P = false := by rw [← HP.out]; exact decide_eq_false (by omega)
              subst hPt
              obtain ⟨rfl, hs2⟩ := HSS.out.1 (by omega)
              have m1 : min len (room + 1) = len := by omega
              have m2 : min len room = len := by omega
              rw [m1, m2, List.take_of_length_le (show (acs L).length ≤ len by rw [acs_length, HLE.out]; exact Nat.le_refl _)] at KT
              obtain ⟨rr, hrr⟩ : ∃ rr, room - len = rr := ⟨_, rfl⟩
              rw [hrr] at hs2
              have hwr : IntKind.i64.wrap ((room : Int) - (len : Int)) = (rr : Int) := by rw [IntKind.wrap_i64]; omega
              have hrr2 : rr ≤ 255 := by omega
              have hF42 : (lup F (acs L)).length = 4 := by rw [lup_length]; exact hF4
              have hhd := fun (k : Nat) hk => hd_rd (F := lup F (acs L)) (S := lup F (acs L)) (ws := []) (left := (rr : Int)) hF42 hF42 (by decide) (fun a ha => by cases ha) (by omega) (by omega) k hk
              rw [← hs2] at hhd
              have HHD := Lib.hid hhd
              have HS2 := Lib.hid hs2
              have hba := (Below.refl wc.heap.size wc).alloc (Nat.le_refl _) (.cells #[] 46)
              have hlo := KT.out.2.2.2.2.2.1.lo
              have K5 := Lib.hid (And.intro (DBox.up KT.out.1 hba) (And.intro (KT.out.2.1.up hba) (And.intro (KT.out.2.2.1.below hba) (And.intro (KT.out.2.2.2.1.below hba) (And.intro (KT.out.2.2.2.2.1.below hba) (And.intro (WT.new wc (b8 + 1 + 1 + 1) (by omega)) (And.intro (bthen KT.out.2.2.2.2.2.2.1 hba) (And.intro (DBox.up KT.out.2.2.2.2.2.2.2.1 hba) (KT.out.2.2.2.2.2.2.2.2.up hba)))))))))
              clear hs2 hrr hst m1 m2 hba hlo KT HSS HP hhd
              go_upto_region 37 with fail
              generalize World.alloc _ (.cells #[] 46) = wE at *
              generalize wc.heap.size = gE at *
              have ST := Lib.hid (dk_store K5.out.2.2.2.2.2.2.2.2 HWS.out K5.out.1 K5.out.2.1 (n0 := w.heap.size) hzw)
              have hk4 := fun {g : Nat} {t : TypeId} {cs : Array Value} (h : Box wE g cs t) (hne : g ≠ b5) => box_keep4 (.slice A8 S.secs.length c8) (.slice B8 S.pend.length k8) (.int .i64 S.left) (.bool S.stop) h hne
              have K8 := Lib.hid (And.intro ST.out.1 (And.intro ST.out.2.1 (And.intro (hk4 K5.out.2.2.1 (by omega)) (And.intro (hk4 K5.out.2.2.2.1 (by omega)) (And.intro (hk4 K5.out.2.2.2.2.1 (by omega)) (And.intro ((((K5.out.2.2.2.2.2.1.set (b := b5) (i := 0) (v := .slice A8 S.secs.length c8) (by omega)).set (b := b5) (i := 1) (v := .slice B8 S.pend.length k8) (by omega)).set (b := b5) (i := 2) (v := .int .i64 S.left) (by omega)).set (b := b5) (i := 3) (v := .bool S.stop) (by omega)) (K5.out.2.2.2.2.2.2.1.trans ST.out.2.2)))))))
              obtain ⟨r0, r1, r2, r3⟩ := K5.out.2.2.2.2.2.2.2.1.cells
              obtain ⟨q0, q1, q2, q3⟩ := K5.out.1.cells
              have g0 := Box.frozen K5.out.1 0
              have g1 := Box.frozen K5.out.1 1
              have g2 := Box.frozen K5.out.1 2
              have g3 := Box.frozen K5.out.1 3
              clear ST hk4 K5
              go_upto_region 38 with fail
              generalize World.setCell _ ⟨b5, 3, none⟩ _ = wS at *
              clear r0 r1 r2 r3 q0 q1 q2 q3 g0 g1 g2 g3
              obtain ⟨f0, f1, f2, f3, hLa⟩ := four_of hF42
              have hho := holds_any S A8 B8 c8 k8 f0 f1 f2 f3 f0 f1 f2 f3 wS K8.out.2.1 (by intro k hk; have := HHD.out k hk; rw [hLa] at this; exact this)
              have x8 := K8.out.2.2.1
              rw [hLa] at x8
              have HHO := Lib.hid hho
              obtain ⟨t0, t1, t2, t3⟩ : wS.cell? ⟨b8, 0, none⟩ = some (bv f0) ∧ wS.cell? ⟨b8, 1, none⟩ = some (bv f1) ∧ wS.cell? ⟨b8, 2, none⟩ = some (bv f2) ∧ wS.cell? ⟨b8, 3, none⟩ = some (bv f3) := ⟨x8.cell 0, x8.cell 1, x8.cell 2, x8.cell 3⟩
              unfold dkv dkc at HHO
              clear hho hLa x8
              obtain ⟨q0, q1, q2, q3⟩ := K8.out.1.cells
              go_wp2_with fail
              refine HHO.out.mono ?_
              rintro e w20 ⟨rfl, hb20⟩
              clear q0 q1 q2 q3 t0 t1 t2 t3 HHO
              have K12 := Lib.hid (And.intro (DBox.up K8.out.1 hb20) (And.intro (K8.out.2.1.up hb20) (And.intro (K8.out.2.2.1.below hb20) (And.intro (K8.out.2.2.2.1.below hb20) (And.intro (K8.out.2.2.2.2.1.below hb20) (And.intro (K8.out.2.2.2.2.2.1.up hb20) (bthen K8.out.2.2.2.2.2.2 hb20)))))))
              clear hb20 K8
              go_wp2_with fail
              go_roundw
              case rel => exact ⟨k + 1, rr, lup F (acs L), [], gE, 0, A8, c8, B8, k8, by omega, rfl, rfl, by go_num, Nat.zero_le _, hrr2, hF42, by rw [show acs [] = [] from rfl, ← HS2.out]; exact K12.out.1, by rw [show acs [] = [] from rfl, ← HS2.out]; exact K12.out.2.1, K12.out.2.2.1, K12.out.2.2.2.1, K12.out.2.2.2.2.1, K12.out.2.2.2.2.2.1, K12.out.2.2.2.2.2.2⟩
              case measure => simp [intOf]; omega
      · obtain rfl : k = n := by omega
        have hX2 : rs (hd F F (acs L) room) = hd F F [] (-1) := rfl
        obtain ⟨X, hX⟩ : ∃ X, hd F F (acs L) room = X := ⟨_, rfl⟩
        rw [hX] at KR hX2 hrg
        have hF1 : F.length = 4 := hF4
        have hF2 : F.length = 4 := hF4
        have hhd := fun (k : Nat) hk => hd_rd (F := F) (S := F) (ws := []) (left := -1) hF1 hF2 (by decide) (fun a ha => by cases ha) (by omega) (by omega) k hk
        have x9 := KR.out.2.2.2.1
        have x10 := KR.out.2.2.2.2.1
        obtain ⟨f0, f1, f2, f3, hfa⟩ := four_of hF1
        have hrs := hX2
        obtain ⟨R, hR⟩ : ∃ R, rs X = R := ⟨_, rfl⟩
        rw [hR] at hrs
        rw [← hrs] at hhd
        rw [hfa] at hhd x9 x10
        have HHO := Lib.hid (fun W (hi : DkIn W R A5 c5 none 0) => holds_any R A5 none c5 0 f0 f1 f2 f3 f0 f1 f2 f3 W hi hhd)
        have HRS := Lib.hid (restart_any X A5 B5 c5 k5 wr.drew (KR.out.2.1.up (Below.refl wr.heap.size wr).drew).1)
        rw [hR] at HRS
        unfold dkv dkc at HHO HRS
        have hxb := KR.out.1
        have HKW := Lib.hid (fun W (hb : Below wr.heap.size wr W) => And.intro (DBox.up hxb hb).cells (And.intro (x9.below hb) (x10.below hb)))
        have HK := Lib.hid (fun W (hb : Below wr.heap.size wr W) => show W.cell? ⟨b5, 0, none⟩ = some (.slice A5 X.secs.length c5) ∧ W.cell? ⟨b5, 1, none⟩ = some (.slice B5 X.pend.length k5) ∧ W.cell? ⟨b5, 2, none⟩ = some (.int .i64 X.left) ∧ W.cell? ⟨b5, 3, none⟩ = some (.bool X.stop) ∧ W.cell? ⟨b8 + 1, 0, none⟩ = some (bv f0) ∧ W.cell? ⟨b8 + 1, 1, none⟩ = some (bv f1) ∧ W.cell? ⟨b8 + 1, 2, none⟩ = some (bv f2) ∧ W.cell? ⟨b8 + 1, 3, none⟩ = some (bv f3) ∧ W.cell? ⟨b8 + 1 + 1, 0, none⟩ = some (bv f0) ∧ W.cell? ⟨b8 + 1 + 1, 1, none⟩ = some (bv f1) ∧ W.cell? ⟨b8 + 1 + 1, 2, none⟩ = some (bv f2) ∧ W.cell? ⟨b8 + 1 + 1, 3, none⟩ = some (bv f3) from ⟨(HKW.out W hb).1.1, (HKW.out W hb).1.2.1, (HKW.out W hb).1.2.2.1, (HKW.out W hb).1.2.2.2, (HKW.out W hb).2.1.cell 0, (HKW.out W hb).2.1.cell 1, (HKW.out W hb).2.1.cell 2, (HKW.out W hb).2.1.cell 3, (HKW.out W hb).2.2.cell 0, (HKW.out W hb).2.2.cell 1, (HKW.out W hb).2.2.cell 2, (HKW.out W hb).2.2.cell 3⟩)
        have HBW := Lib.hid KR.out.2.2.2.2.2.2
        clear hX2 hX hrg KR
        clear hF1 hF2 hhd x9 x10 hfa hrs hR hxb
        go_upto_region 40 with fail
        go_region_held3 (fun w' => w'.cell? ⟨b5, 0, none⟩ = some (.slice A5 X.secs.length c5) ∧ w'.cell? ⟨b5, 1, none⟩ = some (.slice B5 X.pend.length k5) ∧ w'.cell? ⟨b5, 2, none⟩ = some (.int .i64 X.left) ∧ w'.cell? ⟨b5, 3, none⟩ = some (.bool X.stop) ∧ w'.cell? ⟨b8 + 1, 0, none⟩ = some (bv f0) ∧ w'.cell? ⟨b8 + 1, 1, none⟩ = some (bv f1) ∧ w'.cell? ⟨b8 + 1, 2, none⟩ = some (bv f2) ∧ w'.cell? ⟨b8 + 1, 3, none⟩ = some (bv f3) ∧ w'.cell? ⟨b8 + 1 + 1, 0, none⟩ = some (bv f0) ∧ w'.cell? ⟨b8 + 1 + 1, 1, none⟩ = some (bv f1) ∧ w'.cell? ⟨b8 + 1 + 1, 2, none⟩ = some (bv f2) ∧ w'.cell? ⟨b8 + 1 + 1, 3, none⟩ = some (bv f3))
          (with_reducible first | exact HK.out _ (Below.refl wr.heap.size wr).drew | exact HK.out _ B9.out | exact HK.out _ B10.out | go_keep)
          (first
            | (go_at_call 17; (with_reducible refine HRS.out.mono ?_); rintro e w9 ⟨rfl, i9, hb9⟩; have B9 := Lib.hid ((Below.refl wr.heap.size wr).drew.trans hb9); have I9 := Lib.hid i9; clear i9 hb9)
            | (go_at_call 28; (with_reducible refine (HHO.out w9 I9.out).mono ?_); rintro e w10 ⟨rfl, hb10⟩; have B10 := Lib.hid (bthen (a := wr) B9.out hb10); clear hb10)
            | fail)
        all_goals
          go_wp2_with fail
          go_ret
        exact ⟨rfl, bthen HBW.out B10.out⟩
end Go.Proofs.Ytiphajgmjmjanaa
