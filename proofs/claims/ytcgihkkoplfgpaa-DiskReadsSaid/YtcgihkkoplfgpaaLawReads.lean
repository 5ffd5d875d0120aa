/- DiskReads. -/
import Derived.Test.YtcgihkkoplfgpaaSane
import Derived.Test.YtcgihkkoplfgpaaFew
import Derived.Test.YtcgihkkoplfgpaaSame
import Derived.Test.YtcgihkkoplfgpaaPlS
import Derived.Deep.Cut
import Derived.Deep.RegionHeld3
namespace Go.Proofs.Ytcgihkkoplfgpaa
open Go.RowKit
set_option linter.unusedVariables false
set_option linter.unusedSimpArgs false

theorem dkin_box {w v : World} {b n0 : Nat} {d : Dk} {A B : Option Addr} {c k : Nat} (h : DBox w b d A c B k) (hb : Below w.heap.size w v) : DBox v b d A c B k := h.up hb

/-- An operation is taken first; its slot is told. -/
theorem takeD {P : Program} {md : Region.Mode} {ops : Array Oper} {Q : Exit → Act → World → Prop} {S : World → Prop} {d : Option Tmp} {i : Nat} {oi : Oper} {v : Value} {fuel : Nat} {listed : Array Bool} {a : Act} {w : World} (hi : ops[i]? = some oi) (hd : oi.dst = d)
    (hs : Region.noSelect ops = true) (hf : Region.free md ops listed i = true) (hr : (Region.ready md ops listed).contains i = true)
    (hQ : ∀ c a w, Q (.panic c) (a.put oi.dst v) w → Q (.panic c) a w) (hy : YieldsIf P ops S oi v a) (hS : S w)
    (h : wpAnyH P md ops Q S fuel (listed.setIfInBounds i true) (a.put d v) w) : wpAnyH P md ops Q S (fuel + 1) listed a w :=
  wpAnyH_take hi hs hf hr hQ hy hS (hd ▸ h)
/-- A front part of a slice. -/
theorem Sl.front {w : World} {A : Option Addr} {l : List UInt8} {c : Nat} (h : Sl w A l c) (n : Nat) : Sl w A (l.take n) c := by
  refine ⟨fun hp => ?_, ?_, h.2.2.1, fun e => ?_⟩
  · obtain ⟨b, off, e, hb, hc⟩ := h.1 (by rw [List.length_take] at hp; omega)
    refine ⟨b, off, e, hb, fun i s hi => hc i s ?_⟩
    rw [List.getElem?_take] at hi
    split at hi
    · exact hi
    · cases hi
  · have := h.2.1
    rw [List.length_take]
    omega
  · obtain ⟨e1, e2⟩ := h.2.2.2 e
    exact ⟨by rw [e1]; simp, e2⟩

set_option maxHeartbeats 40000000 in
set_option maxRecDepth 100000 in
theorem lawReads_any (d : Dk) (A B D C : Option Addr) (ca k0 kd kc : Nat) (i o : Int) (b c : List UInt8) (w : World) (hS : DkIn w d A ca B k0) (hD : Sl w D b kd) (hC : Sl w C c kc) :
    Calls Try.prog 7 #[dkv d A ca B k0, .int .i64 i, .int .i64 o, .slice D b.length kd, .slice C c.length kc] w fun e w' => e = .returned (.bool true) ∧ Below w.heap.size w w' := by
  obtain ⟨hx1, hi1, hb1⟩ := dk_put hS
  have HSN := Lib.hid (fun W => sane_any W)
  have HFW := Lib.hid (fun W (hb : Below w.heap.size w W) => few_any d A B ca k0 W (hS.up hb))
  have HF := Lib.hid (fun W (hb : Below w.heap.size w W) => And.intro (hS.up hb) (And.intro (hD.up hb) (hC.up hb)))
  have HR1 := Lib.hid (fun W (hb : Below w.heap.size w W) => read_any d A B ca k0 o W (hS.up hb))
  have HW1 := Lib.hid (fun W (hb : Below w.heap.size w W) => write_any d A B D ca k0 kd i b W (hS.up hb) (hD.up hb))
  have hbm := Nat.le_trans hD.2.1 hD.2.2.1
  have hcm := Nat.le_trans hC.2.1 hC.2.2.1
  unfold maxLen at hbm hcm
  obtain ⟨m1, m2⟩ := dkin_len hS
  have H1 := Lib.hid (And.intro hx1 hb1)
  unfold DkPost at *
  unfold RdPost at *
  unfold FewPost at *
  unfold dkv dkc at *
  clear hS hD hC hx1 hi1 hb1
  obtain ⟨mb, hmb⟩ : ∃ mb, b.length = mb := ⟨_, rfl⟩
  obtain ⟨mc, hmc⟩ : ∃ mc, c.length = mc := ⟨_, rfl⟩
  obtain ⟨N, hN⟩ : ∃ N, d.secs.length = N := ⟨_, rfl⟩
  obtain ⟨M, hM⟩ : ∃ M, d.pend.length = M := ⟨_, rfl⟩
  rw [hmb] at HW1 hbm
  rw [hmc] at hcm
  rw [hN] at HFW HR1 HW1 m1 H1
  rw [hM] at HFW HR1 HW1 m2 H1
  rw [hmb, hmc, hN, hM]
  have HN := Lib.hid (And.intro hN (And.intro hM (And.intro hmb hmc)))
  clear hmb hmc hN hM
  have hre := rde_cases d o
  have hwe := wre_cases d i b
  obtain ⟨e1, he1⟩ : ∃ e1, rde d o = e1 := ⟨_, rfl⟩
  obtain ⟨e2, he2⟩ : ∃ e2, wre d i b = e2 := ⟨_, rfl⟩
  obtain ⟨R1, hR1⟩ : ∃ R1, rd d o = R1 := ⟨_, rfl⟩
  obtain ⟨X, hX⟩ : ∃ X, wr d i b = X := ⟨_, rfl⟩
  rw [he1, hR1] at HR1
  rw [he2, hX] at HW1
  rw [he1] at hre
  rw [he2] at hwe
  have HE := Lib.hid (And.intro he1 (And.intro he2 (And.intro hR1 hX)))
  clear he1 he2 hR1 hX
  have HCS := Lib.hid (And.intro hre hwe)
  clear hre hwe
  go_enter Try.func7, Try.ntmps7
  go_wp2_with fail
  generalize w.alloc _ = u1 at *
  refine (HSN.out u1).mono ?_
  rintro e w1 ⟨rfl, hb1⟩
  have K1 := Lib.hid (And.intro (DBox.up H1.out.1 hb1) (bthen H1.out.2 hb1))
  clear hb1 H1
  obtain ⟨q0, q1, q2, q3⟩ := K1.out.1.cells
  rw [HN.out.1] at q0
  rw [HN.out.2.1] at q1
  go_wp2_with fail
  refine (HFW.out w1 K1.out.2).mono ?_
  rintro e w2 ⟨r, rfl, hb2⟩
  have K2 := Lib.hid (And.intro (DBox.up K1.out.1 hb2) (bthen K1.out.2 hb2))
  clear hb2 q0 q1 q2 q3 K1
  cases r
  · go_wp2_with fail
    go_ret
    exact ⟨rfl, K2.out.2⟩
  · by_cases hbig : 128 < mb
    · have hd1 : decide ((128 : Int) < (mb : Int)) = true := decide_eq_true (by omega)
      have hd2 : (128 : Int) < (mb : Int) := by omega
      go_wp2_with fail
      go_ret
      exact ⟨rfl, K2.out.2⟩
    · have hd1 : decide ((128 : Int) < (mb : Int)) = false := decide_eq_false (by omega)
      have hd2 : ¬ (128 : Int) < (mb : Int) := by omega
      by_cases hbig2 : 128 < mc
      · have hd3 : decide ((128 : Int) < (mc : Int)) = true := decide_eq_true (by omega)
        have hd4 : (128 : Int) < (mc : Int) := by omega
        go_wp2_with fail
        go_ret
        exact ⟨rfl, K2.out.2⟩
      · have hd3 : decide ((128 : Int) < (mc : Int)) = false := decide_eq_false (by omega)
        have hd4 : ¬ (128 : Int) < (mc : Int) := by omega
        obtain ⟨q0, q1, q2, q3⟩ := K2.out.1.cells
        rw [HN.out.1] at q0
        rw [HN.out.2.1] at q1
        go_wp2_with fail
        clear hd1 hd2 hd3 hd4
        refine (HR1.out w2 K2.out.2).mono ?_
        rintro e w3 ⟨A3, c3, rfl, hs3, hb3⟩
        have K3 := Lib.hid (And.intro (DBox.up K2.out.1 hb3) (And.intro hs3 (bthen K2.out.2 hb3)))
        clear q0 q1 q2 q3 hs3 hb3 K2
        obtain ⟨q0, q1, q2, q3⟩ := K3.out.1.cells
        rw [HN.out.1] at q0
        rw [HN.out.2.1] at q1
        go_wp2_with fail
        refine (HW1.out w3 K3.out.2.2).mono ?_
        rintro e w4 ⟨A4, c4, B4, k4, rfl, hx4, hb4⟩
        have K4 := Lib.hid (And.intro (DBox.up K3.out.1 hb4) (And.intro (K3.out.2.1.up hb4) (And.intro hx4 (bthen K3.out.2.2 hb4))))
        clear q0 q1 q2 q3 hx4 hb4 K3
        go_upto_region 7 with (fail)
        have K5 : Go.RowKit.Hid (DBox (w4.alloc (.cells #[.slice A4 X.secs.length c4, .slice B4 X.pend.length k4, .int .i64 X.left, .bool X.stop] 25)) w.heap.size d A ca B k0 ∧
          DBox (w4.alloc (.cells #[.slice A4 X.secs.length c4, .slice B4 X.pend.length k4, .int .i64 X.left, .bool X.stop] 25)) w4.heap.size X A4 c4 B4 k4 ∧
          Sl (w4.alloc (.cells #[.slice A4 X.secs.length c4, .slice B4 X.pend.length k4, .int .i64 X.left, .bool X.stop] 25)) A3 R1 c3 ∧
          DkIn (w4.alloc (.cells #[.slice A4 X.secs.length c4, .slice B4 X.pend.length k4, .int .i64 X.left, .bool X.stop] 25)) X A4 c4 B4 k4 ∧
          Below w.heap.size w (w4.alloc (.cells #[.slice A4 X.secs.length c4, .slice B4 X.pend.length k4, .int .i64 X.left, .bool X.stop] 25))) := by
          obtain ⟨p1, p2, p3⟩ := dk_put K4.out.2.2.1
          exact Lib.hid ⟨DBox.up K4.out.1 p3, p1, K4.out.2.1.up p3, p2, bthen K4.out.2.2.2 p3⟩
        generalize w4.alloc _ = v4 at *
        clear HR1 HW1 K4 HFW HSN
        obtain ⟨hre, hwe⟩ := HCS.out
        clear HCS
        rcases hre with rfl | rfl
        · rcases hwe with rfl | rfl | rfl | rfl
          · obtain ⟨he1, he2, hR1, hX⟩ := HE.out
            obtain ⟨g1, g2, g3, g4, g5⟩ := reads_one (k := i) (b := b) he1 he2 (by rw [HN.out.2.2.1]; omega)
            have g6 := wr_secs he2
            have hgx := wr_rng he2
            rw [hX] at g1 g2 g3 g4 g6 hgx
            rw [hR1] at g4
            have HX0 := K5.out.2.2.2.1
            have HRX := Lib.hid (fun W (hb : Below v4.heap.size v4 W) => read_any X A4 B4 c4 k4 o W (HX0.up hb))
            have HRY := Lib.hid (fun W (hb : Below v4.heap.size v4 W) => read_any X A4 B4 c4 k4 i W (HX0.up hb))
            have HWX := Lib.hid (fun W (hb : Below v4.heap.size v4 W) => write_any X A4 B4 C c4 k4 kc o c W (HX0.up hb) ((HF.out v4 K5.out.2.2.2.2).2.2.up hb))
            have hwe := reads_two (c := c) g1 (by rw [HN.out.2.2.2]; omega)
            rw [g1] at HRX
            rw [g2] at HRY
            rw [HN.out.2.2.2] at HWX
            have hl3 : (rd X i).length = 128 := by rw [g3]; exact sec_length b
            have hpre : (rd X i).take mb = b := by rw [g3, ← HN.out.2.2.1]; exact g5
            obtain ⟨e3, he3⟩ : ∃ e3, wre X o c = e3 := ⟨_, rfl⟩
            obtain ⟨R2, hR2⟩ : ∃ R2, rd X o = R2 := ⟨_, rfl⟩
            obtain ⟨R3, hR3⟩ : ∃ R3, rd X i = R3 := ⟨_, rfl⟩
            obtain ⟨Y, hY⟩ : ∃ Y, wr X o c = Y := ⟨_, rfl⟩
            rw [he3] at HWX hwe
            rw [hY] at HWX
            rw [hR2] at HRX g4
            rw [hR3] at HRY hl3 hpre
            unfold DkPost at HWX
            unfold RdPost at HRX HRY
            rw [hl3] at HRY
            unfold dkv dkc at HRX HRY HWX
            have HG := Lib.hid (And.intro g4 (And.intro g6 (And.intro hgx (And.intro he3 (And.intro hY (And.intro hl3 hpre))))))
            have HCS := Lib.hid hwe
            clear g1 g2 g3 g4 g5 g6 he1 he2 hR1 hX he3 hR2 hR3 hY hl3 hpre hwe hgx HX0
            have K6 := Lib.hid (And.intro K5.out.1 (And.intro K5.out.2.1 (And.intro K5.out.2.2.1 (And.intro (Below.refl v4.heap.size v4) K5.out.2.2.2.2))))
            clear K5
            obtain ⟨q0, q1, q2, q3⟩ := K6.out.2.1.cells
            go_wp2_with fail
            refine (HRX.out v4 K6.out.2.2.2.1).mono ?_
            rintro e w5 ⟨A5, c5, rfl, hs5, hb5⟩
            have K7 := Lib.hid (And.intro (DBox.up K6.out.1 hb5) (And.intro (DBox.up K6.out.2.1 hb5) (And.intro (K6.out.2.2.1.up hb5) (And.intro (bthen K6.out.2.2.2.1 hb5) (And.intro (bthen K6.out.2.2.2.2 hb5) hs5)))))
            clear q0 q1 q2 q3 hs5 hb5 K6
            obtain ⟨q0, q1, q2, q3⟩ := K7.out.2.1.cells
            go_wp2_with fail
            refine (HRY.out w5 K7.out.2.2.2.1).mono ?_
            rintro e w6 ⟨A6, c6, rfl, hs6, hb6⟩
            have K8 := Lib.hid (And.intro (DBox.up K7.out.1 hb6) (And.intro (DBox.up K7.out.2.1 hb6) (And.intro (K7.out.2.2.1.up hb6) (And.intro (bthen K7.out.2.2.2.1 hb6) (And.intro (bthen K7.out.2.2.2.2.1 hb6) (And.intro (K7.out.2.2.2.2.2.up hb6) hs6))))))
            clear q0 q1 q2 q3 hs6 hb6 K7 HRX HRY
            go_upto_region 11 with (fail)
            have hc6 := K8.out.2.2.2.2.2.2.2.1
            rw [HG.out.2.2.2.2.2.1] at hc6
            obtain ⟨b6, off6, rfl, hb6, hat6⟩ := K8.out.2.2.2.2.2.2.1 (by rw [HG.out.2.2.2.2.2.1]; omega)
            clear hb6 hat6
            have i1 : (0 : Int) ≤ (mb : Int) := by omega
            have i2 : (mb : Int) ≤ (c6 : Int) := by omega
            have s1 := sl_str (show Sl w6.drew (some ⟨b6, off6, none⟩) (R3.take mb) c6 from K8.out.2.2.2.2.2.2.front mb) (n := mb) (by rw [List.length_take, HG.out.2.2.2.2.2.1]; omega)
            rw [HG.out.2.2.2.2.2.2] at s1
            have s2 := sl_str (show Sl w6.drew D b kd from (HF.out w6 K8.out.2.2.2.2.1).2.1) HN.out.2.2.1
            generalize ByteArray.mk b.toArray = str at s1 s2
            have s3 := sl_str (show Sl w6.drew A5 R2 c5 from K8.out.2.2.2.2.2.1) rfl
            have s4 := sl_str (show Sl w6.drew A3 R1 c3 from K8.out.2.2.1) rfl
            go_cut [106] from 74 (fun t W7 => t = .bool false ∧ Below w6.heap.size w6 W7)
            case first =>
              by_cases hio : i = o
              · have hio2 : (i != o) = false := by rw [hio]; exact bne_self_eq_false' o
                clear hio
                clear s3 s4
                have HQ := Lib.hid (show (convert 35 9 (.slice (some ⟨b6, off6, none⟩) mb c6)).run Try.prog w6.drew = .ok (.string str) w6.drew ∧ (convert 35 9 (.slice D mb kd)).run Try.prog w6.drew = .ok (.string str) w6.drew from ⟨s1, s2⟩)
                clear s1 s2
                refine wp_region_held_drew (S := (fun w' => (convert 35 9 (.slice (some ⟨b6, off6, none⟩) mb c6)).run Try.prog w' = .ok (.string str) w' ∧ (convert 35 9 (.slice D mb kd)).run Try.prog w' = .ok (.string str) w')) (by kernel_rfl) HQ.out (fun hHeld => ?_)
                refine takeD (d := some 74) (i := 0) (v := ?v0) rfl rfl (by kernel_rfl) (by kernel_rfl) (by kernel_rfl) (fun _ _ _ h => h) (Or.inl ⟨by rfl, ?y0⟩) (by assumption) ?r0
                case y0 =>
                  intro w hSw
                  try dsimp only at hSw
                  go_simp
                  all_goals with_reducible rfl
                try simp only [Act.put, List.setIfInBounds_toArray, List.set_cons_zero, List.set_cons_succ]
                refine takeD (d := some 75) (i := 1) (v := ?v1) rfl rfl (by kernel_rfl) (by kernel_rfl) (by kernel_rfl) (fun _ _ _ h => h) (Or.inl ⟨by rfl, ?y1⟩) (by assumption) ?r1
                case y1 =>
                  intro w hSw
                  try dsimp only at hSw
                  go_simp
                  all_goals with_reducible rfl
                try simp only [Act.put, List.setIfInBounds_toArray, List.set_cons_zero, List.set_cons_succ]
                refine takeD (d := some 76) (i := 2) (v := ?v2) rfl rfl (by kernel_rfl) (by kernel_rfl) (by kernel_rfl) (fun _ _ _ h => h) (Or.inl ⟨by rfl, ?y2⟩) (by assumption) ?r2
                case y2 =>
                  intro w hSw
                  try dsimp only at hSw
                  go_simp
                  all_goals with_reducible rfl
                try simp only [Act.put, List.setIfInBounds_toArray, List.set_cons_zero, List.set_cons_succ]
                refine takeD (d := some 77) (i := 3) (v := ?v3) rfl rfl (by kernel_rfl) (by kernel_rfl) (by kernel_rfl) (fun _ _ _ h => h) (Or.inl ⟨by rfl, ?y3⟩) (by assumption) ?r3
                case y3 =>
                  intro w hSw
                  try dsimp only at hSw
                  go_simp
                  all_goals with_reducible rfl
                try simp only [Act.put, List.setIfInBounds_toArray, List.set_cons_zero, List.set_cons_succ]
                refine takeD (d := some 78) (i := 4) (v := ?v4) rfl rfl (by kernel_rfl) (by kernel_rfl) (by kernel_rfl) (fun _ _ _ h => h) (Or.inl ⟨by rfl, ?y4⟩) (by assumption) ?r4
                case y4 =>
                  intro w hSw
                  try dsimp only at hSw
                  go_simp
                  all_goals with_reducible rfl
                try simp only [Act.put, List.setIfInBounds_toArray, List.set_cons_zero, List.set_cons_succ]
                refine takeD (d := some 79) (i := 5) (v := ?v5) rfl rfl (by kernel_rfl) (by kernel_rfl) (by kernel_rfl) (fun _ _ _ h => h) (Or.inl ⟨by rfl, ?y5⟩) (by assumption) ?r5
                case y5 =>
                  intro w hSw
                  try dsimp only at hSw
                  go_simp
                  all_goals with_reducible rfl
                try simp only [Act.put, List.setIfInBounds_toArray, List.set_cons_zero, List.set_cons_succ]
                refine takeD (d := some 80) (i := 6) (v := ?v6) rfl rfl (by kernel_rfl) (by kernel_rfl) (by kernel_rfl) (fun _ _ _ h => h) (Or.inl ⟨by rfl, ?y6⟩) (by assumption) ?r6
                case y6 =>
                  intro w hSw
                  try dsimp only at hSw
                  go_simp
                  all_goals with_reducible rfl
                try simp only [Act.put, List.setIfInBounds_toArray, List.set_cons_zero, List.set_cons_succ]
                refine takeD (d := some 81) (i := 7) (v := ?v7) rfl rfl (by kernel_rfl) (by kernel_rfl) (by kernel_rfl) (fun _ _ _ h => h) (Or.inl ⟨by rfl, ?y7⟩) (by assumption) ?r7
                case y7 =>
                  intro w hSw
                  try dsimp only at hSw
                  go_simp
                  all_goals with_reducible rfl
                try simp only [Act.put, List.setIfInBounds_toArray, List.set_cons_zero, List.set_cons_succ]
                refine takeD (d := some 82) (i := 8) (v := ?v8) rfl rfl (by kernel_rfl) (by kernel_rfl) (by kernel_rfl) (fun _ _ _ h => h) (Or.inl ⟨by rfl, ?y8⟩) (by assumption) ?r8
                case y8 =>
                  intro w hSw
                  try dsimp only at hSw
                  go_simp
                  all_goals with_reducible rfl
                try simp only [Act.put, List.setIfInBounds_toArray, List.set_cons_zero, List.set_cons_succ]
                refine takeD (d := some 83) (i := 9) (v := ?v9) rfl rfl (by kernel_rfl) (by kernel_rfl) (by kernel_rfl) (fun _ _ _ h => h) (Or.inl ⟨by rfl, ?y9⟩) (by assumption) ?r9
                case y9 =>
                  intro w hSw
                  try dsimp only at hSw
                  go_simp
                  all_goals with_reducible rfl
                try simp only [Act.put, List.setIfInBounds_toArray, List.set_cons_zero, List.set_cons_succ]
                refine takeD (d := some 84) (i := 10) (v := ?v10) rfl rfl (by kernel_rfl) (by kernel_rfl) (by kernel_rfl) (fun _ _ _ h => h) (Or.inl ⟨by rfl, ?y10⟩) (by assumption) ?r10
                case y10 =>
                  intro w hSw
                  try dsimp only at hSw
                  go_simp
                  all_goals with_reducible rfl
                try simp only [Act.put, List.setIfInBounds_toArray, List.set_cons_zero, List.set_cons_succ]
                refine takeD (d := some 85) (i := 11) (v := ?v11) rfl rfl (by kernel_rfl) (by kernel_rfl) (by kernel_rfl) (fun _ _ _ h => h) (Or.inl ⟨by rfl, ?y11⟩) (by assumption) ?r11
                case y11 =>
                  intro w hSw
                  try dsimp only at hSw
                  go_simp
                  all_goals with_reducible rfl
                try simp only [Act.put, List.setIfInBounds_toArray, List.set_cons_zero, List.set_cons_succ]
                refine takeD (d := some 86) (i := 12) (v := ?v12) rfl rfl (by kernel_rfl) (by kernel_rfl) (by kernel_rfl) (fun _ _ _ h => h) (Or.inl ⟨by rfl, ?y12⟩) (by assumption) ?r12
                case y12 =>
                  intro w hSw
                  try dsimp only at hSw
                  go_simp
                  all_goals with_reducible rfl
                try simp only [Act.put, List.setIfInBounds_toArray, List.set_cons_zero, List.set_cons_succ]
                refine takeD (d := some 87) (i := 13) (v := ?v13) rfl rfl (by kernel_rfl) (by kernel_rfl) (by kernel_rfl) (fun _ _ _ h => h) (Or.inl ⟨by rfl, ?y13⟩) (by assumption) ?r13
                case y13 =>
                  intro w hSw
                  try dsimp only at hSw
                  go_simp
                  all_goals with_reducible rfl
                try simp only [Act.put, List.setIfInBounds_toArray, List.set_cons_zero, List.set_cons_succ]
                refine takeD (d := some 88) (i := 14) (v := ?v14) rfl rfl (by kernel_rfl) (by kernel_rfl) (by kernel_rfl) (fun _ _ _ h => h) (Or.inl ⟨by rfl, ?y14⟩) (by assumption) ?r14
                case y14 =>
                  intro w hSw
                  try dsimp only at hSw
                  go_simp
                  all_goals with_reducible rfl
                try simp only [Act.put, List.setIfInBounds_toArray, List.set_cons_zero, List.set_cons_succ]
                refine takeD (d := some 89) (i := 15) (v := ?v15) rfl rfl (by kernel_rfl) (by kernel_rfl) (by kernel_rfl) (fun _ _ _ h => h) (Or.inl ⟨by rfl, ?y15⟩) (by assumption) ?r15
                case y15 =>
                  intro w hSw
                  try dsimp only at hSw
                  go_simp
                  all_goals with_reducible rfl
                try simp only [Act.put, List.setIfInBounds_toArray, List.set_cons_zero, List.set_cons_succ]
                refine takeD (d := some 90) (i := 16) (v := ?v16) rfl rfl (by kernel_rfl) (by kernel_rfl) (by kernel_rfl) (fun _ _ _ h => h) (Or.inl ⟨by rfl, ?y16⟩) (by assumption) ?r16
                case y16 =>
                  intro w hSw
                  try dsimp only at hSw
                  go_simp
                  all_goals with_reducible rfl
                try simp only [Act.put, List.setIfInBounds_toArray, List.set_cons_zero, List.set_cons_succ]
                refine takeD (d := some 91) (i := 17) (v := ?v17) rfl rfl (by kernel_rfl) (by kernel_rfl) (by kernel_rfl) (fun _ _ _ h => h) (Or.inl ⟨by rfl, ?y17⟩) (by assumption) ?r17
                case y17 =>
                  intro w hSw
                  try dsimp only at hSw
                  go_simp
                  all_goals with_reducible rfl
                try simp only [Act.put, List.setIfInBounds_toArray, List.set_cons_zero, List.set_cons_succ]
                refine takeD (d := some 92) (i := 18) (v := ?v18) rfl rfl (by kernel_rfl) (by kernel_rfl) (by kernel_rfl) (fun _ _ _ h => h) (Or.inl ⟨by rfl, ?y18⟩) (by assumption) ?r18
                case y18 =>
                  intro w hSw
                  try dsimp only at hSw
                  go_simp
                  all_goals with_reducible rfl
                try simp only [Act.put, List.setIfInBounds_toArray, List.set_cons_zero, List.set_cons_succ]
                refine takeD (d := some 93) (i := 19) (v := ?v19) rfl rfl (by kernel_rfl) (by kernel_rfl) (by kernel_rfl) (fun _ _ _ h => h) (Or.inl ⟨by rfl, ?y19⟩) (by assumption) ?r19
                case y19 =>
                  intro w hSw
                  try dsimp only at hSw
                  go_simp
                  all_goals with_reducible rfl
                try simp only [Act.put, List.setIfInBounds_toArray, List.set_cons_zero, List.set_cons_succ]
                refine takeD (d := some 94) (i := 20) (v := ?v20) rfl rfl (by kernel_rfl) (by kernel_rfl) (by kernel_rfl) (fun _ _ _ h => h) (Or.inl ⟨by rfl, ?y20⟩) (by assumption) ?r20
                case y20 =>
                  intro w hSw
                  try dsimp only at hSw
                  go_simp
                  all_goals with_reducible rfl
                try simp only [Act.put, List.setIfInBounds_toArray, List.set_cons_zero, List.set_cons_succ]
                refine takeD (d := some 95) (i := 21) (v := ?v21) rfl rfl (by kernel_rfl) (by kernel_rfl) (by kernel_rfl) (fun _ _ _ h => h) (Or.inl ⟨by rfl, ?y21⟩) (by assumption) ?r21
                case y21 =>
                  intro w hSw
                  try dsimp only at hSw
                  go_simp
                  all_goals with_reducible rfl
                try simp only [Act.put, List.setIfInBounds_toArray, List.set_cons_zero, List.set_cons_succ]
                refine takeD (d := some 96) (i := 22) (v := ?v22) rfl rfl (by kernel_rfl) (by kernel_rfl) (by kernel_rfl) (fun _ _ _ h => h) (Or.inl ⟨by rfl, ?y22⟩) (by assumption) ?r22
                case y22 =>
                  intro w hSw
                  try dsimp only at hSw
                  go_simp
                  all_goals with_reducible rfl
                try simp only [Act.put, List.setIfInBounds_toArray, List.set_cons_zero, List.set_cons_succ]
                refine takeD (d := some 97) (i := 23) (v := ?v23) rfl rfl (by kernel_rfl) (by kernel_rfl) (by kernel_rfl) (fun _ _ _ h => h) (Or.inl ⟨by rfl, ?y23⟩) (by assumption) ?r23
                case y23 =>
                  intro w hSw
                  try dsimp only at hSw
                  go_simp
                  all_goals with_reducible rfl
                try simp only [Act.put, List.setIfInBounds_toArray, List.set_cons_zero, List.set_cons_succ]
                refine takeD (d := some 98) (i := 24) (v := ?v24) rfl rfl (by kernel_rfl) (by kernel_rfl) (by kernel_rfl) (fun _ _ _ h => h) (Or.inl ⟨by rfl, ?y24⟩) (by assumption) ?r24
                case y24 =>
                  intro w hSw
                  try dsimp only at hSw
                  go_simp
                  all_goals with_reducible rfl
                try simp only [Act.put, List.setIfInBounds_toArray, List.set_cons_zero, List.set_cons_succ]
                refine takeD (d := some 99) (i := 25) (v := ?v25) rfl rfl (by kernel_rfl) (by kernel_rfl) (by kernel_rfl) (fun _ _ _ h => h) (Or.inl ⟨by rfl, ?y25⟩) (by assumption) ?r25
                case y25 =>
                  intro w hSw
                  try dsimp only at hSw
                  go_simp
                  all_goals with_reducible rfl
                try simp only [Act.put, List.setIfInBounds_toArray, List.set_cons_zero, List.set_cons_succ]
                refine takeD (d := some 100) (i := 26) (v := undef) rfl rfl (by kernel_rfl) (by kernel_rfl) (by kernel_rfl) (fun _ _ _ h => h) (Or.inr ⟨by rfl, rfl⟩) (by assumption) ?_
                try simp only [Act.put, List.setIfInBounds_toArray, List.set_cons_zero, List.set_cons_succ]
                refine takeD (d := some 101) (i := 27) (v := undef) rfl rfl (by kernel_rfl) (by kernel_rfl) (by kernel_rfl) (fun _ _ _ h => h) (Or.inr ⟨by rfl, rfl⟩) (by assumption) ?_
                try simp only [Act.put, List.setIfInBounds_toArray, List.set_cons_zero, List.set_cons_succ]
                refine takeD (d := some 102) (i := 28) (v := undef) rfl rfl (by kernel_rfl) (by kernel_rfl) (by kernel_rfl) (fun _ _ _ h => h) (Or.inr ⟨by rfl, rfl⟩) (by assumption) ?_
                try simp only [Act.put, List.setIfInBounds_toArray, List.set_cons_zero, List.set_cons_succ]
                refine takeD (d := some 103) (i := 29) (v := undef) rfl rfl (by kernel_rfl) (by kernel_rfl) (by kernel_rfl) (fun _ _ _ h => h) (Or.inr ⟨by rfl, rfl⟩) (by assumption) ?_
                try simp only [Act.put, List.setIfInBounds_toArray, List.set_cons_zero, List.set_cons_succ]
                refine takeD (d := some 104) (i := 30) (v := undef) rfl rfl (by kernel_rfl) (by kernel_rfl) (by kernel_rfl) (fun _ _ _ h => h) (Or.inr ⟨by rfl, rfl⟩) (by assumption) ?_
                try simp only [Act.put, List.setIfInBounds_toArray, List.set_cons_zero, List.set_cons_succ]
                refine takeD (d := some 105) (i := 31) (v := ?v31) rfl rfl (by kernel_rfl) (by kernel_rfl) (by kernel_rfl) (fun _ _ _ h => h) (Or.inl ⟨by rfl, ?y31⟩) (by assumption) ?r31
                case y31 =>
                  intro w hSw
                  try dsimp only at hSw
                  go_simp
                  all_goals with_reducible rfl
                try simp only [Act.put, List.setIfInBounds_toArray, List.set_cons_zero, List.set_cons_succ]
                refine takeD (d := some 106) (i := 32) (v := ?v32) rfl rfl (by kernel_rfl) (by kernel_rfl) (by kernel_rfl) (fun _ _ _ h => h) (Or.inl ⟨by rfl, ?y32⟩) (by assumption) ?r32
                case y32 =>
                  intro w hSw
                  try dsimp only at hSw
                  go_simp
                  all_goals with_reducible rfl
                try simp only [Act.put, List.setIfInBounds_toArray, List.set_cons_zero, List.set_cons_succ]
                refine wpAnyH_done (by kernel_rfl) ?_ _
                go_wp2_with fail
                go_meet
                case rel => exact ⟨rfl, (Below.refl _ w6).drew⟩
              · have h21 := HG.out.1 hio
                subst h21
                generalize ByteArray.mk R2.toArray = str2 at s3 s4
                have hio2 : (i != o) = true := by simpa using hio
                have HQ := Lib.hid (show (convert 35 9 (.slice (some ⟨b6, off6, none⟩) mb c6)).run Try.prog w6.drew = .ok (.string str) w6.drew ∧ (convert 35 9 (.slice D mb kd)).run Try.prog w6.drew = .ok (.string str) w6.drew ∧
                  (convert 35 9 (.slice A5 R2.length c5)).run Try.prog w6.drew = .ok (.string str2) w6.drew ∧ (convert 35 9 (.slice A3 R2.length c3)).run Try.prog w6.drew = .ok (.string str2) w6.drew from ⟨s1, s2, s3, s4⟩)
                clear s1 s2 s3 s4
                go_region_held3 (fun w' => (convert 35 9 (.slice (some ⟨b6, off6, none⟩) mb c6)).run Try.prog w' = .ok (.string str) w' ∧ (convert 35 9 (.slice D mb kd)).run Try.prog w' = .ok (.string str) w' ∧
                  (convert 35 9 (.slice A5 R2.length c5)).run Try.prog w' = .ok (.string str2) w' ∧ (convert 35 9 (.slice A3 R2.length c3)).run Try.prog w' = .ok (.string str2) w')
                  (first | exact HQ.out | go_keep)
                  (first | fail)
                all_goals
                  go_wp2_with fail
                  go_meet
                  case rel => exact ⟨rfl, (Below.refl _ w6).drew⟩
            case rest =>
              obtain ⟨rfl, hbc⟩ := hcut
              have K9 : Go.RowKit.Hid (DBox wc w.heap.size d A ca B k0 ∧ DBox wc w4.heap.size X A4 c4 B4 k4 ∧ Below v4.heap.size v4 wc ∧ Below w.heap.size w wc) :=
                Lib.hid ⟨K8.out.1.up hbc, K8.out.2.1.up hbc, bthen K8.out.2.2.2.1 hbc, bthen K8.out.2.2.2.2.1 hbc⟩
              clear K8 i1 i2 hc6 hbc s1 s2 s3 s4
              go_upto_region 13 with (fail)
              obtain ⟨q0, q1, q2, q3⟩ := K9.out.2.1.cells
              go_wp2_with fail
              refine (HWX.out wc K9.out.2.2.1).mono ?_
              rintro e w7 ⟨A7, c7, B7, k7, rfl, hx7, hb7⟩
              have K10 := Lib.hid (And.intro (DBox.up K9.out.1 hb7) (And.intro hx7 (bthen K9.out.2.2.2 hb7)))
              clear q0 q1 q2 q3 hx7 hb7 K9 HWX
              go_upto_region 14 with (fail)
              have K11 : Go.RowKit.Hid (DBox (w7.alloc (.cells #[.slice A7 Y.secs.length c7, .slice B7 Y.pend.length k7, .int .i64 Y.left, .bool Y.stop] 25)) w.heap.size d A ca B k0 ∧
                DBox (w7.alloc (.cells #[.slice A7 Y.secs.length c7, .slice B7 Y.pend.length k7, .int .i64 Y.left, .bool Y.stop] 25)) w7.heap.size Y A7 c7 B7 k7 ∧
                DkIn (w7.alloc (.cells #[.slice A7 Y.secs.length c7, .slice B7 Y.pend.length k7, .int .i64 Y.left, .bool Y.stop] 25)) Y A7 c7 B7 k7 ∧
                Below w.heap.size w (w7.alloc (.cells #[.slice A7 Y.secs.length c7, .slice B7 Y.pend.length k7, .int .i64 Y.left, .bool Y.stop] 25))) := by
                obtain ⟨p1, p2, p3⟩ := dk_put K10.out.2.1
                exact Lib.hid ⟨DBox.up K10.out.1 p3, p1, p2, bthen K10.out.2.2 p3⟩
              have hz7 : w.heap.size < w7.heap.size := Box.lt K10.out.1
              clear K10
              generalize w7.alloc _ = v7 at *
              obtain ⟨hR3, hX, hgx, he3, hY, hl3, hpre⟩ := HG.out
              rcases HCS.out with rfl | rfl
              · have hgy := wr_rng he3
                have hsy := wr_secs he3
                rw [hY] at hgy hsy
                have HYN := Lib.hid (show Y.secs.length = N by rw [hsy, hX]; exact HN.out.1)
                have hcs := reads_sync hgy
                have HSY := Lib.hid (sync_any Y A7 B7 c7 k7 v7 K11.out.2.2.1)
                have HY0 := K11.out.2.2.1
                have HRY := Lib.hid (fun W (k : Int) (hb : Below v7.heap.size v7 W) => read_any Y A7 B7 c7 k7 k W (HY0.up hb))
                obtain ⟨e4, he4⟩ : ∃ e4, sye Y = e4 := ⟨_, rfl⟩
                obtain ⟨Z, hZ⟩ : ∃ Z, sy Y = Z := ⟨_, rfl⟩
                rw [he4, hZ] at hcs HSY
                unfold DkPost at HSY
                unfold RdPost at HRY
                unfold dkv dkc at HSY HRY
                clear hgy hsy hgx he3 hY hl3 hpre hR3 hX HY0 he4 hZ HG HCS HE
                obtain ⟨q0, q1, q2, q3⟩ := K11.out.2.1.cells
                go_wp2_with fail
                refine HSY.out.mono ?_
                rintro e w8 ⟨A8, c8, B8, k8, rfl, hx8, hb8⟩
                have K12 := Lib.hid (And.intro (DBox.up K11.out.1 hb8) (And.intro (DBox.up K11.out.2.1 hb8) (And.intro hx8 (And.intro hb8 (bthen K11.out.2.2.2 hb8)))))
                clear q0 q1 q2 q3 hx8 hb8 K11 HSY
                go_upto_region 17 with (fail)
                have K13 : Go.RowKit.Hid (DBox (w8.alloc (.cells #[.slice A8 Z.secs.length c8, .slice B8 Z.pend.length k8, .int .i64 Z.left, .bool Z.stop] 25)) w.heap.size d A ca B k0 ∧
                  DBox (w8.alloc (.cells #[.slice A8 Z.secs.length c8, .slice B8 Z.pend.length k8, .int .i64 Z.left, .bool Z.stop] 25)) w7.heap.size Y A7 c7 B7 k7 ∧
                  DBox (w8.alloc (.cells #[.slice A8 Z.secs.length c8, .slice B8 Z.pend.length k8, .int .i64 Z.left, .bool Z.stop] 25)) w8.heap.size Z A8 c8 B8 k8 ∧
                  DkIn (w8.alloc (.cells #[.slice A8 Z.secs.length c8, .slice B8 Z.pend.length k8, .int .i64 Z.left, .bool Z.stop] 25)) Z A8 c8 B8 k8 ∧
                  Below v7.heap.size v7 (w8.alloc (.cells #[.slice A8 Z.secs.length c8, .slice B8 Z.pend.length k8, .int .i64 Z.left, .bool Z.stop] 25)) ∧
                  Below w.heap.size w (w8.alloc (.cells #[.slice A8 Z.secs.length c8, .slice B8 Z.pend.length k8, .int .i64 Z.left, .bool Z.stop] 25))) := by
                  obtain ⟨p1, p2, p3⟩ := dk_put K12.out.2.2.1
                  exact Lib.hid ⟨DBox.up K12.out.1 p3, DBox.up K12.out.2.1 p3, p1, p2, bthen K12.out.2.2.2.1 p3, bthen K12.out.2.2.2.2 p3⟩
                have hz8 : w.heap.size < w8.heap.size := Box.lt K12.out.1
                have hz78 : w7.heap.size < w8.heap.size := Box.lt K12.out.2.1
                clear K12
                generalize w8.alloc _ = v8 at *
                rcases hcs with ⟨rfl, hp0, hck, hrk⟩ | ⟨rfl, hst⟩
                · have HRZ := Lib.hid (fun W (k : Int) (hb : Below v8.heap.size v8 W) => read_any Z A8 B8 c8 k8 k W (K13.out.2.2.2.1.up hb))
                  have HCK := Lib.hid (fun W (hb : Below v8.heap.size v8 W) => check_any Z A8 B8 c8 k8 W (K13.out.2.2.2.1.up hb))
                  rw [hck] at HCK
                  unfold RdPost at HRZ
                  unfold dkv dkc at HRZ HCK
                  rw [hp0] at HCK
                  have HRK := Lib.hid hrk
                  have HP := Lib.hid hp0
                  clear hck hrk hp0
                  obtain ⟨q0, q1, q2, q3⟩ := K13.out.1.cells
                  rw [HN.out.1] at q0
                  go_wp2_with fail
                  clear q0 q1 q2 q3
                  go_loopw [23] (fun i wr => ∃ k : Nat, k ≤ N ∧ i = .int .i64 k ∧ Below v8.heap.size v8 wr) (fun i _ => N - (intOf i).toNat)
                  case atStart => exact ⟨0, Nat.zero_le _, rfl, Below.refl _ _⟩
                  case round =>
                    obtain ⟨k, hk, rfl, hbw⟩ := hrel
                    have KR := Lib.hid (And.intro (K13.out.1.up hbw) (And.intro (K13.out.2.1.up hbw) (And.intro (K13.out.2.2.1.up hbw) hbw)))
                    clear hbw
                    have x0 := KR.out.1.cell 0
                    simp only [dkc, List.getElem?_toArray, List.getElem?_cons_zero, List.getElem?_cons_succ] at x0
                    rw [HN.out.1] at x0
                    by_cases hlt : k < N
                    · have i1 : (0 : Int) ≤ (k : Int) := by omega
                      have i2 : (k : Int) < (N : Int) := by omega
                      obtain ⟨h1, h2, h3⟩ := HRK.out k (by rw [HYN.out]; exact hlt)
                      have h4 := HRY.out wr k (bthen K13.out.2.2.2.2.1 KR.out.2.2.2)
                      rw [h1] at h4
                      have HR4 := Lib.hid h4
                      have HR5 := Lib.hid (fun W hb => HRZ.out W k hb)
                      rw [h2, h3] at HR5
                      obtain ⟨RK, hRK⟩ : ∃ RK, rd Y k = RK := ⟨_, rfl⟩
                      rw [hRK] at HR4 HR5
                      clear h1 h2 h3 h4 hRK
                      obtain ⟨q0, q1, q2, q3⟩ := KR.out.2.1.cells
                      go_wp2_with fail
                      refine HR4.out.mono ?_
                      rintro e w9 ⟨A9, c9, rfl, hs9, hb9⟩
                      have K14 := Lib.hid (And.intro (KR.out.2.2.1.up hb9) (And.intro hs9 (bthen KR.out.2.2.2 hb9)))
                      clear q0 q1 q2 q3 x0 hs9 hb9 KR HR4
                      obtain ⟨q0, q1, q2, q3⟩ := K14.out.1.cells
                      go_wp2_with fail
                      refine (HR5.out w9 K14.out.2.2).mono ?_
                      rintro e w10 ⟨A10, c10, rfl, hs10, hb10⟩
                      have K15 := Lib.hid (And.intro (K14.out.2.1.up hb10) (And.intro hs10 (bthen K14.out.2.2 hb10)))
                      clear q0 q1 q2 q3 hs10 hb10 K14 HR5
                      have s1 := sl_str K15.out.1 rfl
                      have s2 := sl_str K15.out.2.1 rfl
                      generalize ByteArray.mk RK.toArray = str at s1 s2
                      generalize RK.length = lk at *
                      go_wp2_with fail
                      go_roundw
                      case rel => exact ⟨k + 1, by omega, by go_num, K15.out.2.2⟩
                      case measure => simp [intOf]; omega
                    · obtain rfl : k = N := by omega
                      obtain ⟨q0, q1, q2, q3⟩ := KR.out.2.2.1.cells
                      rw [HP.out] at q1
                      go_wp2_with fail
                      refine (HCK.out wr KR.out.2.2.2).mono ?_
                      rintro e w9 ⟨rfl, hb9⟩
                      have K14 := Lib.hid (bthen (bthen K13.out.2.2.2.2.2 KR.out.2.2.2) hb9)
                      clear q0 q1 q2 q3 x0 hb9 KR
                      go_wp2_with fail
                      go_ret
                      exact ⟨rfl, K14.out⟩
                · obtain ⟨q0, q1, q2, q3⟩ := K13.out.2.2.1.cells
                  rw [hst] at q3
                  go_wp2_with fail
                  go_ret
                  exact ⟨rfl, K13.out.2.2.2.2.2⟩
              · go_wp2_with fail
                go_ret
                exact ⟨rfl, K11.out.2.2.2⟩
          · go_wp2_with fail
            go_ret
            exact ⟨rfl, K5.out.2.2.2.2⟩
          · go_wp2_with fail
            go_ret
            exact ⟨rfl, K5.out.2.2.2.2⟩
          · go_wp2_with fail
            go_ret
            exact ⟨rfl, K5.out.2.2.2.2⟩
        · go_wp2_with fail
          go_ret
          exact ⟨rfl, K5.out.2.2.2.2⟩
end Go.Proofs.Ytcgihkkoplfgpaa
