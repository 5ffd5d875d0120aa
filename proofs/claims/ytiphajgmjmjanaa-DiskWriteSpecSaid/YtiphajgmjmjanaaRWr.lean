/- The reference's Write. -/
import Derived.Test.YtiphajgmjmjanaaRw
import Derived.Deep.Cut
namespace Go.Proofs.Ytiphajgmjmjanaa
open Go.RowKit
set_option linter.unusedVariables false
set_option linter.unusedSimpArgs false

set_option maxHeartbeats 4000000 in
set_option maxRecDepth 100000 in
theorem rwrite_ok (d : Dk) (A B D : Option Addr) (c k0 kd : Nat) (i : Int) (b : List UInt8) (w : World) (hS : DkIn w d A c B k0) (hD : Sl w D b kd) (q1 : vld d = true) (q2 : d.stop = false) (hh : has d i = true) (hb : b.length ≤ 128) (hp : d.pend.length < 4096) :
    Calls Try.prog 20 #[dkv d A c B k0, .int .i64 i, .slice D b.length kd] w (DkPost { d with pend := d.pend ++ [(i, sec b)] } 0 w) := by
  have h2 := two_new w d A c B k0
  have HR := Lib.hid (rcheck_any d A B c k0 _ (hS.up h2.below))
  rw [show chk d = 0 by unfold chk; rw [q1]; rfl] at HR
  have H2 := Lib.hid h2
  have HF := Lib.hid (fun W (hb : Below w.heap.size w W) => And.intro (hS.up hb) (hD.up hb))
  obtain ⟨hi0, hi1⟩ := has_facts hh
  have HPM := Lib.hid (show ∀ x ∈ d.pend ++ [(i, sec b)], x.2.length = 128 from fun x hx => by
    rcases List.mem_append.1 hx with h | h
    · exact ((vld_facts.1 q1).2.2.2.2 x h).2
    · rw [List.mem_singleton.1 h]; exact sec_length b)
  unfold DkPost
  unfold dkv dkc at *
  clear h2 hS hD hh q1
  have HQ2 := Lib.hid q2
  clear q2
  obtain ⟨N, hN⟩ : ∃ N, d.secs.length = N := ⟨_, rfl⟩
  obtain ⟨m, hm⟩ : ∃ m, d.pend.length = m := ⟨_, rfl⟩
  obtain ⟨mb, hmb⟩ : ∃ mb, b.length = mb := ⟨_, rfl⟩
  rw [hN, hm] at HR H2
  rw [hm] at hp
  rw [hmb] at hb
  rw [hN] at hi1
  rw [hN, hm, hmb]
  have HN := Lib.hid (And.intro hN (And.intro hm hmb))
  clear hN hm hmb
  obtain ⟨iN, rfl⟩ : ∃ iN : Nat, i = (iN : Int) := ⟨i.toNat, by omega⟩
  rw [HQ2.out] at HR H2 ⊢
  have hd1 : decide ((iN : Int) < 0) = false := decide_eq_false (by omega)
  have hd2 : decide ((N : Int) ≤ (iN : Int)) = false := decide_eq_false (by omega)
  have hd2c : decide (N ≤ iN) = false := decide_eq_false (by omega)
  have hd2b : iN < N := by omega
  have hd3 : decide ((128 : Int) < (mb : Int)) = false := decide_eq_false (by omega)
  have hd4 : ¬ (128 : Int) < (mb : Int) := by omega
  have hm1 : ((m : Int) == 4096) = false := by simp; omega
  go_enter Try.func20, Try.ntmps20
  go_wp2_with fail
  generalize World.alloc _ _ = W at *
  refine HR.out.mono ?_
  rintro e w1 ⟨rfl, hb1⟩
  obtain ⟨⟨⟨b0, b1, b2, b3⟩, e0, e1, e2, e3⟩, ⟨⟨r0, r1, r2, r3⟩, g0, g1, g2, g3⟩⟩ := H2.out.facts hb1
  rw [HN.out.1] at b0
  rw [HN.out.2.1] at b1
  rw [HQ2.out] at b3
  have HB1 := Lib.hid hb1
  clear hb1 r0 r1 r2 r3 g0 g1 g2 g3 HR
  have hbw := Lib.hid (H2.out.below.trans (HB1.out.mono H2.out.below.size))
  have HS1 := Lib.hid (HF.out w1 hbw.out)
  have hmb6 : mb ≤ 1000000 := by omega
  go_upto_region 7 with fail
  clear b0 b1 b2 b3 e0 e1 e2 e3
  go_wp2_with (first
    | (at_builtin; go_must (refine wpList_append_bytes (w0 := w1) rfl (.tmp 37) (.tmp 38) rfl (some ⟨w1.heap.size, 0, none⟩) [] 0 0 rfl rfl (Row8.start w1) D b mb kd HN.out.2.2 rfl (HS1.out.2.up ((Below.refl w1.heap.size w1).alloc (Nat.le_refl _) _)) mb (Nat.zero_add mb) hmb6 ?_; intro A1 c1 w2 hR1; have HR1 := Lib.hid hR1; clear hR1)))

  go_loopw [8] (fun v wr => ∃ (j m8 : Nat) (A' : Option Addr) (c' : Nat), j ≤ 128 - mb ∧ m8 = mb + j ∧ v = .slice A' m8 c' ∧ Row8 w1 wr A' (b ++ List.replicate j 0) c') (fun v _ => 1000000 - (match v with | .slice _ m _ => m | _ => 0))
  case atStart => exact ⟨0, mb, A1, c1, Nat.zero_le _, rfl, rfl, by rw [List.replicate_zero, List.append_nil]; exact HR1.out⟩
  case round =>
    clear HR1
    obtain ⟨j, m8, A', c', hj, hm, rfl, hR⟩ := hrel
    have HR := Lib.hid hR
    have hlen : (b ++ List.replicate j 0).length = m8 := by rw [List.length_append, List.length_replicate, HN.out.2.2]; omega
    have HLEN := Lib.hid hlen
    clear hR hlen
    by_cases hlt : j < 128 - mb
    · have hm6 : m8 + 1 ≤ 1000000 := by omega
      have hd5 : decide ((m8 : Int) < (128 : Int)) = true := decide_eq_true (by omega)
      have hd6 : (m8 : Int) < (128 : Int) := by omega
      have hd7 : m8 < 128 := by omega
      have HM := Lib.hid hm
      have HJ := Lib.hid (show j + 1 ≤ 128 - mb by omega)
      clear hm hj hlt
      go_wp2_with (first
        | (refine wpList_append_bytes (w0 := w1) rfl (.tmp 43) (.tmp 44) rfl A' _ m8 c' rfl HLEN.out (HR.out.up ((Below.refl wr.heap.size wr).alloc (Nat.le_refl _) _)) (some ⟨wr.heap.size, 0, none⟩) [0] 1 1 rfl rfl (sl_one wr 0) (m8 + 1) rfl hm6 ?_; intro A3 c3 w3 hR3; have HR3 := Lib.hid hR3; clear hR3))
      go_roundw
      case rel =>
        refine ⟨j + 1, m8 + 1, A3, c3, HJ.out, by rw [HM.out]; omega, rfl, ?_⟩
        have := HR3.out
        rwa [List.append_assoc, ← List.replicate_succ'] at this
      case measure => show 1000000 - (m8 + 1) < 1000000 - m8; omega
    · obtain rfl : j = 128 - mb := by omega
      obtain rfl : m8 = 128 := by omega
      have hsec : b ++ List.replicate (128 - mb) 0 = sec b := by
        unfold sec
        rw [List.take_of_length_le (by rw [HN.out.2.2]; omega), HN.out.2.2]
      rw [hsec] at HR
      have hB := Below.trans HB1.out (HR.out.2.mono HB1.out.size)
      have HRB := Lib.hid (And.intro hB (And.intro (bthen hbw.out HR.out.2) (HS1.out.1.2.up HR.out.2)))
      obtain ⟨⟨⟨b0, b1, b2, b3⟩, e0, e1, e2, e3⟩, ⟨⟨r0, r1, r2, r3⟩, g0, g1, g2, g3⟩⟩ := H2.out.facts hB
      rw [HN.out.1] at b0
      rw [HN.out.2.1] at b1
      have hslD := Lib.hid (show Sl wr A' (sec b) c' from HR.out.sl)
      clear hsec hB hm hj hlt HLEN
      have hba := (Below.refl wr.heap.size wr).alloc (Nat.le_refl _) (.cells #[] 54)
      have HBA := Lib.hid (And.intro hba (show (wr.alloc (.cells #[] 54)).ownsRow wr.heap.size 54 2 (.slice (some ⟨wr.heap.size, 0, none⟩) 0 0) 0 [] from World.ownsRow_lit wr #[] 0 (Nat.le_refl _) (by unfold maxLen; omega) rfl))
      have hm6 : m ≤ 1000000 := by omega
      clear hba b0 b2 b3 e0 e2 e3 r0 r1 r2 r3 g0 g1 g2 g3
      have HFX := Lib.hid (fun W (hb : Below wr.heap.size wr W) => And.intro (H2.out.facts (HRB.out.1.trans (hb.mono HRB.out.1.size))) (And.intro (H2.out.fin (HRB.out.1.trans (hb.mono HRB.out.1.size))) (And.intro (DBox.up H2.out.box (HRB.out.1.trans (hb.mono HRB.out.1.size))) (HF.out W (bthen HRB.out.2.1 hb)).1.1)))
      have hzr : w.heap.size < wr.heap.size := Nat.lt_of_lt_of_le H2.out.lt.1 HRB.out.1.size
      have hzr2 : w.heap.size + 1 < wr.heap.size := Nat.lt_of_lt_of_le H2.out.lt.2 HRB.out.1.size
      go_wp2_with (first
        | (at_builtin; refine wpList_append_wall (w0 := wr) rfl (.tmp 46) (.tmp 48) rfl wr.heap.size rfl HBA.out.2 B d.pend m k0 HN.out.2.1 rfl HRB.out.2.2 HBA.out.1 hm6 ?_; intro vs A3 c3 w3 hv1 hv2 ho3 hb3; have HO3 := Lib.hid (And.intro hv1 (And.intro hv2 (And.intro ho3 hb3))); clear hv1 hv2 ho3 hb3 b1 e1)
        | (at_builtin; refine wpList_append_w1 (w0 := wr) rfl (.tmp 49) (.tmp 53) rfl _ m vs rfl (own_below HO3.out.2.2.1 ((Below.refl w3.heap.size w3).alloc (Nat.le_refl _) _)) w3.heap.size (iN : Int) A' 128 c' rfl (Box.new w3 _ _) hm6 (HO3.out.2.2.2.alloc HO3.out.2.2.2.size _) ?_; intro g4 c4 w4 ho4 hg4 hb4; have HO4 := Lib.hid (And.intro ho4 (And.intro hg4 hb4)); obtain ⟨⟨⟨⟨b0, b1, b2, b3⟩, e0, e1, e2, e3⟩, ⟨⟨r0, r1, r2, r3⟩, g0, g1, g2, g3⟩⟩, _⟩ := HFX.out w4 hb4; rw [HN.out.1] at b0; rw [HN.out.2.1] at b1; rw [HQ2.out] at b3; clear ho4 hg4 hb4))
      have hw := WW.of_own (l := d.pend) (s := sec b) (x := (iN : Int)) (by rw [HN.out.2.1]) HO4.out.2.2 HO4.out.1 (by rw [HO3.out.1, HN.out.2.1]) (sec_length b) HO3.out.2.1 hslD.out
      obtain ⟨_, hfin, hdb, hrr⟩ := HFX.out w4 HO4.out.2.2
      have hgg := HO4.out.2.1
      have h1 := hw.other HPM.out hdb (by simp [dkc]) (fun a off e => by cases e; omega) 1 (.slice (some ⟨g4, 0, none⟩) (m + 1) c4)
      have hbR := box_other (b := w.heap.size) (i := 1) (v := .slice (some ⟨g4, 0, none⟩) (m + 1) c4) hfin.2 (by omega)
      have hw4 := fin4w (.slice A N c) (.slice (some ⟨g4, 0, none⟩) (m + 1) c4) (.int .i64 d.left) (.bool false) h1 HPM.out hbR (by omega)
      have hfin4 := fin4 (.slice A N c) (.slice (some ⟨g4, 0, none⟩) (m + 1) c4) (.int .i64 d.left) (.bool false) (hfin.1.setCell (p := ⟨w.heap.size, 1, none⟩) (Nat.le_refl _) _) hbR
      exact bodyPost_ret (dk_ret2 Try.results20 rfl hfin4.1) rfl ⟨A, c, some ⟨g4, 0, none⟩, c4, by rw [List.length_append, HN.out.2.1]; rfl, ⟨(HF.out _ hfin4.2).1.1, hw4⟩, hfin4.2⟩


set_option maxHeartbeats 4000000 in
set_option maxRecDepth 100000 in
theorem rwrite_any (d : Dk) (A B D : Option Addr) (c k0 kd : Nat) (i : Int) (b : List UInt8) (w : World) (hS : DkIn w d A c B k0) (hD : Sl w D b kd) :
    Calls Try.prog 20 #[dkv d A c B k0, .int .i64 i, .slice D b.length kd] w (DkPost (wr d i b) (wre d i b) w) := by
  by_cases q0 : wre d i b = 0
  · obtain ⟨h1, h2, h3, h4, h5⟩ := wr_ok q0
    rw [q0, h5]
    exact rwrite_ok d A B D c k0 kd i b w hS hD (rng_facts h1).1 (rng_facts h1).2 h2 h3 h4
  · have hd : wr d i b = dk0 := if_neg q0
    rw [hd]
    have h2 := two_new w d A c B k0
    have HR := Lib.hid (rcheck_any d A B c k0 _ (hS.up h2.below))
    have H2 := Lib.hid h2
    have hbm := Nat.le_trans hD.2.1 hD.2.2.1
    obtain ⟨m1, m2⟩ : d.secs.length ≤ 9223372036854775807 ∧ d.pend.length ≤ 9223372036854775807 := by
      have h1 := Nat.le_trans hS.1.2.1 hS.1.2.2.1
      have h2 := Nat.le_trans hS.2.2.1 hS.2.2.2.1
      unfold maxLen at h1 h2
      omega
    unfold maxLen at hbm
    unfold DkPost
    unfold dkv dkc at *
    clear h2 hS hD hd
    cases q1 : vld d
    · have he : wre d i b = 70 := by unfold wre rng; rw [q1]; rfl
      have hc : chk d = 70 := by unfold chk; rw [q1]; rfl
      rw [he]
      rw [hc] at HR
      clear q1 he hc q0
      obtain ⟨N, hN⟩ : ∃ N, d.secs.length = N := ⟨_, rfl⟩
      obtain ⟨m, hm⟩ : ∃ m, d.pend.length = m := ⟨_, rfl⟩
      obtain ⟨mb, hmb⟩ : ∃ mb, b.length = mb := ⟨_, rfl⟩
      rw [hN, hm] at HR H2
      rw [hN, hm, hmb]
      have HN := Lib.hid (And.intro hN (And.intro hm hmb))
      rw [hN] at m1
      rw [hm] at m2
      rw [hmb] at hbm
      clear hN hm hmb
      go_enter Try.func20, Try.ntmps20
      go_wp2_with fail
      generalize World.alloc _ _ = W at *
      refine HR.out.mono ?_
      rintro e w1 ⟨rfl, hb1⟩
      obtain ⟨⟨⟨b0, b1, b2, b3⟩, e0, e1, e2, e3⟩, ⟨⟨r0, r1, r2, r3⟩, g0, g1, g2, g3⟩⟩ := H2.out.facts hb1
      rw [HN.out.1] at b0
      rw [HN.out.2.1] at b1
      have HB1 := Lib.hid hb1
      clear hb1
      go_wp2_with fail
      have hfin := fin4 (.slice none 0 0) (.slice none 0 0) (.int .i64 0) (.bool false) (H2.out.fin HB1.out).1 (H2.out.fin HB1.out).2
      exact bodyPost_ret (dk_ret2 Try.results20 rfl hfin.1) rfl ⟨none, 0, none, 0, rfl, DkIn.zero _, hfin.2⟩

    · have hc : chk d = 0 := by unfold chk; rw [q1]; rfl
      rw [hc] at HR
      cases q2 : d.stop
      · have hrg : rng d = true := by unfold rng; rw [q1, q2]; rfl
        have HQ2 := Lib.hid q2
        rw [q2] at HR H2
        by_cases q3 : i < 0
        · have he : wre d i b = 70 := by unfold wre; rw [show has d i = false from decide_eq_false (by omega)]; simp
          rw [he]
          have d1 : decide (i < 0) = true := decide_eq_true q3
          clear q1 q2 he hc q0 hrg
          obtain ⟨N, hN⟩ : ∃ N, d.secs.length = N := ⟨_, rfl⟩
          obtain ⟨m, hm⟩ : ∃ m, d.pend.length = m := ⟨_, rfl⟩
          obtain ⟨mb, hmb⟩ : ∃ mb, b.length = mb := ⟨_, rfl⟩
          rw [hN, hm] at HR H2
          rw [hN, hm, hmb]
          have HN := Lib.hid (And.intro hN (And.intro hm hmb))
          rw [hN] at m1
          rw [hm] at m2
          rw [hmb] at hbm
          clear hN hm hmb
          go_enter Try.func20, Try.ntmps20
          go_wp2_with fail
          generalize World.alloc _ _ = W at *
          refine HR.out.mono ?_
          rintro e w1 ⟨rfl, hb1⟩
          obtain ⟨⟨⟨b0, b1, b2, b3⟩, e0, e1, e2, e3⟩, ⟨⟨r0, r1, r2, r3⟩, g0, g1, g2, g3⟩⟩ := H2.out.facts hb1
          rw [HN.out.1] at b0
          rw [HN.out.2.1] at b1
          rw [HQ2.out] at b3
          have HB1 := Lib.hid hb1
          clear hb1
          go_wp2_with fail
          have hfin := fin4 (.slice none 0 0) (.slice none 0 0) (.int .i64 0) (.bool false) (H2.out.fin HB1.out).1 (H2.out.fin HB1.out).2
          exact bodyPost_ret (dk_ret2 Try.results20 rfl hfin.1) rfl ⟨none, 0, none, 0, rfl, DkIn.zero _, hfin.2⟩

        · have d1 : decide (i < 0) = false := decide_eq_false q3
          obtain ⟨iN, rfl⟩ : ∃ iN : Nat, i = (iN : Int) := ⟨i.toNat, by omega⟩
          by_cases q4 : d.secs.length ≤ iN
          · have he : wre d iN b = 70 := by unfold wre; rw [show has d iN = false from decide_eq_false (by omega)]; simp
            rw [he]
            clear q1 q2 he hc q0 hrg
            obtain ⟨N, hN⟩ : ∃ N, d.secs.length = N := ⟨_, rfl⟩
            obtain ⟨m, hm⟩ : ∃ m, d.pend.length = m := ⟨_, rfl⟩
            obtain ⟨mb, hmb⟩ : ∃ mb, b.length = mb := ⟨_, rfl⟩
            rw [hN, hm] at HR H2
            rw [hN, hm, hmb]
            have HN := Lib.hid (And.intro hN (And.intro hm hmb))
            rw [hN] at m1
            rw [hm] at m2
            rw [hmb] at hbm
            rw [hN] at q4
            have d2 : decide ((N : Int) ≤ (iN : Int)) = true := decide_eq_true (by omega)
            have d3 : decide (N ≤ iN) = true := decide_eq_true q4
            have d4 : (N : Int) ≤ (iN : Int) := by omega
            clear hN hm hmb
            go_enter Try.func20, Try.ntmps20
            go_wp2_with fail
            generalize World.alloc _ _ = W at *
            refine HR.out.mono ?_
            rintro e w1 ⟨rfl, hb1⟩
            obtain ⟨⟨⟨b0, b1, b2, b3⟩, e0, e1, e2, e3⟩, ⟨⟨r0, r1, r2, r3⟩, g0, g1, g2, g3⟩⟩ := H2.out.facts hb1
            rw [HN.out.1] at b0
            rw [HN.out.2.1] at b1
            rw [HQ2.out] at b3
            have HB1 := Lib.hid hb1
            clear hb1
            go_wp2_with fail
            have hfin := fin4 (.slice none 0 0) (.slice none 0 0) (.int .i64 0) (.bool false) (H2.out.fin HB1.out).1 (H2.out.fin HB1.out).2
            exact bodyPost_ret (dk_ret2 Try.results20 rfl hfin.1) rfl ⟨none, 0, none, 0, rfl, DkIn.zero _, hfin.2⟩

          · have hh : has d iN = true := decide_eq_true (by omega)
            by_cases q5 : 128 < b.length
            · have he : wre d iN b = 1 := by unfold wre; rw [hrg, hh, if_neg (by decide), if_pos q5]
              rw [he]
              clear q1 q2 he hc q0 hrg hh
              obtain ⟨N, hN⟩ : ∃ N, d.secs.length = N := ⟨_, rfl⟩
              obtain ⟨m, hm⟩ : ∃ m, d.pend.length = m := ⟨_, rfl⟩
              obtain ⟨mb, hmb⟩ : ∃ mb, b.length = mb := ⟨_, rfl⟩
              rw [hN, hm] at HR H2
              rw [hN, hm, hmb]
              have HN := Lib.hid (And.intro hN (And.intro hm hmb))
              rw [hN] at m1
              rw [hm] at m2
              rw [hmb] at hbm
              rw [hN] at q4
              rw [hmb] at q5
              have d2 : decide ((N : Int) ≤ (iN : Int)) = false := decide_eq_false (by omega)
              have d3 : decide (N ≤ iN) = false := decide_eq_false q4
              have d5 : decide ((128 : Int) < (mb : Int)) = true := decide_eq_true (by omega)
              have d6 : (128 : Int) < (mb : Int) := by omega
              clear hN hm hmb
              go_enter Try.func20, Try.ntmps20
              go_wp2_with fail
              generalize World.alloc _ _ = W at *
              refine HR.out.mono ?_
              rintro e w1 ⟨rfl, hb1⟩
              obtain ⟨⟨⟨b0, b1, b2, b3⟩, e0, e1, e2, e3⟩, ⟨⟨r0, r1, r2, r3⟩, g0, g1, g2, g3⟩⟩ := H2.out.facts hb1
              rw [HN.out.1] at b0
              rw [HN.out.2.1] at b1
              rw [HQ2.out] at b3
              have HB1 := Lib.hid hb1
              clear hb1
              go_wp2_with fail
              have hfin := fin4 (.slice none 0 0) (.slice none 0 0) (.int .i64 0) (.bool false) (H2.out.fin HB1.out).1 (H2.out.fin HB1.out).2
              exact bodyPost_ret (dk_ret2 Try.results20 rfl hfin.1) rfl ⟨none, 0, none, 0, rfl, DkIn.zero _, hfin.2⟩

            · have q6 : d.pend.length = 4096 := by
                by_cases h : d.pend.length = 4096
                · exact h
                · exact absurd (by unfold wre; rw [hrg, hh, if_neg (by decide), if_neg q5, if_neg h]) q0
              have he : wre d iN b = 2 := by unfold wre; rw [hrg, hh, if_neg (by decide), if_neg q5, if_pos q6]
              rw [he]
              clear q1 q2 he hc q0 hrg hh
              obtain ⟨N, hN⟩ : ∃ N, d.secs.length = N := ⟨_, rfl⟩
              obtain ⟨m, hm⟩ : ∃ m, d.pend.length = m := ⟨_, rfl⟩
              obtain ⟨mb, hmb⟩ : ∃ mb, b.length = mb := ⟨_, rfl⟩
              rw [hN, hm] at HR H2
              rw [hN, hm, hmb]
              have HN := Lib.hid (And.intro hN (And.intro hm hmb))
              rw [hN] at m1
              rw [hm] at m2
              rw [hmb] at hbm

              rw [hN] at q4
              rw [hmb] at q5
              obtain rfl : m = 4096 := by omega
              have d2 : decide ((N : Int) ≤ (iN : Int)) = false := decide_eq_false (by omega)
              have d3 : decide (N ≤ iN) = false := decide_eq_false q4
              have d5 : decide ((128 : Int) < (mb : Int)) = false := decide_eq_false (by omega)
              have d6 : ¬ (128 : Int) < (mb : Int) := by omega
              clear hN hm hmb q6
              go_enter Try.func20, Try.ntmps20
              go_wp2_with fail
              generalize World.alloc _ _ = W at *
              refine HR.out.mono ?_
              rintro e w1 ⟨rfl, hb1⟩
              obtain ⟨⟨⟨b0, b1, b2, b3⟩, e0, e1, e2, e3⟩, ⟨⟨r0, r1, r2, r3⟩, g0, g1, g2, g3⟩⟩ := H2.out.facts hb1
              rw [HN.out.1] at b0
              rw [HN.out.2.1] at b1
              rw [HQ2.out] at b3
              have HB1 := Lib.hid hb1
              clear hb1
              go_wp2_with fail
              have hfin := fin4 (.slice none 0 0) (.slice none 0 0) (.int .i64 0) (.bool false) (H2.out.fin HB1.out).1 (H2.out.fin HB1.out).2
              exact bodyPost_ret (dk_ret2 Try.results20 rfl hfin.1) rfl ⟨none, 0, none, 0, rfl, DkIn.zero _, hfin.2⟩

      · have he : wre d i b = 70 := by unfold wre rng; rw [q2]; simp
        rw [he]
        have HQ2 := Lib.hid q2
        rw [q2] at HR H2
        clear q1 q2 he hc q0
        obtain ⟨N, hN⟩ : ∃ N, d.secs.length = N := ⟨_, rfl⟩
        obtain ⟨m, hm⟩ : ∃ m, d.pend.length = m := ⟨_, rfl⟩
        obtain ⟨mb, hmb⟩ : ∃ mb, b.length = mb := ⟨_, rfl⟩
        rw [hN, hm] at HR H2
        rw [hN, hm, hmb]
        have HN := Lib.hid (And.intro hN (And.intro hm hmb))
        rw [hN] at m1
        rw [hm] at m2
        rw [hmb] at hbm
        clear hN hm hmb
        go_enter Try.func20, Try.ntmps20
        go_wp2_with fail
        generalize World.alloc _ _ = W at *
        refine HR.out.mono ?_
        rintro e w1 ⟨rfl, hb1⟩
        obtain ⟨⟨⟨b0, b1, b2, b3⟩, e0, e1, e2, e3⟩, ⟨⟨r0, r1, r2, r3⟩, g0, g1, g2, g3⟩⟩ := H2.out.facts hb1
        rw [HN.out.1] at b0
        rw [HN.out.2.1] at b1
        rw [HQ2.out] at b3
        have HB1 := Lib.hid hb1
        clear hb1
        go_wp2_with fail
        have hfin := fin4 (.slice none 0 0) (.slice none 0 0) (.int .i64 0) (.bool false) (H2.out.fin HB1.out).1 (H2.out.fin HB1.out).2
        exact bodyPost_ret (dk_ret2 Try.results20 rfl hfin.1) rfl ⟨none, 0, none, 0, rfl, DkIn.zero _, hfin.2⟩

end Go.Proofs.Ytiphajgmjmjanaa
