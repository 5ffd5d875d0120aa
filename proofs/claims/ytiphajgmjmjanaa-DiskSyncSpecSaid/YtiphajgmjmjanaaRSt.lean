/- The reference's Stop. -/
import Derived.Test.YtiphajgmjmjanaaRCk
namespace Go.Proofs.Ytiphajgmjmjanaa
open Go.RowKit
set_option linter.unusedVariables false

set_option maxHeartbeats 2000000 in
set_option maxRecDepth 100000 in
theorem rstop_any (d : Dk) (A B : Option Addr) (c k0 : Nat) (left : Int) (w : World) (hS : DkIn w d A c B k0) :
    Calls Try.prog 26 #[dkv d A c B k0, .int .i64 left] w (DkPost (st d left) (ste d left) w) := by
  have h2 := two_new w d A c B k0
  have HR := Lib.hid (rcheck_any d A B c k0 _ (hS.up h2.below))
  have H2 := Lib.hid h2
  have HF := Lib.hid (fun W (hb : Below w.heap.size w W) => hS.up hb)
  unfold DkPost
  unfold dkv dkc at *
  clear h2 hS
  cases q1 : vld d
  · have hc : chk d = 70 := by unfold chk; rw [q1]; rfl
    rw [hc] at HR
    clear hc
    have he : ste d left = 70 := by unfold ste rng; rw [q1]; rfl
    have hd : st d left = dk0 := by unfold st; rw [he]; rfl
    rw [he, hd]
    clear he hd q1
    generalize d.secs.length = N at *
    generalize d.pend.length = M at *
    try rw [HQ.out]
    go_enter Try.func26, Try.ntmps26
    go_wp2_with fail
    generalize World.alloc _ _ = W at *
    refine HR.out.mono ?_
    rintro e w1 ⟨rfl, hb1⟩
    obtain ⟨⟨⟨b0, b1, b2, b3⟩, e0, e1, e2, e3⟩, ⟨⟨r0, r1, r2, r3⟩, g0, g1, g2, g3⟩⟩ := H2.out.facts hb1
    have HB1 := Lib.hid hb1
    clear hb1
    try rw [HQ.out] at b3
    go_wp2_with fail
    have hfin := fin4 (.slice none 0 0) (.slice none 0 0) (.int .i64 0) (.bool false) (H2.out.fin HB1.out).1 (H2.out.fin HB1.out).2
    exact bodyPost_ret (dk_ret2 Try.results26 rfl hfin.1) rfl ⟨none, 0, none, 0, rfl, DkIn.zero _, hfin.2⟩
  · have hc : chk d = 0 := by unfold chk; rw [q1]; rfl
    rw [hc] at HR
    clear hc
    cases q2 : d.stop
    · have q4 : rng d = true := by unfold rng; rw [q1, q2]; rfl
      rw [q2] at HR H2
      have HQ := Lib.hid q2
      clear q2
      by_cases q3 : left < 0
      · have d1 : decide (left < 0) = true := decide_eq_true q3
        have he : ste d left = 1 := by unfold ste; rw [q4, if_neg (by decide), if_neg (by omega)]
        have hd : st d left = dk0 := by unfold st; rw [he]; rfl
        rw [he, hd]
        clear he hd q1
        try rw [HQ.out]
        go_enter Try.func26, Try.ntmps26
        go_wp2_with fail
        generalize World.alloc _ _ = W at *
        refine HR.out.mono ?_
        rintro e w1 ⟨rfl, hb1⟩
        obtain ⟨⟨⟨b0, b1, b2, b3⟩, e0, e1, e2, e3⟩, ⟨⟨r0, r1, r2, r3⟩, g0, g1, g2, g3⟩⟩ := H2.out.facts hb1
        have HB1 := Lib.hid hb1
        clear hb1
        try rw [HQ.out] at b3
        go_wp2_with fail
        have hfin := fin4 (.slice none 0 0) (.slice none 0 0) (.int .i64 0) (.bool false) (H2.out.fin HB1.out).1 (H2.out.fin HB1.out).2
        exact bodyPost_ret (dk_ret2 Try.results26 rfl hfin.1) rfl ⟨none, 0, none, 0, rfl, DkIn.zero _, hfin.2⟩
      · have d1 : decide (left < 0) = false := decide_eq_false q3
        by_cases q5 : 65536 < left
        · have d2 : decide (65536 < left) = true := decide_eq_true q5
          have he : ste d left = 1 := by unfold ste; rw [q4, if_neg (by decide), if_neg (by omega)]
          have hd : st d left = dk0 := by unfold st; rw [he]; rfl
          rw [he, hd]
          clear he hd q1
          try rw [HQ.out]
          go_enter Try.func26, Try.ntmps26
          go_wp2_with fail
          generalize World.alloc _ _ = W at *
          refine HR.out.mono ?_
          rintro e w1 ⟨rfl, hb1⟩
          obtain ⟨⟨⟨b0, b1, b2, b3⟩, e0, e1, e2, e3⟩, ⟨⟨r0, r1, r2, r3⟩, g0, g1, g2, g3⟩⟩ := H2.out.facts hb1
          have HB1 := Lib.hid hb1
          clear hb1
          try rw [HQ.out] at b3
          go_wp2_with fail
          have hfin := fin4 (.slice none 0 0) (.slice none 0 0) (.int .i64 0) (.bool false) (H2.out.fin HB1.out).1 (H2.out.fin HB1.out).2
          exact bodyPost_ret (dk_ret2 Try.results26 rfl hfin.1) rfl ⟨none, 0, none, 0, rfl, DkIn.zero _, hfin.2⟩
        · have d2 : decide (65536 < left) = false := decide_eq_false q5
          have he : ste d left = 0 := by unfold ste; rw [q4, if_neg (by decide), if_pos (by omega)]
          have hd : st d left = { d with left := left } := by unfold st; rw [he]; rfl
          rw [he, hd]
          simp only
          clear he hd q1
          try rw [HQ.out]
          go_enter Try.func26, Try.ntmps26
          go_wp2_with fail
          generalize World.alloc _ _ = W at *
          refine HR.out.mono ?_
          rintro e w1 ⟨rfl, hb1⟩
          obtain ⟨⟨⟨b0, b1, b2, b3⟩, e0, e1, e2, e3⟩, ⟨⟨r0, r1, r2, r3⟩, g0, g1, g2, g3⟩⟩ := H2.out.facts hb1
          have HB1 := Lib.hid hb1
          clear hb1
          try rw [HQ.out] at b3
          go_wp2_with fail
          have hfin := fin4 (w1 := w1.setCell ⟨w.heap.size, 2, none⟩ (.int .i64 left)) (.slice A d.secs.length c) (.slice B d.pend.length k0) (.int .i64 left) (.bool false) ((H2.out.fin HB1.out).1.setCell (Nat.le_refl _) _) (box_other (H2.out.fin HB1.out).2 (by omega))
          exact bodyPost_ret (dk_ret2 Try.results26 rfl hfin.1) rfl ⟨A, c, B, k0, rfl, HF.out _ hfin.2, hfin.2⟩
    · have q4 : rng d = false := by unfold rng; rw [q1, q2]; rfl
      rw [q2] at HR H2
      have HQ := Lib.hid q2
      clear q2
      have he : ste d left = 70 := by unfold ste; rw [q4]; rfl
      have hd : st d left = dk0 := by unfold st; rw [he]; rfl
      rw [he, hd]
      clear he hd q1
      try rw [HQ.out]
      go_enter Try.func26, Try.ntmps26
      go_wp2_with fail
      generalize World.alloc _ _ = W at *
      refine HR.out.mono ?_
      rintro e w1 ⟨rfl, hb1⟩
      obtain ⟨⟨⟨b0, b1, b2, b3⟩, e0, e1, e2, e3⟩, ⟨⟨r0, r1, r2, r3⟩, g0, g1, g2, g3⟩⟩ := H2.out.facts hb1
      have HB1 := Lib.hid hb1
      clear hb1
      try rw [HQ.out] at b3
      go_wp2_with fail
      have hfin := fin4 (.slice none 0 0) (.slice none 0 0) (.int .i64 0) (.bool false) (H2.out.fin HB1.out).1 (H2.out.fin HB1.out).2
      exact bodyPost_ret (dk_ret2 Try.results26 rfl hfin.1) rfl ⟨none, 0, none, 0, rfl, DkIn.zero _, hfin.2⟩
end Go.Proofs.Ytiphajgmjmjanaa
