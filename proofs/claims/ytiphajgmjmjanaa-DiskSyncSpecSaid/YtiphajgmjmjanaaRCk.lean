/- The reference's Check, Restart, Stop. -/
import Derived.Test.YtiphajgmjmjanaaCk
import Derived.Test.YtiphajgmjmjanaaRs
namespace Go.Proofs.Ytiphajgmjmjanaa
open Go.RowKit
set_option linter.unusedVariables false

set_option maxHeartbeats 4000000 in
set_option maxRecDepth 100000 in
theorem rcheck_any (d : Dk) (A B : Option Addr) (c k0 : Nat) (w : World) (hS : DkIn w d A c B k0) :
    Calls Try.prog 16 #[dkv d A c B k0] w fun e w' => e = .returned (.int .i64 (chk d)) ∧ Below w.heap.size w w' := by
  have hb0 := (Below.refl w.heap.size w).alloc (Nat.le_refl _) (.cells (dkc d A c B k0) 25)
  have HS := Lib.hid (And.intro (hS.up hb0) hb0)
  have HB := Lib.hid (show DBox (w.alloc (.cells (dkc d A c B k0) 25)) w.heap.size d A c B k0 from Box.new w _ _)
  have HW := Lib.hid (fun k (h : k < d.secs.length) => @whole_drop d.secs k h)
  have HWE := Lib.hid (show whole (d.secs.drop d.secs.length) = true by rw [List.drop_length]; rfl)
  have HF := Lib.hid (fun k (h : k < d.pend.length) => @fit_drop d.secs.length d.pend k h)
  have HFE := Lib.hid (show fit d.secs.length (d.pend.drop d.pend.length) = true by rw [List.drop_length]; rfl)
  have hv : vld d = (size1 d.secs.length && decide (d.pend.length ≤ 4096) && left1 d.left && whole d.secs && fit d.secs.length d.pend) := rfl
  have m1 := (Nat.le_trans hS.1.2.1 hS.1.2.2.1)
  have m2 := (Nat.le_trans hS.2.2.1 hS.2.2.2.1)
  unfold maxLen at m1 m2
  unfold chk
  unfold dkv dkc at *
  clear hS hb0
  obtain ⟨N, hN⟩ : ∃ N, d.secs.length = N := ⟨_, rfl⟩
  obtain ⟨M, hM⟩ : ∃ M, d.pend.length = M := ⟨_, rfl⟩
  have HN := Lib.hid (And.intro hN hM)
  rw [hN] at hv m1 HB HS HWE HF HFE
  rw [hM] at hv m2 HB HS HFE
  rw [hN, hM]
  clear hN hM
  have HV := Lib.hid hv
  clear hv
  by_cases q1 : 1 ≤ N ∧ N ≤ 4096
  · have hs1 : size1 (N : Int) = true := by unfold size1; apply decide_eq_true; omega
    by_cases q2 : M ≤ 4096
    · by_cases q3 : -1 ≤ d.left ∧ d.left ≤ 65536
      · have hl1 : left1 d.left = true := decide_eq_true q3
        have hcv : vld d = (whole d.secs && fit N d.pend) := by rw [HV.out, hs1, hl1, decide_eq_true q2]; rfl
        rw [hcv]
        obtain ⟨E, hE⟩ : ∃ E : Int, (if (whole d.secs && fit N d.pend) = true then (0 : Int) else 70) = E := ⟨_, rfl⟩
        rw [hE]
        have HE := Lib.hid hE
        clear hE
        obtain ⟨q1a, q1b⟩ := q1
        obtain ⟨q3a, q3b⟩ := q3
        have c1 : decide ((N : Int) < 1) = false := decide_eq_false (by omega)
        have c2 : decide ((4096 : Int) < (N : Int)) = false := decide_eq_false (by omega)
        have c3 : decide ((4096 : Int) < (M : Int)) = false := decide_eq_false (by omega)
        have c4 : decide (d.left < -1) = false := decide_eq_false (by omega)
        have c5 : decide ((65536 : Int) < d.left) = false := decide_eq_false (by omega)
        have c6 : N ≠ 0 := by omega
        clear hcv hs1 hl1
        have HWZ := Lib.hid (show whole d.secs = whole (d.secs.drop 0) by rw [List.drop_zero])
        have HFZ := Lib.hid (show fit N d.pend = fit N (d.pend.drop 0) by rw [List.drop_zero])
        go_enter Try.func16, Try.ntmps16
        go_wp2_with fail
        generalize w.alloc _ = W at *
        obtain ⟨b0, b1, b2, b3⟩ := HB.out.cells
        rw [HN.out.1] at b0
        rw [HN.out.2] at b1
        have HC := Lib.hid (And.intro b0 b1)
        go_loop [4] (fun i => ∃ k : Nat, k ≤ N ∧ i = .int .i64 k ∧ whole d.secs = whole (d.secs.drop k)) (fun i => N - (intOf i).toNat)
        case atStart => exact ⟨0, Nat.zero_le _, rfl, HWZ.out⟩
        case round =>
          obtain ⟨k, hk, rfl, hw⟩ := hrel
          have HWK := Lib.hid hw
          clear hw
          by_cases hlt : k < N
          · have hkl : k < d.secs.length := by have := HN.out.1; omega
            obtain ⟨b, off, rfl, hb, hat⟩ := HS.out.1.1.1 (by omega)
            obtain ⟨A1, c1x, h1, _⟩ := hat k _ (List.getElem?_eq_getElem hkl)
            have HD1 := Lib.hid (HW.out k hkl)
            clear hat
            generalize (d.secs[k]'hkl).length = m at *
            cases hq : isw m
            · have hmn : ((m : Int) == 128) = false := by
                unfold isw at hq
                have := of_decide_eq_false hq
                simp
                omega
              rw [hq] at HD1
              clear hq
              go_wp2_with fail
              go_ret
              exact ⟨by rw [← HE.out, HWK.out, HD1.out]; rfl, HS.out.2⟩
            · have hmn : m = 128 := by
                unfold isw at hq
                exact of_decide_eq_true hq
              rw [hq] at HD1
              subst hmn
              clear hq
              go_wp2_with fail
              go_round
              case rel => exact ⟨k + 1, by omega, by go_num, by rw [HWK.out, HD1.out]; rfl⟩
              case measure => simp [intOf]; omega
          · obtain rfl : k = N := by omega
            have HWT : Hid (whole d.secs = true) := Lib.hid (by rw [HWK.out, HWE.out])
            clear HWK b0 b1 b2 b3
            go_wp2_with fail
            go_loopw [5] (fun i wr => ∃ j : Nat, j ≤ M ∧ i = .int .i64 j ∧ fit k d.pend = fit k (d.pend.drop j) ∧ Below W.heap.size W wr) (fun i _ => M - (intOf i).toNat)
            case atStart => exact ⟨0, Nat.zero_le _, rfl, HFZ.out, Below.refl _ _⟩
            case round =>
              obtain ⟨j, hj, rfl, hf, hbw⟩ := hrel
              have HFK := Lib.hid (And.intro hf hbw)
              have b1 : wr.cell? ⟨w.heap.size, 1, none⟩ = some (.slice B M k0) := (hbw.cell (p := ⟨w.heap.size, 1, none⟩) (World.block_lt_of_cell? _ _ HC.out.2)).trans HC.out.2
              by_cases hlt2 : j < M
              · have hkl : j < d.pend.length := by have := HN.out.2; omega
                obtain ⟨b, off, rfl, hb, hat⟩ := HS.out.1.2.1 (by omega)
                obtain ⟨D1, c1x, h1, h2, _⟩ := (hat j _ (List.getElem?_eq_getElem hkl)).up hb hbw
                have HD1 := Lib.hid (HF.out j hkl)
                have hlb2 : b < wr.heap.size := World.block_lt_of_cell? _ _ h1
                clear hat hf hbw
                generalize (d.pend[j]'hkl).2.length = m at *
                generalize (d.pend[j]'hkl).1 = x at *
                have HFN := Lib.hid (HS.out.2.trans (HFK.out.2.mono HS.out.2.size))
                have hbn : Below w.heap.size w (wr.alloc (.cells #[.int .i64 x, .slice D1 m c1x] 54)) := HFN.out.alloc HFN.out.size _
                have hbn2 : Below W.heap.size W (wr.alloc (.cells #[.int .i64 x, .slice D1 m c1x] 54)) := HFK.out.2.alloc HFK.out.2.size _
                have HBN := Lib.hid (And.intro hbn hbn2)
                clear hbn hbn2
                by_cases p1 : 0 ≤ x
                · have d1 : decide (x < 0) = false := decide_eq_false (by omega)
                  by_cases p2 : x < (k : Int)
                  · have d2 : decide ((k : Int) ≤ x) = false := decide_eq_false (by omega)
                    rw [decide_eq_true (And.intro p1 p2), Bool.true_and] at HD1
                    cases hq : isw m
                    · have hmn : ((m : Int) == 128) = false := by
                        unfold isw at hq
                        have := of_decide_eq_false hq
                        simp
                        omega
                      rw [hq] at HD1
                      clear hq
                      go_wp2_with fail
                      go_ret
                      exact ⟨by rw [← HE.out, HWT.out, HFK.out.1, HD1.out]; rfl, HBN.out.1⟩
                    · have hmn : m = 128 := by
                        unfold isw at hq
                        exact of_decide_eq_true hq
                      rw [hq, Bool.true_and] at HD1
                      subst hmn
                      clear hq
                      go_wp2_with fail
                      go_roundw
                      case rel => exact ⟨j + 1, by omega, by go_num, by rw [HFK.out.1, HD1.out], HBN.out.2⟩
                      case measure => simp [intOf]; omega
                  · have d2 : decide ((k : Int) ≤ x) = true := decide_eq_true (by omega)
                    rw [decide_eq_false (fun h => p2 h.2)] at HD1
                    go_wp2_with fail
                    go_ret
                    exact ⟨by rw [← HE.out, HWT.out, HFK.out.1, HD1.out]; rfl, HBN.out.1⟩
                · have d1 : decide (x < 0) = true := decide_eq_true (by omega)
                  rw [decide_eq_false (fun h => p1 h.1)] at HD1
                  go_wp2_with fail
                  go_ret
                  exact ⟨by rw [← HE.out, HWT.out, HFK.out.1, HD1.out]; rfl, HBN.out.1⟩
              · obtain rfl : j = M := by omega
                go_wp2_with fail
                go_ret
                exact ⟨by rw [← HE.out, HWT.out, HFK.out.1, HFE.out]; rfl, HS.out.2.trans (HFK.out.2.mono HS.out.2.size)⟩
      · have hcv : vld d = false := by rw [HV.out, show left1 d.left = false from decide_eq_false q3]; simp
        rw [hcv]
        obtain ⟨q1a, q1b⟩ := q1
        have c1 : decide ((N : Int) < 1) = false := decide_eq_false (by omega)
        have c2 : decide ((4096 : Int) < (N : Int)) = false := decide_eq_false (by omega)
        have c3 : decide ((4096 : Int) < (M : Int)) = false := decide_eq_false (by omega)
        have c6 : N ≠ 0 := by omega
        clear hcv
        by_cases p1 : d.left < -1
        · have c4 : decide (d.left < -1) = true := decide_eq_true p1
          go_enter Try.func16, Try.ntmps16
          go_wp2_with fail
          go_ret
          exact ⟨rfl, HS.out.2⟩
        · have c4 : decide (d.left < -1) = false := decide_eq_false p1
          have c5 : decide ((65536 : Int) < d.left) = true := decide_eq_true (by omega)
          go_enter Try.func16, Try.ntmps16
          go_wp2_with fail
          go_ret
          exact ⟨rfl, HS.out.2⟩
    · have hcv : vld d = false := by rw [HV.out, decide_eq_false q2]; simp
      rw [hcv]
      obtain ⟨q1a, q1b⟩ := q1
      have c1 : decide ((N : Int) < 1) = false := decide_eq_false (by omega)
      have c2 : decide ((4096 : Int) < (N : Int)) = false := decide_eq_false (by omega)
      have c3 : decide ((4096 : Int) < (M : Int)) = true := decide_eq_true (by omega)
      have c6 : N ≠ 0 := by omega
      clear hcv
      go_enter Try.func16, Try.ntmps16
      go_wp2_with fail
      go_ret
      exact ⟨rfl, HS.out.2⟩
  · have hcv : vld d = false := by rw [HV.out, show size1 (N : Int) = false from decide_eq_false (by omega)]; rfl
    rw [hcv]
    clear hcv
    by_cases p1 : N < 1
    · obtain rfl : N = 0 := by omega
      go_enter Try.func16, Try.ntmps16
      go_wp2_with fail
      go_ret
      exact ⟨rfl, HS.out.2⟩
    · have c1 : decide ((N : Int) < 1) = false := decide_eq_false (by omega)
      have c2 : decide ((4096 : Int) < (N : Int)) = true := decide_eq_true (by omega)
      have c6 : N ≠ 0 := by omega
      go_enter Try.func16, Try.ntmps16
      go_wp2_with fail
      go_ret
      exact ⟨rfl, HS.out.2⟩

set_option maxHeartbeats 1000000 in
set_option maxRecDepth 100000 in
theorem rrestart_any (d : Dk) (A B : Option Addr) (c k0 : Nat) (w : World) (hS : RR w A d.secs c) :
    Calls Try.prog 18 #[dkv d A c B k0] w fun e w' => e = .returned (dkv (rs d) A c none 0) ∧ DkIn w' (rs d) A c none 0 ∧ Below w.heap.size w w' := by
  unfold dkv dkc
  have HF := Lib.hid (fun W (hb : Below w.heap.size w W) => (show DkIn W (rs d) A c none 0 from ⟨hS.up hb, WW.nil W⟩))
  have hr : (rs d).secs = d.secs := rfl
  have hp : (rs d).pend.length = 0 := rfl
  have hl : (rs d).left = -1 := rfl
  have hq : (rs d).stop = false := rfl
  rw [hr, hp, hl, hq]
  clear hr hp hl hq
  go_enter Try.func18, Try.ntmps18
  go_wp2_with fail
  refine bodyPost_ret (dk_ret Try.results18 rfl (alloc2_box _ _ _ _)) rfl ⟨rfl, HF.out _ (alloc2_below _ _ _), alloc2_below _ _ _⟩
end Go.Proofs.Ytiphajgmjmjanaa
