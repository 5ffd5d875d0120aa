/- The reference's asked, Lose. -/
import Derived.Test.YtojijebmipgeeaaRMv
namespace Go.Proofs.Ytojijebmipgeeaa
open Go.RowKit
set_option linter.unusedVariables false

set_option maxHeartbeats 2000000 in
theorem rask_any (n : Nt) (A B : Option Addr) (c k : Nat) (i : Int) (w : World) (hS : NtIn w n A c B k) :
    Calls Try.prog 44 #[ntv n A c B k, .int .i64 i] w (IntPost (hle n i) w) := by
  have hb0 := (Below.refl w.heap.size w).alloc (Nat.le_refl _) (.cells (ntc n A c B k) 25)
  have hl := nt_len hS
  have HC := Lib.hid (fun W (hb : Below w.heap.size w W) => rcheck_any n A B c k W (hS.up hb))
  have HB := Lib.hid hb0
  have hx := (show NBox (w.alloc (.cells (ntc n A c B k) 25)) w.heap.size n A c B k from Box.new w _ _).cells
  have hq : inq n i = decide (0 ≤ i ∧ i < (n.q.length : Int)) := rfl
  unfold hle
  rcases chk_cases n with ⟨h1, h2⟩ | ⟨h1, h2⟩
  · rw [h1] at HC
    rw [h2]
    unfold IntPost at *
    unfold ntv ntc at *
    clear hS hb0 h1 h2
    obtain ⟨N, hN⟩ : ∃ N, n.q.length = N := ⟨_, rfl⟩
    rw [hN] at hl HC HB hx hq ⊢
    clear hN
    obtain ⟨hx0, hx1⟩ := hx
    have HW := Lib.hid (And.intro hx0 hx1)
    clear hx0 hx1
    by_cases g1 : 0 ≤ i
    · have gd1 : decide (i < 0) = false := decide_eq_false (by omega)
      have gd2 : ¬ i < 0 := by omega
      by_cases g2 : i < (N : Int)
      · rw [decide_eq_true ⟨g1, g2⟩] at hq
        rw [hq]
        clear hq
        have gd3 : decide ((N : Int) ≤ i) = false := decide_eq_false (by omega)
        go_enter Try.func44, Try.ntmps44
        go_wp2_with ((with_reducible refine (HC.out _ HB.out).mono ?_); rintro e w1 ⟨rfl, hb1⟩; have HB1 := Lib.hid (HB.out.trans (hb1.mono HB.out.size)); have hc0 := (hb1.cell (p := ⟨w.heap.size, 0, none⟩) (World.block_lt_of_cell? _ _ HW.out.1)).trans HW.out.1; clear hb1)
        go_ret
        exact ⟨rfl, HB1.out⟩
      · rw [decide_eq_false (fun h => g2 h.2)] at hq
        rw [hq]
        clear hq
        have gd3 : decide ((N : Int) ≤ i) = true := decide_eq_true (by omega)
        go_enter Try.func44, Try.ntmps44
        go_wp2_with ((with_reducible refine (HC.out _ HB.out).mono ?_); rintro e w1 ⟨rfl, hb1⟩; have HB1 := Lib.hid (HB.out.trans (hb1.mono HB.out.size)); have hc0 := (hb1.cell (p := ⟨w.heap.size, 0, none⟩) (World.block_lt_of_cell? _ _ HW.out.1)).trans HW.out.1; clear hb1)
        go_ret
        exact ⟨rfl, HB1.out⟩
    · have gd1 : decide (i < 0) = true := decide_eq_true (by omega)
      rw [decide_eq_false (fun h => g1 h.1)] at hq
      rw [hq]
      clear hq
      go_enter Try.func44, Try.ntmps44
      go_wp2_with ((with_reducible refine (HC.out _ HB.out).mono ?_); rintro e w1 ⟨rfl, hb1⟩; have HB1 := Lib.hid (HB.out.trans (hb1.mono HB.out.size)); have hc0 := (hb1.cell (p := ⟨w.heap.size, 0, none⟩) (World.block_lt_of_cell? _ _ HW.out.1)).trans HW.out.1; clear hb1)
      go_ret
      exact ⟨rfl, HB1.out⟩
  · rw [h1] at HC
    rw [h2]
    unfold IntPost at *
    unfold ntv ntc at *
    clear hS hb0 h1 h2 hx
    go_enter Try.func44, Try.ntmps44
    go_wp2_with ((with_reducible refine (HC.out _ HB.out).mono ?_); rintro e w1 ⟨rfl, hb1⟩; have HB1 := Lib.hid (HB.out.trans (hb1.mono HB.out.size)); clear hb1)
    go_ret
    exact ⟨rfl, HB1.out⟩

set_option maxHeartbeats 2000000 in
set_option maxRecDepth 100000 in
theorem rlose_any (n : Nt) (A B : Option Addr) (c k : Nat) (i : Int) (w : World) (hS : NtIn w n A c B k) :
    Calls Try.prog 24 #[ntv n A c B k, .int .i64 i] w (NtPost (los n i) (hle n i) w) := by
  have h2 := two_new w n A c B k
  have HH := Lib.hid (fun W (hb : Below w.heap.size w W) => rask_any n A B c k i W (hS.up hb))
  have HWO := Lib.hid (fun W (hb : Below w.heap.size w W) (j : Nat) (h1 : j < n.q.length) (h2 : n.q.length ≤ 4096) => rwithout_any n A B c k j W (hS.up hb) h1 h2)
  have H2 := Lib.hid h2
  unfold NtPost IntPost NtOnly at *
  unfold ntv ntc at *
  clear h2 hS
  obtain ⟨N, hN⟩ : ∃ N, n.q.length = N := ⟨_, rfl⟩
  obtain ⟨M, hM⟩ : ∃ M, n.ap.length = M := ⟨_, rfl⟩
  have HN := Lib.hid (And.intro hN hM)
  rw [hN] at HH HWO H2 ⊢
  rw [hM] at HH HWO H2 ⊢
  clear hN hM
  rcases hle_cases n i with ⟨h1, h2⟩ | ⟨h1, h2⟩
  · have hin : 0 ≤ i ∧ i < (N : Int) ∧ N ≤ 4096 := by
      unfold can inq vld at h1
      simp only [Bool.and_eq_true, decide_eq_true_eq] at h1
      have := HN.out.1
      omega
    obtain ⟨j, rfl⟩ : ∃ j : Nat, i = (j : Int) := ⟨i.toNat, by omega⟩
    have HE := Lib.hid (show los n (j : Int) = wo n j by unfold los; rw [h1]; rfl)
    have hjN : j < N := by omega
    have hN4 := hin.2.2
    rw [h2] at HH ⊢
    clear h1 h2 hin
    go_enter Try.func24, Try.ntmps24
    go_wp2_with fail
    generalize World.alloc _ _ = W at *
    have hx := (H2.out.facts (Below.refl _ _)).1.1
    have hx1 := (H2.out.facts (Below.refl _ _)).1.2
    rw [HN.out.1] at hx
    rw [HN.out.2] at hx1
    go_wp2_with fail
    refine (HH.out _ H2.out.below).mono ?_
    rintro e w1 ⟨rfl, hb1⟩
    clear hx hx1
    obtain ⟨⟨x0, x1⟩, z0, z1, f0, f1⟩ := H2.out.facts hb1
    rw [HN.out.1] at x0
    rw [HN.out.2] at x1
    have HB1 := Lib.hid hb1
    have HBW := Lib.hid (H2.out.below.trans (hb1.mono H2.out.below.size))
    clear hb1
    go_wp2_with fail
    refine (HWO.out _ HBW.out j (by omega) (by omega)).mono ?_
    rintro e w2 ⟨A', c', B', k', rfl, hN2, hb2⟩
    clear x0 x1 z0 z1 f0 f1
    have HB2 := Lib.hid (HB1.out.trans (hb2.mono HB1.out.size))
    obtain ⟨l1, hl1⟩ : ∃ l1, (wo n j).q.length = l1 := ⟨_, rfl⟩
    obtain ⟨l2, hl2⟩ : ∃ l2, (wo n j).ap.length = l2 := ⟨_, rfl⟩
    have HF := Lib.hid (H2.out.fin HB2.out hN2 hl1 hl2)
    have HL := Lib.hid (And.intro hl1 hl2)
    obtain ⟨_, z0, z1, f0, f1⟩ := H2.out.facts HB2.out
    rw [hl1, hl2]
    clear hb2 hN2 hl1 hl2
    go_wp2_with fail
    refine bodyPost_ret (nt_ret2 Try.results24 rfl HF.out.1) rfl ⟨A', c', B', k', ?_, ?_, ?_⟩
    · rw [HE.out, HL.out.1, HL.out.2]; rfl
    · rw [HE.out]; exact HF.out.2.1
    · exact HF.out.2.2
  · have HE := Lib.hid (show los n i = nt0 by unfold los; rw [h1]; rfl)
    clear h1
    rcases h2 with h2 | h2
    all_goals
      rw [h2] at HH ⊢
      clear h2
      go_enter Try.func24, Try.ntmps24
      go_wp2_with fail
      generalize World.alloc _ _ = W at *
      have hx := (H2.out.facts (Below.refl _ _)).1.1
      have hx1 := (H2.out.facts (Below.refl _ _)).1.2
      rw [HN.out.1] at hx
      rw [HN.out.2] at hx1
      go_wp2_with fail
      refine (HH.out _ H2.out.below).mono ?_
      rintro e w1 ⟨rfl, hb1⟩
      clear hx hx1
      obtain ⟨_, z0, z1, f0, f1⟩ := H2.out.facts hb1
      have HF := Lib.hid (H2.out.fin hb1 (NtIn.zero w1) (l1 := 0) (l2 := 0) rfl rfl)
      clear hb1
      go_wp2_with fail
      refine bodyPost_ret (nt_ret2 Try.results24 rfl HF.out.1) rfl ⟨none, 0, none, 0, ?_, ?_, ?_⟩
      · rw [HE.out]; rfl
      · rw [HE.out]; exact HF.out.2.1
      · exact HF.out.2.2


end Go.Proofs.Ytojijebmipgeeaa
