/- The reference's Repeat. -/
import Derived.Test.YtljbofniglcheaaRAs
import Derived.Test.YtljbofniglcheaaRSe
import Derived.Test.YtljbofniglcheaaPlN
namespace Go.Proofs.Ytljbofniglcheaa
open Go.RowKit
set_option linter.unusedVariables false

theorem rsend_w (n : Nt) (A B D : Option Addr) (c k d : Nat) (p : Pk) (w : World) (hS : NtIn w n A c B k) (hD : Sl w D p.da d) (hq : vld n = true ∧ okp p = true) :
    Calls Try.prog 12 #[ntv n A c B k, pkv p D d] w (NtPost (wt n p) (wte n) w) := by
  have h := rsend_any n A B D c k d p w hS hD
  have h1 : sn n p = wt n p := by unfold sn; rw [hq.1, hq.2]; rfl
  have h2 : sne n p = wte n := by unfold sne; rw [hq.1, hq.2]; rfl
  rw [h1, h2] at h
  exact h

set_option maxHeartbeats 2000000 in
set_option maxRecDepth 100000 in
theorem rrepeat_any (n : Nt) (A B : Option Addr) (c k : Nat) (i : Int) (w : World) (hS : NtIn w n A c B k) :
    Calls Try.prog 26 #[ntv n A c B k, .int .i64 i] w (NtPost (rp n i) (rpe n i) w) := by
  have h2 := two_new w n A c B k
  have HH := Lib.hid (fun W (hb : Below w.heap.size w W) => rask_any n A B c k i W (hS.up hb))
  have H2 := Lib.hid h2
  have HSI := Lib.hid hS
  have HWT := Lib.hid (fun W (hb : Below w.heap.size w W) (p : Pk) D d (hD : Sl W D p.da d) (hq : vld n = true ∧ okp p = true) => rsend_w n A B D c k d p W (hS.up hb) hD hq)
  unfold NtPost IntPost at *
  unfold ntv ntc pkv pkc at *
  clear h2 hS
  obtain ⟨N, hN⟩ : ∃ N, n.q.length = N := ⟨_, rfl⟩
  obtain ⟨M, hM⟩ : ∃ M, n.ap.length = M := ⟨_, rfl⟩
  have HN := Lib.hid (And.intro hN hM)
  rw [hN] at HH H2 HWT ⊢
  rw [hM] at HH H2 HWT ⊢
  clear hN hM
  rcases hle_cases n i with ⟨h1, h2⟩ | ⟨h1, h2⟩
  · have hin : 0 ≤ i ∧ i < (N : Int) ∧ N ≤ 4096 := by
      unfold can inq vld at h1
      simp only [Bool.and_eq_true, decide_eq_true_eq] at h1
      have := HN.out.1
      omega
    obtain ⟨j, rfl⟩ : ∃ j : Nat, i = (j : Int) := ⟨i.toNat, by omega⟩
    have hjN : j < N := by omega
    have hjl : j < n.q.length := by have := HN.out.1; omega
    have HE := Lib.hid (show rp n (j : Int) = wt n (ati n (j : Int)) ∧ rpe n (j : Int) = wte n by unfold rp rpe; rw [h1]; exact ⟨rfl, rfl⟩)
    have hat : n.q[j]? = some (ati n (j : Int)) := by
      unfold ati
      rw [Int.toNat_natCast, List.getD_eq_getElem?_getD, List.getElem?_eq_getElem hjl]
      rfl
    have HAT := Lib.hid hat
    have hN4 := hin.2.2
    rw [h2] at HH
    have HVP := Lib.hid (show vld n = true ∧ okp (ati n (j : Int)) = true from ⟨((can_iff n _).1 h1).1, ati_ok ((can_iff n _).1 h1).1 hjl⟩)
    clear h1 h2 hin hat
    obtain ⟨bA, oA, D, d, rfl, hbA, q0, q1, q2, q3⟩ := HSI.out.1.at_ HAT.out
    obtain ⟨p, hp⟩ : ∃ p, ati n (j : Int) = p := ⟨_, rfl⟩
    rw [hp] at q0 q1 q2 q3 HE HVP
    clear hp
    have HWP := Lib.hid (fun W (hb : Below w.heap.size w W) => HWT.out W hb p D d (q3.up hb) HVP.out)
    obtain ⟨m, hm⟩ : ∃ m, p.da.length = m := ⟨_, rfl⟩
    obtain ⟨a, ha⟩ : ∃ a, p.fr = a := ⟨_, rfl⟩
    obtain ⟨b, hb⟩ : ∃ b, p.to = b := ⟨_, rfl⟩
    rw [hm, ha, hb] at HWP
    rw [hm] at q2
    rw [ha] at q0
    rw [hb] at q1
    clear hm ha hb q3
    have HQ0 := Lib.hid (And.intro q0 (And.intro q1 q2))
    clear q0 q1 q2
    go_enter Try.func26, Try.ntmps26
    go_wp2_with fail
    generalize World.alloc _ _ = W at *
    have hx := (H2.out.facts (Below.refl _ _)).1.1
    have hx1 := (H2.out.facts (Below.refl _ _)).1.2
    rw [HN.out.1] at hx
    rw [HN.out.2] at hx1
    go_wp2_with fail
    refine (HH.out _ H2.out.below).mono ?_
    rintro e w1 ⟨rfl, hb1⟩
    clear hx hx1
    have HB1 := Lib.hid hb1
    have HBW := Lib.hid (H2.out.below.trans (hb1.mono H2.out.below.size))
    clear hb1
    go_wp2_with fail
    have HS1 := Lib.hid (fun V (hb : Below w1.heap.size w1 V) => show V.cell? ⟨w.heap.size, 0, none⟩ = some (.slice (some ⟨bA, oA, none⟩) N c) ∧ V.cell? ⟨w.heap.size, 1, none⟩ = some (.slice B M k) ∧ V.cell? ⟨bA, oA + j * 3, none⟩ = some (.int .i64 a) ∧ V.cell? ⟨bA, oA + j * 3 + 1, none⟩ = some (.int .i64 b) ∧ V.cell? ⟨bA, oA + j * 3 + 2, none⟩ = some (.slice D m d) from by
      have hbb := HB1.out.trans (hb.mono HB1.out.size)
      have hbw := HBW.out.trans (hb.mono HBW.out.size)
      obtain ⟨⟨x0, x1⟩, _⟩ := H2.out.facts hbb
      rw [HN.out.1] at x0
      rw [HN.out.2] at x1
      exact ⟨x0, x1, (hbw.cell (p := ⟨bA, oA + j * 3, none⟩) hbA).trans HQ0.out.1, (hbw.cell (p := ⟨bA, oA + j * 3 + 1, none⟩) hbA).trans HQ0.out.2.1, (hbw.cell (p := ⟨bA, oA + j * 3 + 2, none⟩) hbA).trans HQ0.out.2.2⟩)
    have HSV := Lib.hid (HS1.out w1.drew (Below.refl _ w1).drew)
    have HSW := Lib.hid (fun V (hb : Below w1.heap.size w1 V) v0 => show (V.setCell ⟨w.heap.size + 1, 0, none⟩ v0).cell? ⟨w.heap.size, 0, none⟩ = some (.slice (some ⟨bA, oA, none⟩) N c) ∧ (V.setCell ⟨w.heap.size + 1, 0, none⟩ v0).cell? ⟨w.heap.size, 1, none⟩ = some (.slice B M k) ∧ (V.setCell ⟨w.heap.size + 1, 0, none⟩ v0).cell? ⟨bA, oA + j * 3, none⟩ = some (.int .i64 a) ∧ (V.setCell ⟨w.heap.size + 1, 0, none⟩ v0).cell? ⟨bA, oA + j * 3 + 1, none⟩ = some (.int .i64 b) ∧ (V.setCell ⟨w.heap.size + 1, 0, none⟩ v0).cell? ⟨bA, oA + j * 3 + 2, none⟩ = some (.slice D m d) from
      have hg := set_grown_at V (w.heap.size + 1) 0 v0
      have h := HS1.out V hb
      ⟨hg.cell h.1 (by simp), hg.cell h.2.1 (by simp), hg.cell h.2.2.1 (by simp; omega), hg.cell h.2.2.2.1 (by simp; omega), hg.cell h.2.2.2.2 (by simp; omega)⟩)
    have HSX := Lib.hid (fun V (hb : Below w1.heap.size w1 V) v0 v1 => show ((V.setCell ⟨w.heap.size + 1, 0, none⟩ v0).setCell ⟨w.heap.size + 1, 1, none⟩ v1).cell? ⟨w.heap.size, 0, none⟩ = some (.slice (some ⟨bA, oA, none⟩) N c) ∧ ((V.setCell ⟨w.heap.size + 1, 0, none⟩ v0).setCell ⟨w.heap.size + 1, 1, none⟩ v1).cell? ⟨w.heap.size, 1, none⟩ = some (.slice B M k) ∧ ((V.setCell ⟨w.heap.size + 1, 0, none⟩ v0).setCell ⟨w.heap.size + 1, 1, none⟩ v1).cell? ⟨bA, oA + j * 3, none⟩ = some (.int .i64 a) ∧ ((V.setCell ⟨w.heap.size + 1, 0, none⟩ v0).setCell ⟨w.heap.size + 1, 1, none⟩ v1).cell? ⟨bA, oA + j * 3 + 1, none⟩ = some (.int .i64 b) ∧ ((V.setCell ⟨w.heap.size + 1, 0, none⟩ v0).setCell ⟨w.heap.size + 1, 1, none⟩ v1).cell? ⟨bA, oA + j * 3 + 2, none⟩ = some (.slice D m d) from
      have hg := set_grown_at (V.setCell ⟨w.heap.size + 1, 0, none⟩ v0) (w.heap.size + 1) 1 v1
      have h := HSW.out V hb v0
      ⟨hg.cell h.1 (by simp), hg.cell h.2.1 (by simp), hg.cell h.2.2.1 (by simp; omega), hg.cell h.2.2.2.1 (by simp; omega), hg.cell h.2.2.2.2 (by simp; omega)⟩)
    have HBD := Lib.hid (HBW.out.trans ((Below.refl _ w1).drew.mono HBW.out.size))
    obtain ⟨wq, hwq⟩ : ∃ wq, wt n p = wq := ⟨_, rfl⟩
    obtain ⟨we, hwe⟩ : ∃ we, wte n = we := ⟨_, rfl⟩
    rw [hwq, hwe] at HWP HE
    clear hwq hwe
    go_region_held3 (fun w' => w'.cell? ⟨w.heap.size, 0, none⟩ = some (.slice (some ⟨bA, oA, none⟩) N c) ∧ w'.cell? ⟨w.heap.size, 1, none⟩ = some (.slice B M k) ∧ w'.cell? ⟨bA, oA + j * 3, none⟩ = some (.int .i64 a) ∧ w'.cell? ⟨bA, oA + j * 3 + 1, none⟩ = some (.int .i64 b) ∧ w'.cell? ⟨bA, oA + j * 3 + 2, none⟩ = some (.slice D m d))
      (with_reducible first | exact HSV.out | exact HS1.out _ B3.out | exact HSX.out _ B3.out _ _)
      (first
        | (go_at_call 12; (with_reducible refine (HWP.out _ HBD.out).mono ?_); rintro e w3 ⟨A', c', B', k', rfl, hN2, hb3⟩; have B3 := Lib.hid (show Below w1.heap.size w1 w3 from (Below.refl _ w1).drew.trans hb3); have BW3 := Lib.hid (HBD.out.trans (hb3.mono HBD.out.size)); obtain ⟨_, z0, z1, g0, g1⟩ := H2.out.facts (HB1.out.trans (B3.out.mono HB1.out.size)); obtain ⟨l1, hl1⟩ : ∃ l1, wq.q.length = l1 := ⟨_, rfl⟩; obtain ⟨l2, hl2⟩ : ∃ l2, wq.ap.length = l2 := ⟨_, rfl⟩; have HF := Lib.hid (fin2 (r := w.heap.size + 1) (by omega) (H2.out.res.below (HB1.out.trans (B3.out.mono HB1.out.size))) BW3.out hN2 hl1 hl2); have HL := Lib.hid (And.intro hl1 hl2); rw [hl1, hl2]; clear hb3 hN2 hl1 hl2)
        | fail)
    all_goals
      go_wp2_with fail
      all_goals
        refine bodyPost_ret (nt_ret2 Try.results26 rfl HF.out.1) rfl ⟨A', c', B', k', ?_, ?_, ?_⟩
        · rw [HE.out.1, HE.out.2, HL.out.1, HL.out.2]; rfl
        · rw [HE.out.1]; exact HF.out.2.1
        · exact HF.out.2.2
  · have HE := Lib.hid (show rp n i = nt0 ∧ rpe n i = hle n i by unfold rp rpe; rw [h1]; exact ⟨rfl, rfl⟩)
    clear h1
    rcases h2 with h2 | h2
    all_goals
      rw [h2] at HH HE
      clear h2
      go_enter Try.func26, Try.ntmps26
      go_wp2_with fail
      generalize World.alloc _ _ = W at *
      have hx := (H2.out.facts (Below.refl _ _)).1.1
      have hx1 := (H2.out.facts (Below.refl _ _)).1.2
      rw [HN.out.1] at hx
      rw [HN.out.2] at hx1
      go_wp2_with fail
      refine (HH.out _ H2.out.below).mono ?_
      rintro e w1 ⟨rfl, hb1⟩
      clear hx hx1
      obtain ⟨_, z0, z1, f0, f1⟩ := H2.out.facts hb1
      have HF := Lib.hid (H2.out.fin hb1 (NtIn.zero w1) (l1 := 0) (l2 := 0) rfl rfl)
      clear hb1
      go_wp2_with fail
      refine bodyPost_ret (nt_ret2 Try.results26 rfl HF.out.1) rfl ⟨none, 0, none, 0, ?_, ?_, ?_⟩
      · rw [HE.out.1, HE.out.2]; rfl
      · rw [HE.out.1]; exact HF.out.2.1
      · exact HF.out.2.2


end Go.Proofs.Ytljbofniglcheaa
