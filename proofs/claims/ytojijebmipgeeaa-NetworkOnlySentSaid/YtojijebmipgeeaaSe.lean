/- Send, Repeat. -/
import Derived.Test.YtojijebmipgeeaaSd
namespace Go.Proofs.Ytojijebmipgeeaa
open Go.RowKit
set_option linter.unusedVariables false

/-- Links and a packet in boxes, and the result's box behind them. -/
structure Tri (w W : World) (n : Nt) (A : Option Addr) (c : Nat) (B : Option Addr) (k : Nat) (p : Pk) (D : Option Addr) (d : Nat) : Prop where
  below : Below w.heap.size w W
  box : Box W w.heap.size (ntc n A c B k) 25
  pk : Box W (w.heap.size + 1) (pkc p D d) 28
  res : Box W (w.heap.size + 1 + 1) #[.slice none 0 0, .slice none 0 0] 25
theorem tri_new (w : World) (n : Nt) (A : Option Addr) (c : Nat) (B : Option Addr) (k : Nat) (p : Pk) (D : Option Addr) (d : Nat) :
    Tri w (((w.alloc (.cells (ntc n A c B k) 25)).alloc (.cells (pkc p D d) 28)).alloc (.cells #[.slice none 0 0, .slice none 0 0] 25)) n A c B k p D d := by
  refine ⟨alloc3 w _ _ _, Box.alloc (Box.alloc (Box.new w _ _) _) _, ?_, ?_⟩
  · have := Box.alloc (Box.new (w.alloc (.cells (ntc n A c B k) 25)) (pkc p D d) 28) (.cells #[.slice none 0 0, .slice none 0 0] 25)
    rw [World.size_alloc] at this
    exact this
  · have := Box.new ((w.alloc (.cells (ntc n A c B k) 25)).alloc (.cells (pkc p D d) 28)) #[.slice none 0 0, .slice none 0 0] 25
    rw [World.size_alloc, World.size_alloc] at this
    exact this
theorem Tri.facts {w W W' : World} {n : Nt} {A : Option Addr} {c : Nat} {B : Option Addr} {k : Nat} {p : Pk} {D : Option Addr} {d : Nat} (h : Tri w W n A c B k p D d) (hb : Below W.heap.size W W') :
    (W'.cell? ⟨w.heap.size, 0, none⟩ = some (.slice A n.q.length c) ∧ W'.cell? ⟨w.heap.size, 1, none⟩ = some (.slice B n.ap.length k)) ∧
    (W'.cell? ⟨w.heap.size + 1, 0, none⟩ = some (.int .i64 p.fr) ∧ W'.cell? ⟨w.heap.size + 1, 1, none⟩ = some (.int .i64 p.to) ∧ W'.cell? ⟨w.heap.size + 1, 2, none⟩ = some (.slice D p.da.length d)) ∧
    (W'.cell? ⟨w.heap.size + 1 + 1, 0, none⟩ = some (.slice none 0 0) ∧ W'.cell? ⟨w.heap.size + 1 + 1, 1, none⟩ = some (.slice none 0 0) ∧ W'.frozen? ⟨w.heap.size + 1 + 1, 0, none⟩ = false ∧ W'.frozen? ⟨w.heap.size + 1 + 1, 1, none⟩ = false) :=
  ⟨⟨(h.box.below hb).cell 0, (h.box.below hb).cell 1⟩, ⟨(h.pk.below hb).cell 0, (h.pk.below hb).cell 1, (h.pk.below hb).cell 2⟩, (h.res.below hb).cell 0, (h.res.below hb).cell 1, (h.res.below hb).frozen 0, (h.res.below hb).frozen 1⟩
theorem fin2 {w W' : World} {r : Nat} (hr : w.heap.size ≤ r) (hz : Box W' r #[.slice none 0 0, .slice none 0 0] 25) (hb : Below w.heap.size w W') {m : Nt} {A' B' : Option Addr} {c' k' : Nat} (hN : NtIn W' m A' c' B' k') {l1 l2 : Nat} (h1 : m.q.length = l1) (h2 : m.ap.length = l2) :
    Box ((W'.setCell ⟨r, 0, none⟩ (.slice A' l1 c')).setCell ⟨r, 1, none⟩ (.slice B' l2 k')) r #[.slice A' l1 c', .slice B' l2 k'] 25 ∧
    NtIn ((W'.setCell ⟨r, 0, none⟩ (.slice A' l1 c')).setCell ⟨r, 1, none⟩ (.slice B' l2 k')) m A' c' B' k' ∧
    Below w.heap.size w ((W'.setCell ⟨r, 0, none⟩ (.slice A' l1 c')).setCell ⟨r, 1, none⟩ (.slice B' l2 k')) :=
  ⟨box2 _ _ hz, (hN.off hz (onlyS2 _ _ _ _ _ _) 0 _).off (hz.set (i := 0) (v := .slice A' l1 c')) (OnlyS.set (onlyS2 _ _ _ _ _ _) 0 _ _ _) 1 _,
    ((hb.setCell (p := ⟨r, 0, none⟩) hr _).setCell (p := ⟨r, 1, none⟩) hr _)⟩

set_option maxHeartbeats 2000000 in
set_option maxRecDepth 100000 in
theorem send_any (n : Nt) (A B D : Option Addr) (c k d : Nat) (p : Pk) (w : World) (hS : NtIn w n A c B k) (hD : Sl w D p.da d) :
    Calls Try.prog 11 #[ntv n A c B k, pkv p D d] w (NtPost (sn n p) (sne n p) w) := by
  have h2 := tri_new w n A c B k p D d
  have hdl : p.da.length ≤ 9223372036854775807 := by have := Nat.le_trans hD.2.1 hD.2.2.1; unfold maxLen at this; omega
  have HC := Lib.hid (fun W (hb : Below w.heap.size w W) => check_any n A B c k W (hS.up hb))
  have HP := Lib.hid (fun W => isPacket_any p D d W hdl)
  have HW := Lib.hid (fun W (hb : Below w.heap.size w W) (hq : n.q.length ≤ 4096) => with_any n A B D c k d p W (hS.up hb) (hD.up hb) hq)
  have H2 := Lib.hid h2
  have HE := Lib.hid (show sne n p = (if vld n && okp p then wte n else 90) ∧ sn n p = (if vld n && okp p then wt n p else nt0) from ⟨rfl, rfl⟩)
  have HV := Lib.hid (show vld n = true → n.q.length ≤ 4096 from fun h => by unfold vld at h; simp only [Bool.and_eq_true, decide_eq_true_eq] at h; exact h.1.1)
  unfold NtPost IntPost at *
  unfold ntv ntc pkv pkc at *
  clear h2 hS hD
  obtain ⟨N, hN⟩ : ∃ N, n.q.length = N := ⟨_, rfl⟩
  obtain ⟨M, hM⟩ : ∃ M, n.ap.length = M := ⟨_, rfl⟩
  obtain ⟨m, hm⟩ : ∃ m, p.da.length = m := ⟨_, rfl⟩
  obtain ⟨a, ha⟩ : ∃ a, p.fr = a := ⟨_, rfl⟩
  obtain ⟨b, hb⟩ : ∃ b, p.to = b := ⟨_, rfl⟩
  have HN := Lib.hid (And.intro hN (And.intro hM (And.intro hm (And.intro ha hb))))
  rw [hN, hM] at HC HW H2
  rw [hm, ha, hb] at HP HW H2
  rw [hN] at HV
  rw [hN, hM, hm, ha, hb]
  clear hN hM hm ha hb hdl
  go_enter Try.func11, Try.ntmps11
  go_wp2_with fail
  generalize World.alloc _ _ = W at *
  obtain ⟨⟨x0, x1⟩, ⟨y0, y1, y2⟩, z0, z1, g0, g1⟩ := H2.out.facts (Below.refl _ _)
  rw [HN.out.1] at x0
  rw [HN.out.2.1] at x1
  rw [HN.out.2.2.2.1] at y0
  rw [HN.out.2.2.2.2] at y1
  rw [HN.out.2.2.1] at y2
  rcases chk_cases n with ⟨h1, hv⟩ | ⟨h1, hv⟩
  · rw [h1] at HC
    have HV1 := Lib.hid (HV.out hv)
    rw [hv, Bool.true_and] at HE
    clear h1 hv HV
    go_wp2_with fail
    refine (HC.out _ H2.out.below).mono ?_
    rintro e w1 ⟨rfl, hb1⟩
    have HB1 := Lib.hid hb1
    clear x0 x1 y0 y1 y2 z0 z1 g0 g1
    obtain ⟨⟨x0, x1⟩, ⟨y0, y1, y2⟩, z0, z1, g0, g1⟩ := H2.out.facts hb1
    rw [HN.out.1] at x0
    rw [HN.out.2.1] at x1
    rw [HN.out.2.2.2.1] at y0
    rw [HN.out.2.2.2.2] at y1
    rw [HN.out.2.2.1] at y2
    clear hb1
    go_wp2_with fail
    refine (HP.out _).mono ?_
    rintro e w2 ⟨rfl, hb2⟩
    have HB2 := Lib.hid (HB1.out.trans (hb2.mono HB1.out.size))
    clear x0 x1 y0 y1 y2 z0 z1 g0 g1 hb2
    obtain ⟨⟨x0, x1⟩, ⟨y0, y1, y2⟩, z0, z1, g0, g1⟩ := H2.out.facts HB2.out
    rw [HN.out.1] at x0
    rw [HN.out.2.1] at x1
    rw [HN.out.2.2.2.1] at y0
    rw [HN.out.2.2.2.2] at y1
    rw [HN.out.2.2.1] at y2
    have HBW := Lib.hid (H2.out.below.trans (HB2.out.mono H2.out.below.size))
    cases hp : okp p <;> rw [hp] at HE <;> clear hp
    · have HF := Lib.hid (fin2 (r := w.heap.size + 1 + 1) (by omega) (H2.out.res.below HB2.out) HBW.out (NtIn.zero w2) (l1 := 0) (l2 := 0) rfl rfl)
      go_wp2_with fail
      refine bodyPost_ret (nt_ret2 Try.results11 rfl HF.out.1) rfl ⟨none, 0, none, 0, ?_, ?_, ?_⟩
      · rw [HE.out.1, HE.out.2]; rfl
      · rw [HE.out.2]; exact HF.out.2.1
      · exact HF.out.2.2
    · have HE2 := Lib.hid (show sne n p = wte n ∧ sn n p = wt n p by simpa using HE.out)
      go_wp2_with fail
      refine (HW.out _ HBW.out HV1.out).mono ?_
      rintro e w3 ⟨A', c', B', k', rfl, hN2, hb3⟩
      clear x0 x1 y0 y1 y2 z0 z1 g0 g1
      have HB3 := Lib.hid (HB2.out.trans (hb3.mono HB2.out.size))
      have HBW3 := Lib.hid (HBW.out.trans (hb3.mono HBW.out.size))
      obtain ⟨l1, hl1⟩ : ∃ l1, (wt n p).q.length = l1 := ⟨_, rfl⟩
      obtain ⟨l2, hl2⟩ : ∃ l2, (wt n p).ap.length = l2 := ⟨_, rfl⟩
      have HF := Lib.hid (fin2 (r := w.heap.size + 1 + 1) (by omega) (H2.out.res.below HB3.out) HBW3.out hN2 hl1 hl2)
      have HL := Lib.hid (And.intro hl1 hl2)
      obtain ⟨_, _, z0, z1, g0, g1⟩ := H2.out.facts HB3.out
      rw [hl1, hl2]
      obtain ⟨we, hwe⟩ : ∃ we, wte n = we := ⟨_, rfl⟩
      rw [hwe]
      have HWE := Lib.hid hwe
      clear hb3 hN2 hl1 hl2 hwe
      go_wp2_with fail
      refine bodyPost_ret (nt_ret2 Try.results11 rfl HF.out.1) rfl ⟨A', c', B', k', ?_, ?_, ?_⟩
      · rw [HE2.out.1, HE2.out.2, HL.out.1, HL.out.2, HWE.out]; rfl
      · rw [HE2.out.2]; exact HF.out.2.1
      · exact HF.out.2.2
  · rw [h1] at HC
    rw [hv, Bool.false_and] at HE
    clear h1 hv HV
    go_wp2_with fail
    refine (HC.out _ H2.out.below).mono ?_
    rintro e w1 ⟨rfl, hb1⟩
    have HBW := Lib.hid (H2.out.below.trans (hb1.mono H2.out.below.size))
    have HF := Lib.hid (fin2 (r := w.heap.size + 1 + 1) (by omega) (H2.out.res.below hb1) HBW.out (NtIn.zero w1) (l1 := 0) (l2 := 0) rfl rfl)
    clear x0 x1 y0 y1 y2 z0 z1 g0 g1
    obtain ⟨_, _, z0, z1, g0, g1⟩ := H2.out.facts hb1
    clear hb1
    go_wp2_with fail
    refine bodyPost_ret (nt_ret2 Try.results11 rfl HF.out.1) rfl ⟨none, 0, none, 0, ?_, ?_, ?_⟩
    · rw [HE.out.1, HE.out.2]; rfl
    · rw [HE.out.2]; exact HF.out.2.1
    · exact HF.out.2.2

set_option maxHeartbeats 2000000 in
set_option maxRecDepth 100000 in
theorem repeat_any (n : Nt) (A B : Option Addr) (c k : Nat) (i : Int) (w : World) (hS : NtIn w n A c B k) :
    Calls Try.prog 25 #[ntv n A c B k, .int .i64 i] w (NtPost (rp n i) (rpe n i) w) := by
  have h2 := two_new w n A c B k
  have HH := Lib.hid (fun W (hb : Below w.heap.size w W) => holds_any n A B c k i W (hS.up hb))
  have H2 := Lib.hid h2
  have HSI := Lib.hid hS
  have HWT := Lib.hid (fun W (hb : Below w.heap.size w W) (p : Pk) D d (hD : Sl W D p.da d) (hq : n.q.length ≤ 4096) => with_any n A B D c k d p W (hS.up hb) hD hq)
  unfold NtPost IntPost at *
  unfold ntv ntc pkv pkc at *
  clear h2 hS
  obtain ⟨N, hN⟩ : ∃ N, n.q.length = N := ⟨_, rfl⟩
  obtain ⟨M, hM⟩ : ∃ M, n.ap.length = M := ⟨_, rfl⟩
  have HN := Lib.hid (And.intro hN hM)
  rw [hN] at HH H2 HWT ⊢
  rw [hM] at HH H2 HWT ⊢
  clear hN hM
  rcases hle_cases n i with ⟨h1, h2⟩ | ⟨h1, h2⟩
  · have hin : 0 ≤ i ∧ i < (N : Int) ∧ N ≤ 4096 := by
      unfold can inq vld at h1
      simp only [Bool.and_eq_true, decide_eq_true_eq] at h1
      have := HN.out.1
      omega
    obtain ⟨j, rfl⟩ : ∃ j : Nat, i = (j : Int) := ⟨i.toNat, by omega⟩
    have hjN : j < N := by omega
    have hjl : j < n.q.length := by have := HN.out.1; omega
    have HE := Lib.hid (show rp n (j : Int) = wt n (ati n (j : Int)) ∧ rpe n (j : Int) = wte n by unfold rp rpe; rw [h1]; exact ⟨rfl, rfl⟩)
    have hat : n.q[j]? = some (ati n (j : Int)) := by
      unfold ati
      rw [Int.toNat_natCast, List.getD_eq_getElem?_getD, List.getElem?_eq_getElem hjl]
      rfl
    have HAT := Lib.hid hat
    have hN4 := hin.2.2
    rw [h2] at HH
    clear h1 h2 hin hat
    obtain ⟨bA, oA, D, d, rfl, hbA, q0, q1, q2, q3⟩ := HSI.out.1.at_ HAT.out
    obtain ⟨p, hp⟩ : ∃ p, ati n (j : Int) = p := ⟨_, rfl⟩
    rw [hp] at q0 q1 q2 q3 HE
    clear hp
    have HWP := Lib.hid (fun W (hb : Below w.heap.size w W) => HWT.out W hb p D d (q3.up hb) (by omega))
    obtain ⟨m, hm⟩ : ∃ m, p.da.length = m := ⟨_, rfl⟩
    obtain ⟨a, ha⟩ : ∃ a, p.fr = a := ⟨_, rfl⟩
    obtain ⟨b, hb⟩ : ∃ b, p.to = b := ⟨_, rfl⟩
    rw [hm, ha, hb] at HWP
    rw [hm] at q2
    rw [ha] at q0
    rw [hb] at q1
    clear hm ha hb q3
    have HQ0 := Lib.hid (And.intro q0 (And.intro q1 q2))
    clear q0 q1 q2
    go_enter Try.func25, Try.ntmps25
    go_wp2_with fail
    generalize World.alloc _ _ = W at *
    have hx := (H2.out.facts (Below.refl _ _)).1.1
    have hx1 := (H2.out.facts (Below.refl _ _)).1.2
    rw [HN.out.1] at hx
    rw [HN.out.2] at hx1
    go_wp2_with fail
    refine (HH.out _ H2.out.below).mono ?_
    rintro e w1 ⟨rfl, hb1⟩
    clear hx hx1
    have HB1 := Lib.hid hb1
    have HBW := Lib.hid (H2.out.below.trans (hb1.mono H2.out.below.size))
    clear hb1
    go_wp2_with fail
    have HS1 := Lib.hid (fun V (hb : Below w1.heap.size w1 V) => show V.cell? ⟨w.heap.size, 0, none⟩ = some (.slice (some ⟨bA, oA, none⟩) N c) ∧ V.cell? ⟨w.heap.size, 1, none⟩ = some (.slice B M k) ∧ V.cell? ⟨bA, oA + j * 3, none⟩ = some (.int .i64 a) ∧ V.cell? ⟨bA, oA + j * 3 + 1, none⟩ = some (.int .i64 b) ∧ V.cell? ⟨bA, oA + j * 3 + 2, none⟩ = some (.slice D m d) from by
      have hbb := HB1.out.trans (hb.mono HB1.out.size)
      have hbw := HBW.out.trans (hb.mono HBW.out.size)
      obtain ⟨⟨x0, x1⟩, _⟩ := H2.out.facts hbb
      rw [HN.out.1] at x0
      rw [HN.out.2] at x1
      exact ⟨x0, x1, (hbw.cell (p := ⟨bA, oA + j * 3, none⟩) hbA).trans HQ0.out.1, (hbw.cell (p := ⟨bA, oA + j * 3 + 1, none⟩) hbA).trans HQ0.out.2.1, (hbw.cell (p := ⟨bA, oA + j * 3 + 2, none⟩) hbA).trans HQ0.out.2.2⟩)
    have HSV := Lib.hid (HS1.out w1.drew (Below.refl _ w1).drew)
    have HSW := Lib.hid (fun V (hb : Below w1.heap.size w1 V) v0 => show (V.setCell ⟨w.heap.size + 1, 0, none⟩ v0).cell? ⟨w.heap.size, 0, none⟩ = some (.slice (some ⟨bA, oA, none⟩) N c) ∧ (V.setCell ⟨w.heap.size + 1, 0, none⟩ v0).cell? ⟨w.heap.size, 1, none⟩ = some (.slice B M k) ∧ (V.setCell ⟨w.heap.size + 1, 0, none⟩ v0).cell? ⟨bA, oA + j * 3, none⟩ = some (.int .i64 a) ∧ (V.setCell ⟨w.heap.size + 1, 0, none⟩ v0).cell? ⟨bA, oA + j * 3 + 1, none⟩ = some (.int .i64 b) ∧ (V.setCell ⟨w.heap.size + 1, 0, none⟩ v0).cell? ⟨bA, oA + j * 3 + 2, none⟩ = some (.slice D m d) from
      have hg := set_grown_at V (w.heap.size + 1) 0 v0
      have h := HS1.out V hb
      ⟨hg.cell h.1 (by simp), hg.cell h.2.1 (by simp), hg.cell h.2.2.1 (by simp; omega), hg.cell h.2.2.2.1 (by simp; omega), hg.cell h.2.2.2.2 (by simp; omega)⟩)
    have HSX := Lib.hid (fun V (hb : Below w1.heap.size w1 V) v0 v1 => show ((V.setCell ⟨w.heap.size + 1, 0, none⟩ v0).setCell ⟨w.heap.size + 1, 1, none⟩ v1).cell? ⟨w.heap.size, 0, none⟩ = some (.slice (some ⟨bA, oA, none⟩) N c) ∧ ((V.setCell ⟨w.heap.size + 1, 0, none⟩ v0).setCell ⟨w.heap.size + 1, 1, none⟩ v1).cell? ⟨w.heap.size, 1, none⟩ = some (.slice B M k) ∧ ((V.setCell ⟨w.heap.size + 1, 0, none⟩ v0).setCell ⟨w.heap.size + 1, 1, none⟩ v1).cell? ⟨bA, oA + j * 3, none⟩ = some (.int .i64 a) ∧ ((V.setCell ⟨w.heap.size + 1, 0, none⟩ v0).setCell ⟨w.heap.size + 1, 1, none⟩ v1).cell? ⟨bA, oA + j * 3 + 1, none⟩ = some (.int .i64 b) ∧ ((V.setCell ⟨w.heap.size + 1, 0, none⟩ v0).setCell ⟨w.heap.size + 1, 1, none⟩ v1).cell? ⟨bA, oA + j * 3 + 2, none⟩ = some (.slice D m d) from
      have hg := set_grown_at (V.setCell ⟨w.heap.size + 1, 0, none⟩ v0) (w.heap.size + 1) 1 v1
      have h := HSW.out V hb v0
      ⟨hg.cell h.1 (by simp), hg.cell h.2.1 (by simp), hg.cell h.2.2.1 (by simp; omega), hg.cell h.2.2.2.1 (by simp; omega), hg.cell h.2.2.2.2 (by simp; omega)⟩)
    have HBD := Lib.hid (HBW.out.trans ((Below.refl _ w1).drew.mono HBW.out.size))
    obtain ⟨wq, hwq⟩ : ∃ wq, wt n p = wq := ⟨_, rfl⟩
    obtain ⟨we, hwe⟩ : ∃ we, wte n = we := ⟨_, rfl⟩
    rw [hwq, hwe] at HWP HE
    clear hwq hwe
    go_region_held3 (fun w' => w'.cell? ⟨w.heap.size, 0, none⟩ = some (.slice (some ⟨bA, oA, none⟩) N c) ∧ w'.cell? ⟨w.heap.size, 1, none⟩ = some (.slice B M k) ∧ w'.cell? ⟨bA, oA + j * 3, none⟩ = some (.int .i64 a) ∧ w'.cell? ⟨bA, oA + j * 3 + 1, none⟩ = some (.int .i64 b) ∧ w'.cell? ⟨bA, oA + j * 3 + 2, none⟩ = some (.slice D m d))
      (with_reducible first | exact HSV.out | exact HS1.out _ B3.out | exact HSX.out _ B3.out _ _)
      (first
        | (go_at_call 29; (with_reducible refine (HWP.out _ HBD.out).mono ?_); rintro e w3 ⟨A', c', B', k', rfl, hN2, hb3⟩; have B3 := Lib.hid (show Below w1.heap.size w1 w3 from (Below.refl _ w1).drew.trans hb3); have BW3 := Lib.hid (HBD.out.trans (hb3.mono HBD.out.size)); obtain ⟨_, z0, z1, g0, g1⟩ := H2.out.facts (HB1.out.trans (B3.out.mono HB1.out.size)); obtain ⟨l1, hl1⟩ : ∃ l1, wq.q.length = l1 := ⟨_, rfl⟩; obtain ⟨l2, hl2⟩ : ∃ l2, wq.ap.length = l2 := ⟨_, rfl⟩; have HF := Lib.hid (fin2 (r := w.heap.size + 1) (by omega) (H2.out.res.below (HB1.out.trans (B3.out.mono HB1.out.size))) BW3.out hN2 hl1 hl2); have HL := Lib.hid (And.intro hl1 hl2); rw [hl1, hl2]; clear hb3 hN2 hl1 hl2)
        | fail)
    all_goals
      go_wp2_with fail
      all_goals
        refine bodyPost_ret (nt_ret2 Try.results25 rfl HF.out.1) rfl ⟨A', c', B', k', ?_, ?_, ?_⟩
        · rw [HE.out.1, HE.out.2, HL.out.1, HL.out.2]; rfl
        · rw [HE.out.1]; exact HF.out.2.1
        · exact HF.out.2.2
  · have HE := Lib.hid (show rp n i = nt0 ∧ rpe n i = hle n i by unfold rp rpe; rw [h1]; exact ⟨rfl, rfl⟩)
    clear h1
    rcases h2 with h2 | h2
    all_goals
      rw [h2] at HH HE
      clear h2
      go_enter Try.func25, Try.ntmps25
      go_wp2_with fail
      generalize World.alloc _ _ = W at *
      have hx := (H2.out.facts (Below.refl _ _)).1.1
      have hx1 := (H2.out.facts (Below.refl _ _)).1.2
      rw [HN.out.1] at hx
      rw [HN.out.2] at hx1
      go_wp2_with fail
      refine (HH.out _ H2.out.below).mono ?_
      rintro e w1 ⟨rfl, hb1⟩
      clear hx hx1
      obtain ⟨_, z0, z1, f0, f1⟩ := H2.out.facts hb1
      have HF := Lib.hid (H2.out.fin hb1 (NtIn.zero w1) (l1 := 0) (l2 := 0) rfl rfl)
      clear hb1
      go_wp2_with fail
      refine bodyPost_ret (nt_ret2 Try.results25 rfl HF.out.1) rfl ⟨none, 0, none, 0, ?_, ?_, ?_⟩
      · rw [HE.out.1, HE.out.2]; rfl
      · rw [HE.out.1]; exact HF.out.2.1
      · exact HF.out.2.2
end Go.Proofs.Ytojijebmipgeeaa
