/- Deliver. -/
import Derived.Test.YtojijebmipgeeaaSe
namespace Go.Proofs.Ytojijebmipgeeaa
open Go.RowKit
set_option linter.unusedVariables false

/-- Links in a box, and the boxes of a packet and of links behind it. -/
structure Qua (w W : World) (n : Nt) (A : Option Addr) (c : Nat) (B : Option Addr) (k : Nat) : Prop where
  below : Below w.heap.size w W
  box : Box W w.heap.size (ntc n A c B k) 25
  pk : Box W (w.heap.size + 1) #[.int .i64 0, .int .i64 0, .slice none 0 0] 28
  res : Box W (w.heap.size + 1 + 1) #[.slice none 0 0, .slice none 0 0] 25
theorem qua_new (w : World) (n : Nt) (A : Option Addr) (c : Nat) (B : Option Addr) (k : Nat) :
    Qua w (((w.alloc (.cells (ntc n A c B k) 25)).alloc (.cells #[.int .i64 0, .int .i64 0, .slice none 0 0] 28)).alloc (.cells #[.slice none 0 0, .slice none 0 0] 25)) n A c B k := by
  refine ⟨alloc3 w _ _ _, Box.alloc (Box.alloc (Box.new w _ _) _) _, ?_, ?_⟩
  · have := Box.alloc (Box.new (w.alloc (.cells (ntc n A c B k) 25)) #[.int .i64 0, .int .i64 0, .slice none 0 0] 28) (.cells #[.slice none 0 0, .slice none 0 0] 25)
    rw [World.size_alloc] at this
    exact this
  · have := Box.new ((w.alloc (.cells (ntc n A c B k) 25)).alloc (.cells #[.int .i64 0, .int .i64 0, .slice none 0 0] 28)) #[.slice none 0 0, .slice none 0 0] 25
    rw [World.size_alloc, World.size_alloc] at this
    exact this
theorem cells2 {w : World} {b : Nat} {t : TypeId} {v0 v1 : Value} (h : Box w b #[v0, v1] t) : w.cell? ⟨b, 0, none⟩ = some v0 ∧ w.cell? ⟨b, 1, none⟩ = some v1 ∧ w.frozen? ⟨b, 0, none⟩ = false ∧ w.frozen? ⟨b, 1, none⟩ = false := ⟨h.cell 0, h.cell 1, h.frozen 0, h.frozen 1⟩
theorem cells3 {w : World} {b : Nat} {t : TypeId} {v0 v1 v2 : Value} (h : Box w b #[v0, v1, v2] t) : w.cell? ⟨b, 0, none⟩ = some v0 ∧ w.cell? ⟨b, 1, none⟩ = some v1 ∧ w.cell? ⟨b, 2, none⟩ = some v2 ∧ w.frozen? ⟨b, 0, none⟩ = false ∧ w.frozen? ⟨b, 1, none⟩ = false ∧ w.frozen? ⟨b, 2, none⟩ = false := ⟨h.cell 0, h.cell 1, h.cell 2, h.frozen 0, h.frozen 1, h.frozen 2⟩
theorem box3 {w : World} {g : Nat} {t : TypeId} {a0 a1 a2 : Value} (v0 v1 v2 : Value) (h : Box w g #[a0, a1, a2] t) : Box (((w.setCell ⟨g, 0, none⟩ v0).setCell ⟨g, 1, none⟩ v1).setCell ⟨g, 2, none⟩ v2) g #[v0, v1, v2] t :=
  ((h.set (i := 0) (v := v0)).set (i := 1) (v := v1)).set (i := 2) (v := v2)
theorem other3 {w : World} {g b : Nat} {t : TypeId} {cs : Array Value} (v0 v1 v2 : Value) (h : Box w g cs t) (hne : g ≠ b) : Box (((w.setCell ⟨b, 0, none⟩ v0).setCell ⟨b, 1, none⟩ v1).setCell ⟨b, 2, none⟩ v2) g cs t := box_other (box_other (box_other h hne) hne) hne
theorem below3 {B : Nat} {w w' : World} {b : Nat} (v0 v1 v2 : Value) (h : Below B w w') (hb : B ≤ b) : Below B w (((w'.setCell ⟨b, 0, none⟩ v0).setCell ⟨b, 1, none⟩ v1).setCell ⟨b, 2, none⟩ v2) := ((h.setCell (p := ⟨b, 0, none⟩) hb _).setCell (p := ⟨b, 1, none⟩) hb _).setCell (p := ⟨b, 2, none⟩) hb _
theorem same3 {w : World} {b : Nat} {t : TypeId} {v0 v1 v2 : Value} (h : Box w b #[v0, v1, v2] t) : ((w.setCell ⟨b, 0, none⟩ v0).setCell ⟨b, 1, none⟩ v1).setCell ⟨b, 2, none⟩ v2 = w := by
  have h0 : w.setCell ⟨b, 0, none⟩ v0 = w := set_same (i := 0) h rfl
  have h1 : w.setCell ⟨b, 1, none⟩ v1 = w := set_same (i := 1) h rfl
  have h2 : w.setCell ⟨b, 2, none⟩ v2 = w := set_same (i := 2) h rfl
  rw [h0, h1, h2]

set_option maxHeartbeats 4000000 in
set_option maxRecDepth 100000 in
theorem deliver_any (n : Nt) (A B : Option Addr) (c k : Nat) (i : Int) (w : World) (hS : NtIn w n A c B k) :
    Calls Try.prog 20 #[ntv n A c B k, .int .i64 i] w (DlPost (dlp n i) (los n i) (hle n i) w) := by
  have h2 := qua_new w n A c B k
  have HH := Lib.hid (fun W (hb : Below w.heap.size w W) => holds_any n A B c k i W (hS.up hb))
  have HIC := Lib.hid (fun W (hb : Below w.heap.size w W) (p : Pk) D d => isCut_any n A B D c k d p W (hS.up hb))
  have HWO := Lib.hid (fun W (hb : Below w.heap.size w W) (j : Nat) (h1 : j < n.q.length) (h2 : n.q.length ≤ 4096) => without_any n A B c k j W (hS.up hb) h1 h2)
  have H2 := Lib.hid h2
  have HSI := Lib.hid hS
  unfold DlPost IntPost NtOnly BoolPost at *
  unfold ntv ntc pkv pkc at *
  clear h2 hS
  obtain ⟨N, hN⟩ : ∃ N, n.q.length = N := ⟨_, rfl⟩
  obtain ⟨M, hM⟩ : ∃ M, n.ap.length = M := ⟨_, rfl⟩
  have HN := Lib.hid (And.intro hN hM)
  have HBX := Lib.hid (fun V (hb : Below w.heap.size w V) (h : Box V w.heap.size (ntc n A c B k) 25) => show Box V w.heap.size #[.slice A N c, .slice B M k] 25 by
    unfold ntc at h
    rw [hN, hM] at h
    exact h)
  rw [hN] at HH HWO HIC H2 ⊢
  rw [hM] at HH HWO HIC H2 ⊢
  clear hN hM
  have hw2 : w.heap.size ≤ w.heap.size + 1 := by omega
  have hw3 : w.heap.size ≤ w.heap.size + 1 + 1 := by omega
  rcases hle_cases n i with ⟨h1, h2⟩ | ⟨h1, h2⟩
  · have hin : 0 ≤ i ∧ i < (N : Int) ∧ N ≤ 4096 := by
      unfold can inq vld at h1
      simp only [Bool.and_eq_true, decide_eq_true_eq] at h1
      have := HN.out.1
      omega
    obtain ⟨j, rfl⟩ : ∃ j : Nat, i = (j : Int) := ⟨i.toNat, by omega⟩
    have hjN : j < N := by omega
    have hjl : j < n.q.length := by have := HN.out.1; omega
    have HE := Lib.hid (show los n (j : Int) = wo n j ∧ dlp n (j : Int) = (if cutd n (ati n (j : Int)) then pk0 else ati n (j : Int)) by unfold los dlp; rw [h1]; exact ⟨rfl, rfl⟩)
    have hat : n.q[j]? = some (ati n (j : Int)) := by
      unfold ati
      rw [Int.toNat_natCast, List.getD_eq_getElem?_getD, List.getElem?_eq_getElem hjl]
      rfl
    have HAT := Lib.hid hat
    have hN4 := hin.2.2
    rw [h2] at HH ⊢
    clear h1 h2 hin hat hjl
    obtain ⟨bA, oA, D, d, rfl, hbA, q0, q1, q2, q3⟩ := HSI.out.1.at_ HAT.out
    obtain ⟨p, hp⟩ : ∃ p, ati n (j : Int) = p := ⟨_, rfl⟩
    rw [hp] at q0 q1 q2 q3 HE
    clear hp
    have HICP := Lib.hid (fun W (hb : Below w.heap.size w W) => HIC.out W hb p D d)
    have HQ3 := Lib.hid q3
    obtain ⟨m, hm⟩ : ∃ m, p.da.length = m := ⟨_, rfl⟩
    obtain ⟨a, ha⟩ : ∃ a, p.fr = a := ⟨_, rfl⟩
    obtain ⟨b, hb⟩ : ∃ b, p.to = b := ⟨_, rfl⟩
    rw [hm, ha, hb] at HICP
    rw [hm] at q2
    rw [ha] at q0
    rw [hb] at q1
    have HP := Lib.hid (And.intro hm (And.intro ha hb))
    clear hm ha hb q3
    have HQ0 := Lib.hid (And.intro q0 (And.intro q1 q2))
    clear q0 q1 q2
    go_enter Try.func20, Try.ntmps20
    go_wp2_with fail
    generalize World.alloc _ _ = W at *
    obtain ⟨x0, x1, _, _⟩ := cells2 (HBX.out W H2.out.below H2.out.box)
    go_wp2_with fail
    refine (HH.out _ H2.out.below).mono ?_
    rintro e w1 ⟨rfl, hb1⟩
    clear x0 x1
    have HB1 := Lib.hid hb1
    have HBW := Lib.hid (H2.out.below.trans (hb1.mono H2.out.below.size))
    obtain ⟨x0, x1, _, _⟩ := cells2 (HBX.out w1 HBW.out (H2.out.box.below hb1))
    obtain ⟨y0, y1, y2, g0, g1, g2⟩ := cells3 (H2.out.pk.below hb1)
    have q0 := (HBW.out.cell (p := ⟨bA, oA + j * 3, none⟩) hbA).trans HQ0.out.1
    have q1 := (HBW.out.cell (p := ⟨bA, oA + j * 3 + 1, none⟩) hbA).trans HQ0.out.2.1
    have q2 := (HBW.out.cell (p := ⟨bA, oA + j * 3 + 2, none⟩) hbA).trans HQ0.out.2.2
    have HV := Lib.hid (And.intro (below3 (.int .i64 a) (.int .i64 b) (.slice D m d) HBW.out hw2) (And.intro (other3 (.int .i64 a) (.int .i64 b) (.slice D m d) (b := w.heap.size + 1) (HBX.out w1 HBW.out (H2.out.box.below hb1)) (by omega)) (And.intro (box3 (.int .i64 a) (.int .i64 b) (.slice D m d) (H2.out.pk.below hb1)) (other3 (.int .i64 a) (.int .i64 b) (.slice D m d) (b := w.heap.size + 1) (H2.out.res.below hb1) (by omega)))))
    clear hb1
    go_upto_region 5 with fail
    clear x0 x1 y0 y1 y2 g0 g1 g2 q0 q1 q2
    generalize World.setCell (World.setCell (World.setCell w1 _ _) _ _) _ _ = V at *
    obtain ⟨x0, x1, _, _⟩ := cells2 HV.out.2.1
    obtain ⟨y0, y1, y2, g0, g1, g2⟩ := cells3 HV.out.2.2.1
    go_wp2_with fail
    refine (HICP.out _ HV.out.1).mono ?_
    rintro e w2 ⟨rfl, hb2⟩
    clear x0 x1 y0 y1 y2 g0 g1 g2
    cases hcut : cutd n p <;> rw [hcut] at HE <;> clear hcut
    · have HE2 := Lib.hid (show dlp n (j : Int) = p from HE.out.2)
      have HV3 := Lib.hid (And.intro (HV.out.1.trans (hb2.mono HV.out.1.size)) (And.intro (HV.out.2.1.below hb2) (And.intro (HV.out.2.2.1.below hb2) (HV.out.2.2.2.below hb2))))
      have HSL := Lib.hid (HQ3.out.up HV3.out.1)
      clear hb2
      go_upto_region 7 with fail

      obtain ⟨x0, x1, _, _⟩ := cells2 HV3.out.2.1
      have HS1 := Lib.hid (fun V (hb : Below w2.heap.size w2 V) => show V.cell? ⟨w.heap.size, 0, none⟩ = some (.slice (some ⟨bA, oA, none⟩) N c) ∧ V.cell? ⟨w.heap.size, 1, none⟩ = some (.slice B M k) ∧ V.cell? ⟨w.heap.size + 1, 0, none⟩ = some (.int .i64 a) ∧ V.cell? ⟨w.heap.size + 1, 1, none⟩ = some (.int .i64 b) ∧ V.cell? ⟨w.heap.size + 1, 2, none⟩ = some (.slice D m d) from
        ⟨(HV3.out.2.1.below hb).cell 0, (HV3.out.2.1.below hb).cell 1, (HV3.out.2.2.1.below hb).cell 0, (HV3.out.2.2.1.below hb).cell 1, (HV3.out.2.2.1.below hb).cell 2⟩)
      have HSV := Lib.hid (HS1.out w2.drew (Below.refl _ w2).drew)
      have HS4 := Lib.hid (fun V (hb : Below w2.heap.size w2 V) => show (((V.setCell ⟨w.heap.size + 1, 0, none⟩ (.int .i64 a)).setCell ⟨w.heap.size + 1, 1, none⟩ (.int .i64 b)).setCell ⟨w.heap.size + 1, 2, none⟩ (.slice D m d)).cell? ⟨w.heap.size, 0, none⟩ = some (.slice (some ⟨bA, oA, none⟩) N c) ∧ (((V.setCell ⟨w.heap.size + 1, 0, none⟩ (.int .i64 a)).setCell ⟨w.heap.size + 1, 1, none⟩ (.int .i64 b)).setCell ⟨w.heap.size + 1, 2, none⟩ (.slice D m d)).cell? ⟨w.heap.size, 1, none⟩ = some (.slice B M k) ∧ (((V.setCell ⟨w.heap.size + 1, 0, none⟩ (.int .i64 a)).setCell ⟨w.heap.size + 1, 1, none⟩ (.int .i64 b)).setCell ⟨w.heap.size + 1, 2, none⟩ (.slice D m d)).cell? ⟨w.heap.size + 1, 0, none⟩ = some (.int .i64 a) ∧ (((V.setCell ⟨w.heap.size + 1, 0, none⟩ (.int .i64 a)).setCell ⟨w.heap.size + 1, 1, none⟩ (.int .i64 b)).setCell ⟨w.heap.size + 1, 2, none⟩ (.slice D m d)).cell? ⟨w.heap.size + 1, 1, none⟩ = some (.int .i64 b) ∧ (((V.setCell ⟨w.heap.size + 1, 0, none⟩ (.int .i64 a)).setCell ⟨w.heap.size + 1, 1, none⟩ (.int .i64 b)).setCell ⟨w.heap.size + 1, 2, none⟩ (.slice D m d)).cell? ⟨w.heap.size + 1, 2, none⟩ = some (.slice D m d) from by
        rw [same3 (HV3.out.2.2.1.below hb)]
        exact HS1.out V hb)
      have HS5 := Lib.hid (fun V (hb : Below w2.heap.size w2 V) u0 u1 => show (((((V.setCell ⟨w.heap.size + 1, 0, none⟩ (.int .i64 a)).setCell ⟨w.heap.size + 1, 1, none⟩ (.int .i64 b)).setCell ⟨w.heap.size + 1, 2, none⟩ (.slice D m d)).setCell ⟨w.heap.size + 1 + 1, 0, none⟩ u0).setCell ⟨w.heap.size + 1 + 1, 1, none⟩ u1).cell? ⟨w.heap.size, 0, none⟩ = some (.slice (some ⟨bA, oA, none⟩) N c) ∧ (((((V.setCell ⟨w.heap.size + 1, 0, none⟩ (.int .i64 a)).setCell ⟨w.heap.size + 1, 1, none⟩ (.int .i64 b)).setCell ⟨w.heap.size + 1, 2, none⟩ (.slice D m d)).setCell ⟨w.heap.size + 1 + 1, 0, none⟩ u0).setCell ⟨w.heap.size + 1 + 1, 1, none⟩ u1).cell? ⟨w.heap.size, 1, none⟩ = some (.slice B M k) ∧ (((((V.setCell ⟨w.heap.size + 1, 0, none⟩ (.int .i64 a)).setCell ⟨w.heap.size + 1, 1, none⟩ (.int .i64 b)).setCell ⟨w.heap.size + 1, 2, none⟩ (.slice D m d)).setCell ⟨w.heap.size + 1 + 1, 0, none⟩ u0).setCell ⟨w.heap.size + 1 + 1, 1, none⟩ u1).cell? ⟨w.heap.size + 1, 0, none⟩ = some (.int .i64 a) ∧ (((((V.setCell ⟨w.heap.size + 1, 0, none⟩ (.int .i64 a)).setCell ⟨w.heap.size + 1, 1, none⟩ (.int .i64 b)).setCell ⟨w.heap.size + 1, 2, none⟩ (.slice D m d)).setCell ⟨w.heap.size + 1 + 1, 0, none⟩ u0).setCell ⟨w.heap.size + 1 + 1, 1, none⟩ u1).cell? ⟨w.heap.size + 1, 1, none⟩ = some (.int .i64 b) ∧ (((((V.setCell ⟨w.heap.size + 1, 0, none⟩ (.int .i64 a)).setCell ⟨w.heap.size + 1, 1, none⟩ (.int .i64 b)).setCell ⟨w.heap.size + 1, 2, none⟩ (.slice D m d)).setCell ⟨w.heap.size + 1 + 1, 0, none⟩ u0).setCell ⟨w.heap.size + 1 + 1, 1, none⟩ u1).cell? ⟨w.heap.size + 1, 2, none⟩ = some (.slice D m d) from by
        rw [same3 (HV3.out.2.2.1.below hb)]
        have hx := box_other (b := w.heap.size + 1 + 1) (i := 1) (v := u1) (box_other (b := w.heap.size + 1 + 1) (i := 0) (v := u0) (HV3.out.2.1.below hb) (by omega)) (by omega)
        have hy := box_other (b := w.heap.size + 1 + 1) (i := 1) (v := u1) (box_other (b := w.heap.size + 1 + 1) (i := 0) (v := u0) (HV3.out.2.2.1.below hb) (by omega)) (by omega)
        exact ⟨hx.cell 0, hx.cell 1, hy.cell 0, hy.cell 1, hy.cell 2⟩)
      have HBD := Lib.hid (HV3.out.1.trans ((Below.refl _ w2).drew.mono HV3.out.1.size))
      obtain ⟨wq, hwq⟩ : ∃ wq, wo n j = wq := ⟨_, rfl⟩
      have HWOJ := Lib.hid (fun W hb => HWO.out W hb j (by omega) (by omega))
      rw [hwq] at HWOJ HE
      clear hwq x0 x1
      go_region_held3 (fun w' => w'.cell? ⟨w.heap.size, 0, none⟩ = some (.slice (some ⟨bA, oA, none⟩) N c) ∧ w'.cell? ⟨w.heap.size, 1, none⟩ = some (.slice B M k) ∧ w'.cell? ⟨w.heap.size + 1, 0, none⟩ = some (.int .i64 a) ∧ w'.cell? ⟨w.heap.size + 1, 1, none⟩ = some (.int .i64 b) ∧ w'.cell? ⟨w.heap.size + 1, 2, none⟩ = some (.slice D m d))
        (with_reducible first | exact HSV.out | exact HS1.out _ B3.out | exact HS4.out _ B3.out | exact HS5.out _ B3.out _ _)
        (first
          | (go_at_call 43; (with_reducible refine (HWOJ.out _ HBD.out).mono ?_); rintro e w3 ⟨A', c', B', k', rfl, hN2, hb3⟩; have B3 := Lib.hid (show Below w2.heap.size w2 w3 from (Below.refl _ w2).drew.trans hb3); have BW3 := Lib.hid (HBD.out.trans (hb3.mono HBD.out.size)); obtain ⟨_, _, _, g0, g1, g2⟩ := cells3 (HV3.out.2.2.1.below B3.out); obtain ⟨z0, z1, e0, e1⟩ := cells2 (other3 (.int .i64 a) (.int .i64 b) (.slice D m d) (b := w.heap.size + 1) (HV3.out.2.2.2.below B3.out) (by omega)); obtain ⟨l1, hl1⟩ : ∃ l1, wq.q.length = l1 := ⟨_, rfl⟩; obtain ⟨l2, hl2⟩ : ∃ l2, wq.ap.length = l2 := ⟨_, rfl⟩; have HF := Lib.hid (And.intro (same3 (HV3.out.2.2.1.below B3.out)) (And.intro (fin2 (r := w.heap.size + 1 + 1) (by omega) (HV3.out.2.2.2.below B3.out) BW3.out hN2 hl1 hl2) (And.intro (box_other (b := w.heap.size + 1 + 1) (i := 1) (v := .slice B' l2 k') (box_other (b := w.heap.size + 1 + 1) (i := 0) (v := .slice A' l1 c') (HV3.out.2.2.1.below B3.out) (by omega)) (by omega)) (((HSL.out.up B3.out).off (HV3.out.2.2.2.below B3.out) (onlyS2 _ _ _ _ _ _) 0 (.slice A' l1 c')).off ((HV3.out.2.2.2.below B3.out).set (i := 0) (v := .slice A' l1 c')) (OnlyS.set (onlyS2 _ _ _ _ _ _) 0 _ _ _) 1 (.slice B' l2 k'))))); have HL := Lib.hid (And.intro hl1 hl2); rw [hl1, hl2]; clear hb3 hN2 hl1 hl2)
          | fail)
      go_wp2_with fail
      rw [HF.out.1]
      refine bodyPost_ret (nt_ret3 Try.results20 rfl HF.out.2.2.1 rfl HF.out.2.1.1) rfl ⟨D, d, A', c', B', k', ?_, ?_, ?_, ?_⟩
      · rw [HE.out.1, HE2.out, HL.out.1, HL.out.2]
        rw [HP.out.1, HP.out.2.1, HP.out.2.2]; rfl
      · rw [HE2.out]; exact HF.out.2.2.2
      · rw [HE.out.1]; exact HF.out.2.1.2.1
      · exact HF.out.2.1.2.2
    · have HE2 := Lib.hid (show dlp n (j : Int) = pk0 from HE.out.2)
      have hbv := HV.out.1.trans (hb2.mono HV.out.1.size)
      have HV3 := Lib.hid (And.intro (below3 (.int .i64 0) (.int .i64 0) (.slice none 0 0) hbv hw2) (And.intro (other3 (.int .i64 0) (.int .i64 0) (.slice none 0 0) (b := w.heap.size + 1) (HV.out.2.1.below hb2) (by omega)) (And.intro (box3 (.int .i64 0) (.int .i64 0) (.slice none 0 0) (HV.out.2.2.1.below hb2)) (other3 (.int .i64 0) (.int .i64 0) (.slice none 0 0) (b := w.heap.size + 1) (HV.out.2.2.2.below hb2) (by omega)))))
      obtain ⟨y0, y1, y2, g0, g1, g2⟩ := cells3 (HV.out.2.2.1.below hb2)
      clear hb2 hbv
      go_upto_region 7 with fail
      clear y0 y1 y2 g0 g1 g2
      generalize World.setCell (World.setCell (World.setCell w2 _ _) _ _) _ _ = V3 at *

      obtain ⟨x0, x1, _, _⟩ := cells2 HV3.out.2.1
      have HS1 := Lib.hid (fun V (hb : Below V3.heap.size V3 V) => show V.cell? ⟨w.heap.size, 0, none⟩ = some (.slice (some ⟨bA, oA, none⟩) N c) ∧ V.cell? ⟨w.heap.size, 1, none⟩ = some (.slice B M k) ∧ V.cell? ⟨w.heap.size + 1, 0, none⟩ = some (.int .i64 0) ∧ V.cell? ⟨w.heap.size + 1, 1, none⟩ = some (.int .i64 0) ∧ V.cell? ⟨w.heap.size + 1, 2, none⟩ = some (.slice none 0 0) from
        ⟨(HV3.out.2.1.below hb).cell 0, (HV3.out.2.1.below hb).cell 1, (HV3.out.2.2.1.below hb).cell 0, (HV3.out.2.2.1.below hb).cell 1, (HV3.out.2.2.1.below hb).cell 2⟩)
      have HSV := Lib.hid (HS1.out V3.drew (Below.refl _ V3).drew)
      have HS4 := Lib.hid (fun V (hb : Below V3.heap.size V3 V) => show (((V.setCell ⟨w.heap.size + 1, 0, none⟩ (.int .i64 0)).setCell ⟨w.heap.size + 1, 1, none⟩ (.int .i64 0)).setCell ⟨w.heap.size + 1, 2, none⟩ (.slice none 0 0)).cell? ⟨w.heap.size, 0, none⟩ = some (.slice (some ⟨bA, oA, none⟩) N c) ∧ (((V.setCell ⟨w.heap.size + 1, 0, none⟩ (.int .i64 0)).setCell ⟨w.heap.size + 1, 1, none⟩ (.int .i64 0)).setCell ⟨w.heap.size + 1, 2, none⟩ (.slice none 0 0)).cell? ⟨w.heap.size, 1, none⟩ = some (.slice B M k) ∧ (((V.setCell ⟨w.heap.size + 1, 0, none⟩ (.int .i64 0)).setCell ⟨w.heap.size + 1, 1, none⟩ (.int .i64 0)).setCell ⟨w.heap.size + 1, 2, none⟩ (.slice none 0 0)).cell? ⟨w.heap.size + 1, 0, none⟩ = some (.int .i64 0) ∧ (((V.setCell ⟨w.heap.size + 1, 0, none⟩ (.int .i64 0)).setCell ⟨w.heap.size + 1, 1, none⟩ (.int .i64 0)).setCell ⟨w.heap.size + 1, 2, none⟩ (.slice none 0 0)).cell? ⟨w.heap.size + 1, 1, none⟩ = some (.int .i64 0) ∧ (((V.setCell ⟨w.heap.size + 1, 0, none⟩ (.int .i64 0)).setCell ⟨w.heap.size + 1, 1, none⟩ (.int .i64 0)).setCell ⟨w.heap.size + 1, 2, none⟩ (.slice none 0 0)).cell? ⟨w.heap.size + 1, 2, none⟩ = some (.slice none 0 0) from by
        rw [same3 (HV3.out.2.2.1.below hb)]
        exact HS1.out V hb)
      have HS5 := Lib.hid (fun V (hb : Below V3.heap.size V3 V) u0 u1 => show (((((V.setCell ⟨w.heap.size + 1, 0, none⟩ (.int .i64 0)).setCell ⟨w.heap.size + 1, 1, none⟩ (.int .i64 0)).setCell ⟨w.heap.size + 1, 2, none⟩ (.slice none 0 0)).setCell ⟨w.heap.size + 1 + 1, 0, none⟩ u0).setCell ⟨w.heap.size + 1 + 1, 1, none⟩ u1).cell? ⟨w.heap.size, 0, none⟩ = some (.slice (some ⟨bA, oA, none⟩) N c) ∧ (((((V.setCell ⟨w.heap.size + 1, 0, none⟩ (.int .i64 0)).setCell ⟨w.heap.size + 1, 1, none⟩ (.int .i64 0)).setCell ⟨w.heap.size + 1, 2, none⟩ (.slice none 0 0)).setCell ⟨w.heap.size + 1 + 1, 0, none⟩ u0).setCell ⟨w.heap.size + 1 + 1, 1, none⟩ u1).cell? ⟨w.heap.size, 1, none⟩ = some (.slice B M k) ∧ (((((V.setCell ⟨w.heap.size + 1, 0, none⟩ (.int .i64 0)).setCell ⟨w.heap.size + 1, 1, none⟩ (.int .i64 0)).setCell ⟨w.heap.size + 1, 2, none⟩ (.slice none 0 0)).setCell ⟨w.heap.size + 1 + 1, 0, none⟩ u0).setCell ⟨w.heap.size + 1 + 1, 1, none⟩ u1).cell? ⟨w.heap.size + 1, 0, none⟩ = some (.int .i64 0) ∧ (((((V.setCell ⟨w.heap.size + 1, 0, none⟩ (.int .i64 0)).setCell ⟨w.heap.size + 1, 1, none⟩ (.int .i64 0)).setCell ⟨w.heap.size + 1, 2, none⟩ (.slice none 0 0)).setCell ⟨w.heap.size + 1 + 1, 0, none⟩ u0).setCell ⟨w.heap.size + 1 + 1, 1, none⟩ u1).cell? ⟨w.heap.size + 1, 1, none⟩ = some (.int .i64 0) ∧ (((((V.setCell ⟨w.heap.size + 1, 0, none⟩ (.int .i64 0)).setCell ⟨w.heap.size + 1, 1, none⟩ (.int .i64 0)).setCell ⟨w.heap.size + 1, 2, none⟩ (.slice none 0 0)).setCell ⟨w.heap.size + 1 + 1, 0, none⟩ u0).setCell ⟨w.heap.size + 1 + 1, 1, none⟩ u1).cell? ⟨w.heap.size + 1, 2, none⟩ = some (.slice none 0 0) from by
        rw [same3 (HV3.out.2.2.1.below hb)]
        have hx := box_other (b := w.heap.size + 1 + 1) (i := 1) (v := u1) (box_other (b := w.heap.size + 1 + 1) (i := 0) (v := u0) (HV3.out.2.1.below hb) (by omega)) (by omega)
        have hy := box_other (b := w.heap.size + 1 + 1) (i := 1) (v := u1) (box_other (b := w.heap.size + 1 + 1) (i := 0) (v := u0) (HV3.out.2.2.1.below hb) (by omega)) (by omega)
        exact ⟨hx.cell 0, hx.cell 1, hy.cell 0, hy.cell 1, hy.cell 2⟩)
      have HBD := Lib.hid (HV3.out.1.trans ((Below.refl _ V3).drew.mono HV3.out.1.size))
      obtain ⟨wq, hwq⟩ : ∃ wq, wo n j = wq := ⟨_, rfl⟩
      have HWOJ := Lib.hid (fun W hb => HWO.out W hb j (by omega) (by omega))
      rw [hwq] at HWOJ HE
      clear hwq x0 x1
      go_region_held3 (fun w' => w'.cell? ⟨w.heap.size, 0, none⟩ = some (.slice (some ⟨bA, oA, none⟩) N c) ∧ w'.cell? ⟨w.heap.size, 1, none⟩ = some (.slice B M k) ∧ w'.cell? ⟨w.heap.size + 1, 0, none⟩ = some (.int .i64 0) ∧ w'.cell? ⟨w.heap.size + 1, 1, none⟩ = some (.int .i64 0) ∧ w'.cell? ⟨w.heap.size + 1, 2, none⟩ = some (.slice none 0 0))
        (with_reducible first | exact HSV.out | exact HS1.out _ B3.out | exact HS4.out _ B3.out | exact HS5.out _ B3.out _ _)
        (first
          | (go_at_call 43; (with_reducible refine (HWOJ.out _ HBD.out).mono ?_); rintro e w3 ⟨A', c', B', k', rfl, hN2, hb3⟩; have B3 := Lib.hid (show Below V3.heap.size V3 w3 from (Below.refl _ V3).drew.trans hb3); have BW3 := Lib.hid (HBD.out.trans (hb3.mono HBD.out.size)); obtain ⟨_, _, _, g0, g1, g2⟩ := cells3 (HV3.out.2.2.1.below B3.out); obtain ⟨z0, z1, e0, e1⟩ := cells2 (other3 (.int .i64 0) (.int .i64 0) (.slice none 0 0) (b := w.heap.size + 1) (HV3.out.2.2.2.below B3.out) (by omega)); obtain ⟨l1, hl1⟩ : ∃ l1, wq.q.length = l1 := ⟨_, rfl⟩; obtain ⟨l2, hl2⟩ : ∃ l2, wq.ap.length = l2 := ⟨_, rfl⟩; have HF := Lib.hid (And.intro (same3 (HV3.out.2.2.1.below B3.out)) (And.intro (fin2 (r := w.heap.size + 1 + 1) (by omega) (HV3.out.2.2.2.below B3.out) BW3.out hN2 hl1 hl2) (And.intro (box_other (b := w.heap.size + 1 + 1) (i := 1) (v := .slice B' l2 k') (box_other (b := w.heap.size + 1 + 1) (i := 0) (v := .slice A' l1 c') (HV3.out.2.2.1.below B3.out) (by omega)) (by omega)) (((sl_none w3).off (HV3.out.2.2.2.below B3.out) (onlyS2 _ _ _ _ _ _) 0 (.slice A' l1 c')).off ((HV3.out.2.2.2.below B3.out).set (i := 0) (v := .slice A' l1 c')) (OnlyS.set (onlyS2 _ _ _ _ _ _) 0 _ _ _) 1 (.slice B' l2 k'))))); have HL := Lib.hid (And.intro hl1 hl2); rw [hl1, hl2]; clear hb3 hN2 hl1 hl2)
          | fail)
      go_wp2_with fail
      rw [HF.out.1]
      refine bodyPost_ret (nt_ret3 Try.results20 rfl HF.out.2.2.1 rfl HF.out.2.1.1) rfl ⟨none, 0, A', c', B', k', ?_, ?_, ?_, ?_⟩
      · rw [HE.out.1, HE2.out, HL.out.1, HL.out.2]
        rfl
      · rw [HE2.out]; exact HF.out.2.2.2
      · rw [HE.out.1]; exact HF.out.2.1.2.1
      · exact HF.out.2.1.2.2
  · have HE := Lib.hid (show los n i = nt0 ∧ dlp n i = pk0 by unfold los dlp; rw [h1]; exact ⟨rfl, rfl⟩)
    clear h1
    rcases h2 with h2 | h2
    all_goals
      rw [h2] at HH ⊢
      clear h2
      go_enter Try.func20, Try.ntmps20
      go_wp2_with fail
      generalize World.alloc _ _ = W at *
      obtain ⟨x0, x1, _, _⟩ := cells2 (HBX.out W H2.out.below H2.out.box)
      go_wp2_with fail
      refine (HH.out _ H2.out.below).mono ?_
      rintro e w1 ⟨rfl, hb1⟩
      clear x0 x1
      have HBW := Lib.hid (H2.out.below.trans (hb1.mono H2.out.below.size))
      obtain ⟨y0, y1, y2, g0, g1, g2⟩ := cells3 (H2.out.pk.below hb1)
      obtain ⟨z0, z1, e0, e1⟩ := cells2 (H2.out.res.below hb1)
      have HZ := Lib.hid (And.intro (H2.out.pk.below hb1) (H2.out.res.below hb1))
      clear hb1
      go_wp2_with fail
      have hb4 := below3 (.int .i64 0) (.int .i64 0) (.slice none 0 0) HBW.out hw2
      have HF := Lib.hid (fin2 (r := w.heap.size + 1 + 1) (by omega) (other3 (.int .i64 0) (.int .i64 0) (.slice none 0 0) (b := w.heap.size + 1) HZ.out.2 (by omega)) hb4 (NtIn.zero _) (l1 := 0) (l2 := 0) rfl rfl)
      have HF4 := Lib.hid (box_other (b := w.heap.size + 1 + 1) (i := 1) (v := .slice none 0 0) (box_other (b := w.heap.size + 1 + 1) (i := 0) (v := .slice none 0 0) (box3 (.int .i64 0) (.int .i64 0) (.slice none 0 0) HZ.out.1) (by omega)) (by omega))
      refine bodyPost_ret (nt_ret3 Try.results20 rfl HF4.out rfl HF.out.1) rfl ⟨none, 0, none, 0, none, 0, ?_, ?_, ?_, ?_⟩
      · rw [HE.out.1, HE.out.2]; rfl
      · rw [HE.out.2]; exact sl_none _
      · rw [HE.out.1]; exact HF.out.2.1
      · exact HF.out.2.2
end Go.Proofs.Ytojijebmipgeeaa
