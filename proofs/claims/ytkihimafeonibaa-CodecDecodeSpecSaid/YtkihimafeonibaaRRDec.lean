/- The reference's Decode. -/
import Derived.Test.YtkihimafeonibaaRRAny
import Derived.Test.YtkihimafeonibaaLawEnc
import Derived.Test.YtkihimafeonibaaPlain2
import Derived.BigQuiet
import Derived.Deep.RegionHeld3
namespace Go.Proofs.Ytkihimafeonibaa
open Go.RowKit
set_option linter.unusedVariables false

/-- The reader that Decode makes. -/
theorem rr_new {A : Option Addr} {c : Nat} {L : List UInt8} {w : World} (hB : Bs w.heap.size w A L) (h1 : L.length ≤ c) (h2 : c ≤ maxLen) :
    RR (w.heap.size + 1) ((w.alloc (.cells zeroV 24)).alloc (.cells #[.slice A L.length c, .int .i64 0, .bool false] 57)) A c L 0 false := by
  have q2 := Box.new (w.alloc (.cells zeroV 24)) #[.slice A L.length c, .int .i64 0, .bool false] 57
  simp only [World.size_alloc] at q2
  have hb0 := ((Below.refl w.heap.size w).alloc (Nat.le_refl _) (.cells zeroV 24)).alloc (by simp) (.cells #[.slice A L.length c, .int .i64 0, .bool false] 57)
  refine ⟨q2, fun hp => ?_, Nat.zero_le _, h1, h2⟩
  obtain ⟨b, off, rfl, hlt, hc⟩ := hB hp
  exact ⟨b, off, rfl, by omega, fun j u hu => (hb0.cell (p := ⟨b, off + j, none⟩) hlt).trans (hc j u hu)⟩

set_option maxHeartbeats 1000000 in
set_option maxRecDepth 100000 in
theorem rdec_bad (L : List UInt8) (A : Option Addr) (c : Nat) (w : World) (hB : Bs w.heap.size w A L) (h1 : L.length ≤ c) (h2 : c ≤ maxLen) (hL : L.length ≤ 1000000) (hp : ∀ t, pval 16 L ≠ some (t, [])) :
    Calls Try.prog 19 #[.slice A L.length c] w (DPost w none) := by
  have hb0 := ((Below.refl w.heap.size w).alloc (Nat.le_refl _) (.cells zeroV 24)).alloc (by simp) (.cells #[.slice A L.length c, .int .i64 0, .bool false] 57)
  have q0 := (Box.new w zeroV 24).alloc (.cells #[.slice A L.length c, .int .i64 0, .bool false] 57)
  have hv := (rv_any (w.heap.size + 1) A c L hL 16 (Nat.le_refl _) 0 _ (rr_new hB h1 h2)).mono fun _ _ hp => hp.any
  rw [show (16 : Int) - ((16 : Nat) : Int) = 0 by omega, List.drop_zero] at hv
  have HV := Lib.hid hv
  have HP := Lib.hid hp
  unfold maxLen at h2
  clear hv hp hB
  unfold zeroV at *
  go_enter Try.func19, Try.ntmps19
  go_wp2_with fail
  refine HV.out.mono ?_
  rintro e w1 ⟨k1, n1, s1, a1, m1, c1, rfl, hg, ht⟩
  have p0 := q0.grown hg (by omega)
  have hb1 := hb0.trans (below_grown hg (by omega) (by have := hb0.size; omega))
  have hR : ∃ q bd, RR (w.heap.size + 1) w1 A c L q bd ∧ (bd = false → q ≠ L.length) := by
    cases hx : pval 16 L with
    | none =>
      rw [hx] at ht
      obtain ⟨q, hR⟩ := ht
      exact ⟨q, true, hR, fun h => by cases h⟩
    | some x =>
      obtain ⟨t, r⟩ := x
      rw [hx] at ht
      obtain ⟨_, q, hq, hR⟩ := ht
      refine ⟨q, false, hR, fun _ he => HP.out t ?_⟩
      simp only at hq
      rw [hx, hq, he, List.drop_length]
  obtain ⟨q, bd, hR, hne⟩ := hR
  have hb2 := hb1.alloc (o := .cells #[.int .i64 k1, .int .i64 n1, .string s1, .slice a1 m1 c1] 24) hb1.size
  have hR1 : RR (w.heap.size + 1) (w1.alloc (.cells #[.int .i64 k1, .int .i64 n1, .string s1, .slice a1 m1 c1] 24)) A c L q bd := hR.keep fun k hk => ((Below.refl w1.heap.size w1).alloc (Nat.le_refl _) _).block k (by have := hR.lt; omega)
  have p1 := p0.alloc (.cells #[.int .i64 k1, .int .i64 n1, .string s1, .slice a1 m1 c1] 24)
  obtain ⟨d0, d1, d2⟩ := hR1.cells
  clear q0 hg ht hb0 hb1 p0 hR HV HP
  have fin : ∀ n, ((w1.alloc (.cells #[.int .i64 k1, .int .i64 n1, .string s1, .slice a1 m1 c1] 24)).drewN n).cell? ⟨w.heap.size, 0, none⟩ = some (.int .i64 0) := fun n => p1.cell 0
  generalize hw2 : w1.alloc (.cells #[.int .i64 k1, .int .i64 n1, .string s1, .slice a1 m1 c1] 24) = w2 at *
  cases bd with
  | true =>
    clear hne
    go_wp2_with fail
    clear hw2
    go_quiet (fail)
    generalize hwn : w2.drewN _ = wn
    have pn : Box wn w.heap.size _ _ := (show wn.heap[w.heap.size]? = _ by rw [← hwn]; exact p1)
    have hbn : Below w.heap.size w wn := by rw [← hwn]; exact hb2.trans ⟨rfl, rfl, rfl, Nat.le_refl _, fun _ _ => rfl⟩
    clear hwn fin d0 d1 d2 hR1 p1 hb2
    have c20 : wn.cell? ⟨w.heap.size, 0, none⟩ = some (.int .i64 0) := pn.cell 0
    have c21 : wn.cell? ⟨w.heap.size, 1, none⟩ = some (.int .i64 0) := pn.cell 1
    have c22 : wn.cell? ⟨w.heap.size, 2, none⟩ = some (.string ⟨#[]⟩) := pn.cell 2
    have c23 : wn.cell? ⟨w.heap.size, 3, none⟩ = some (.slice none 0 0) := pn.cell 3
    have f2 : ∀ i, wn.frozen? ⟨w.heap.size, i, none⟩ = false := fun i => by simp [World.frozen?, show wn.heap[w.heap.size]? = _ from pn]
    go_wp2_with fail
    have r0 := set4_box pn (.int .i64 0) (.int .i64 0) (.string ⟨#[]⟩) (.slice none 0 0)
    have k0 := r0.cell 0
    have k1 := r0.cell 1
    have k2 := r0.cell 2
    have k3 := r0.cell 3
    simp only [List.getElem?_toArray, List.getElem?_cons_zero, List.getElem?_cons_succ] at k0 k1 k2 k3
    refine bodyPost_ret (v := .tuple #[.agg #[.int .i64 0, .int .i64 0, .string ⟨#[]⟩, .slice none 0 0], .int .i64 10]) ?_ rfl ?_
    · unfold set4 at k0 k1 k2 k3
      simp [results, Try.results19, go_sem, k0, k1, k2, k3]
    · refine ⟨rfl, ?_⟩
      exact (((hbn.setCell (Nat.le_refl _) _).setCell (Nat.le_refl _) _).setCell (Nat.le_refl _) _).setCell (Nat.le_refl _) _
  | false =>
    have hn : ((q : Int) != (L.length : Int)) = true := by have := hne rfl; simp; omega
    clear hne
    go_wp2_with fail
    clear hw2
    go_quiet (fail)
    generalize hwn : w2.drewN _ = wn
    have pn : Box wn w.heap.size _ _ := (show wn.heap[w.heap.size]? = _ by rw [← hwn]; exact p1)
    have hbn : Below w.heap.size w wn := by rw [← hwn]; exact hb2.trans ⟨rfl, rfl, rfl, Nat.le_refl _, fun _ _ => rfl⟩
    clear hwn fin d0 d1 d2 hR1 p1 hb2
    have c20 : wn.cell? ⟨w.heap.size, 0, none⟩ = some (.int .i64 0) := pn.cell 0
    have c21 : wn.cell? ⟨w.heap.size, 1, none⟩ = some (.int .i64 0) := pn.cell 1
    have c22 : wn.cell? ⟨w.heap.size, 2, none⟩ = some (.string ⟨#[]⟩) := pn.cell 2
    have c23 : wn.cell? ⟨w.heap.size, 3, none⟩ = some (.slice none 0 0) := pn.cell 3
    have f2 : ∀ i, wn.frozen? ⟨w.heap.size, i, none⟩ = false := fun i => by simp [World.frozen?, show wn.heap[w.heap.size]? = _ from pn]
    go_wp2_with fail
    have r0 := set4_box pn (.int .i64 0) (.int .i64 0) (.string ⟨#[]⟩) (.slice none 0 0)
    have k0 := r0.cell 0
    have k1 := r0.cell 1
    have k2 := r0.cell 2
    have k3 := r0.cell 3
    simp only [List.getElem?_toArray, List.getElem?_cons_zero, List.getElem?_cons_succ] at k0 k1 k2 k3
    refine bodyPost_ret (v := .tuple #[.agg #[.int .i64 0, .int .i64 0, .string ⟨#[]⟩, .slice none 0 0], .int .i64 10]) ?_ rfl ?_
    · unfold set4 at k0 k1 k2 k3
      simp [results, Try.results19, go_sem, k0, k1, k2, k3]
    · refine ⟨rfl, ?_⟩
      exact (((hbn.setCell (Nat.le_refl _) _).setCell (Nat.le_refl _) _).setCell (Nat.le_refl _) _).setCell (Nat.le_refl _) _

set_option maxHeartbeats 1000000 in
set_option maxRecDepth 100000 in
theorem rdec_good (L : List UInt8) (A : Option Addr) (c : Nat) (w : World) (hB : Bs w.heap.size w A L) (h1 : L.length ≤ c) (h2 : c ≤ maxLen) (hL : L.length ≤ 1000000) (t : T) (hp : pval 16 L = some (t, [])) :
    Calls Try.prog 19 #[.slice A L.length c] w (DPost w (some t)) := by
  obtain ⟨hE, hWf, hDep⟩ := pval_enc 16 L t [] hp
  rw [List.append_nil] at hE
  have hchk := chk_ok hWf hDep
  have hb0 := ((Below.refl w.heap.size w).alloc (Nat.le_refl _) (.cells zeroV 24)).alloc (by simp) (.cells #[.slice A L.length c, .int .i64 0, .bool false] 57)
  have q0 := (Box.new w zeroV 24).alloc (.cells #[.slice A L.length c, .int .i64 0, .bool false] 57)
  have hv := (rv_any (w.heap.size + 1) A c L hL 16 (Nat.le_refl _) 0 _ (rr_new hB h1 h2)).mono fun _ _ hp => hp.any
  rw [show (16 : Int) - ((16 : Nat) : Int) = 0 by omega, List.drop_zero, hp] at hv
  have HV := Lib.hid hv
  have HE := Lib.hid hE
  have HWF := Lib.hid hWf
  have HCHK := Lib.hid hchk
  have HB := Lib.hid hB
  unfold maxLen at h2
  clear hv hp hE hWf hchk hB
  unfold zeroV at *
  go_enter Try.func19, Try.ntmps19
  go_wp2_with fail
  refine HV.out.mono ?_
  rintro e w1 ⟨k1, n1, s1, a1, m1, c1, rfl, hg, ht⟩
  have p0 := q0.grown hg (by omega)
  have hz0 := hb0.size
  have hb1 := hb0.trans (below_grown hg (by omega) (by omega))
  obtain ⟨hrq, q, hq, hR⟩ := ht
  have hqL : q = L.length := by
    have h3 := hR.2.2.1
    simp only at hq
    have := congrArg List.length hq
    rw [List.length_drop] at this
    simp at this
    omega
  subst hqL
  simp only at hrq
  clear hq
  have hb2 := hb1.alloc (o := .cells #[.int .i64 k1, .int .i64 n1, .string s1, .slice a1 m1 c1] 24) hb1.size
  have hba := (Below.refl w1.heap.size w1).alloc (Nat.le_refl _) (.cells #[.int .i64 k1, .int .i64 n1, .string s1, .slice a1 m1 c1] 24)
  have hR1 : RR (w.heap.size + 1) (w1.alloc (.cells #[.int .i64 k1, .int .i64 n1, .string s1, .slice a1 m1 c1] 24)) A c L L.length false := hR.keep fun k hk => hba.block k (by have := hR.lt; omega)
  have p1 := p0.alloc (.cells #[.int .i64 k1, .int .i64 n1, .string s1, .slice a1 m1 c1] 24)
  have pG := Box.new w1 #[.int .i64 k1, .int .i64 n1, .string s1, .slice a1 m1 c1] 24
  have hrq1 := hrq.up hba
  have hGs := hba.size
  have hG0 : w.heap.size < w1.heap.size := p0.lt
  obtain ⟨d0, d1, d2⟩ := hR1.drew.cells
  clear q0 hg hb1 p0 hR HV hba hrq hb0
  go_wp2_with fail
  generalize hw2 : w1.alloc (.cells #[.int .i64 k1, .int .i64 n1, .string s1, .slice a1 m1 c1] 24) = w2 at *
  clear hw2
  generalize hGe : w1.heap.size = G at *
  have hrd : Rd w2.drew.heap.size w2.drew t (.agg #[.int .i64 k1, .int .i64 n1, .string s1, .slice a1 m1 c1]) := hrq1.rd.drew
  have r1 : Box w2.drew _ _ _ := hR1.drew.1
  have p1 : Box w2.drew _ _ _ := p1
  have pG : Box w2.drew _ _ _ := pG
  have hBs : Bs (w.heap.size + 1) w2.drew A L := hR1.drew.2.1
  have hbw := hb2.drew
  have hrq1 := hrq1.up (Below.refl w2.heap.size w2).drew
  have S1 := Lib.hid (fun W (h : Rd W.heap.size W t _) => refCheck_any t (.agg #[.int .i64 k1, .int .i64 n1, .string s1, .slice a1 m1 c1]) W h (by omega))
  have S2 : Hid (∀ W, Rd W.heap.size W t (.agg #[.int .i64 k1, .int .i64 n1, .string s1, .slice a1 m1 c1]) → Calls Try.prog 28 #[.agg #[.int .i64 k1, .int .i64 n1, .string s1, .slice a1 m1 c1]] W fun e w' =>
      ∃ A2 c2, e = .returned (.slice A2 L.length c2) ∧ (convert 27 9 (.slice A2 L.length c2)).run Try.prog w' = .ok (.string ⟨L.toArray⟩) w' ∧ Below W.heap.size W w') := Lib.hid (by
    intro W h
    refine (refEnc_any t HWF.out _ W h (by rw [← HE.out]; omega)).mono ?_
    rintro e w' ⟨A2, c2, he, ho, hb⟩
    rw [← HE.out] at he ho
    exact ⟨A2, c2, he, run_str_own ho, hb⟩)
  rw [HCHK.out] at S1
  have S3 : Hid (∀ W, Below w2.drew.heap.size w2.drew W → (convert 27 9 (.slice A L.length c)).run Try.prog W = .ok (.string ⟨L.toArray⟩) W) := Lib.hid (by
    intro W hb
    refine conv_bs (h := w.heap.size + 1) c (fun hp => ?_)
    obtain ⟨b, off, rfl, hlt, hc⟩ := hBs hp
    have hzz := r1.lt
    exact ⟨b, off, rfl, hlt, fun j u hu => (hb.cell (p := ⟨b, off + j, none⟩) (by show b < _; omega)).trans (hc j u hu)⟩)
  have hbd := Below.refl w2.drew.heap.size w2.drew
  have hzW := hbw.size
  clear hR1 hBs
  generalize L.length = m at *
  have y1 : w2.drew.cell? ⟨w.heap.size + 1, 1, none⟩ = some (.int .i64 m) := r1.cell 1
  have y2 : w2.drew.cell? ⟨w.heap.size + 1, 2, none⟩ = some (.bool false) := r1.cell 2
  have y3 : w2.drew.cell? ⟨G, 0, none⟩ = some (.int .i64 k1) := pG.cell 0
  have y4 : w2.drew.cell? ⟨G, 1, none⟩ = some (.int .i64 n1) := pG.cell 1
  have y5 : w2.drew.cell? ⟨G, 2, none⟩ = some (.string s1) := pG.cell 2
  have y6 : w2.drew.cell? ⟨G, 3, none⟩ = some (.slice a1 m1 c1) := pG.cell 3
  go_region_law
    (first
      | (go_simp; go_at_call 17; (with_reducible refine (S1.out _ hrd).mono ?_); rintro e w3 ⟨rfl, hb3⟩; have p1 := p1.below hb3; have pG := pG.below hb3; have hrd := hrd.up hb3; have hrq1 := hrq1.up hb3; have hbw := hbw.trans (hb3.mono hzW); have hzW := hbw.size; have hbd := hbd.trans (hb3.mono hbd.size); have z3 : w3.cell? ⟨G, 0, none⟩ = some (.int .i64 k1) := pG.cell 0; have z4 : w3.cell? ⟨G, 1, none⟩ = some (.int .i64 n1) := pG.cell 1; have z5 : w3.cell? ⟨G, 2, none⟩ = some (.string s1) := pG.cell 2; have z6 : w3.cell? ⟨G, 3, none⟩ = some (.slice a1 m1 c1) := pG.cell 3; have z7 := S3.out _ hbd)
      | (go_simp; go_at_call 28; (with_reducible refine (S2.out _ hrd).mono ?_); rintro e w4 ⟨A2, c2, rfl, hcv, hb4⟩; have p1 := p1.below hb4; have pG := pG.below hb4; have hrd := hrd.up hb4; have hrq1 := hrq1.up hb4; have hbw := hbw.trans (hb4.mono hzW); have hbd := hbd.trans (hb4.mono hbd.size); have z7 := S3.out _ hbd)
      | fail)
  all_goals
    have g0 : w4.cell? ⟨G, 0, none⟩ = some (.int .i64 k1) := pG.cell 0
    have g1 : w4.cell? ⟨G, 1, none⟩ = some (.int .i64 n1) := pG.cell 1
    have g2 : w4.cell? ⟨G, 2, none⟩ = some (.string s1) := pG.cell 2
    have g3 : w4.cell? ⟨G, 3, none⟩ = some (.slice a1 m1 c1) := pG.cell 3
    have c20 : w4.cell? ⟨w.heap.size, 0, none⟩ = some (.int .i64 0) := p1.cell 0
    have c21 : w4.cell? ⟨w.heap.size, 1, none⟩ = some (.int .i64 0) := p1.cell 1
    have c22 : w4.cell? ⟨w.heap.size, 2, none⟩ = some (.string ⟨#[]⟩) := p1.cell 2
    have c23 : w4.cell? ⟨w.heap.size, 3, none⟩ = some (.slice none 0 0) := p1.cell 3
    have f2 : ∀ i, w4.frozen? ⟨w.heap.size, i, none⟩ = false := fun i => by simp [World.frozen?, show w4.heap[w.heap.size]? = _ from p1]
    have HRQ := Lib.hid hrq1
    clear hrq1 hrd pG S1 S2 S3 hcv z3 z4 z5 z6 z7 y1 y2 y3 y4 y5 y6 d0 d1 d2 hb3 hb4 hbd hzW r1 hz0 hb2 h2
    go_wp2_with fail
    have r0 := set4_box p1 (.int .i64 k1) (.int .i64 n1) (.string s1) (.slice a1 m1 c1)
    have k0 := r0.cell 0
    have k1' := r0.cell 1
    have k2 := r0.cell 2
    have k3 := r0.cell 3
    simp only [List.getElem?_toArray, List.getElem?_cons_zero, List.getElem?_cons_succ] at k0 k1' k2 k3
    refine bodyPost_ret (v := .tuple #[.agg #[.int .i64 k1, .int .i64 n1, .string s1, .slice a1 m1 c1], .int .i64 0]) ?_ rfl ?_
    · unfold set4 at k0 k1' k2 k3
      simp [results, Try.results19, go_sem, k0, k1', k2, k3]
    · refine ⟨_, rfl, ?_, ?_⟩
      · exact HRQ.out.keep fun b hb _ => ⟨by simp at hb; omega, set4_other _ _ _ _ _ _ b (by simp at hb; omega)⟩
      · exact (((hbw.setCell (Nat.le_refl _) _).setCell (Nat.le_refl _) _).setCell (Nat.le_refl _) _).setCell (Nat.le_refl _) _

theorem rdecode_any (L : List UInt8) (A : Option Addr) (c : Nat) (w : World) (hB : Bs w.heap.size w A L) (h1 : L.length ≤ c) (h2 : c ≤ maxLen) (hL : L.length ≤ 1000000) :
    Calls Try.prog 19 #[.slice A L.length c] w (DPost w (decode L)) := by
  unfold decode
  cases hp : pval 16 L with
  | none => exact rdec_bad L A c w hB h1 h2 hL (fun t h => by rw [hp] at h; cases h)
  | some x =>
    obtain ⟨t, r⟩ := x
    simp only
    by_cases hr : r = []
    · subst hr
      rw [if_pos rfl]
      exact rdec_good L A c w hB h1 h2 hL t hp
    · rw [if_neg hr]
      exact rdec_bad L A c w hB h1 h2 hL (fun t' h => by rw [hp] at h; injection h with h; injection h with _ h; exact hr h)
end Go.Proofs.Ytkihimafeonibaa
