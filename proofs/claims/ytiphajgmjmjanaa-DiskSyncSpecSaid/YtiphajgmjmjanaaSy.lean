/- Sync. -/
import Derived.Test.YtiphajgmjmjanaaSd
import Derived.Deep.Cut
namespace Go.Proofs.Ytiphajgmjmjanaa
open Go.RowKit
set_option linter.unusedVariables false

theorem fin4r {w1 : World} {b g cg : Nat} {S : List (List UInt8)} {t : TypeId} {a0 a1 a2 a3 : Value} (v0 v1 v2 v3 : Value) (hr : RR w1 (some ⟨g, 0, none⟩) S cg) (hm : ∀ x ∈ S, x.length = 128) (hb : Box w1 b #[a0, a1, a2, a3] t) (hne : g ≠ b) :
    RR ((((w1.setCell ⟨b, 0, none⟩ v0).setCell ⟨b, 1, none⟩ v1).setCell ⟨b, 2, none⟩ v2).setCell ⟨b, 3, none⟩ v3) (some ⟨g, 0, none⟩) S cg := by
  have h1 := hr.other hm hb (by simp) (fun a off e => by cases e; exact hne) 0 v0
  have h2 := h1.other hm hb.set (by simp) (fun a off e => by cases e; exact hne) 1 v1
  have h3 := h2.other hm hb.set.set (by simp) (fun a off e => by cases e; exact hne) 2 v2
  exact h3.other hm hb.set.set.set (by simp) (fun a off e => by cases e; exact hne) 3 v3

set_option maxHeartbeats 400000 in
set_option maxRecDepth 100000 in
theorem sync_any (d : Dk) (A B : Option Addr) (c k0 : Nat) (w : World) (hS : DkIn w d A c B k0) :
    Calls Try.prog 23 #[dkv d A c B k0] w (DkPost (sy d) (sye d) w) := by
  have h2 := two_new w d A c B k0
  have HR := Lib.hid (isRunning_any d A B c k0 _ (hS.up h2.below))
  have H2 := Lib.hid h2
  have HS := Lib.hid (fun W' (hb : Below w.heap.size w W') => hS.up hb)
  have HP := Lib.hid (fun W' (hb : Below w.heap.size w W') (hv : vld d = true) => perf_any d A B c k0 d.pend.length W' (hS.up hb) hv (Nat.le_refl _))
  have HT := Lib.hid (fun W' (n : Nat) (hb : Below w.heap.size w W') (hv : vld d = true) (hl : d.left = (n : Int)) (hn : n < d.pend.length) => stopped_any d A B c k0 n W' (hS.up hb) hv hl hn)
  unfold PerfPost at HP
  unfold StoPost at HT
  rw [List.take_length] at HP
  unfold DkPost
  unfold dkv dkc at *
  clear hS h2
  cases q1 : rng d
  · have he : sye d = 70 := by unfold sye; rw [q1]; rfl
    have hd : sy d = dk0 := by unfold sy; rw [q1]; rfl
    rw [he, hd]
    rw [q1] at HR
    clear q1 he hd
    go_enter Try.func23, Try.ntmps23
    go_wp2_with fail
    generalize World.alloc _ _ = W at *
    refine HR.out.mono ?_
    rintro e w1 ⟨rfl, hb1⟩
    obtain ⟨_, ⟨⟨r0, r1, r2, r3⟩, g0, g1, g2, g3⟩⟩ := H2.out.facts hb1
    have HB1 := Lib.hid hb1
    clear hb1
    go_wp2_with fail
    have hfin := fin4 (.slice none 0 0) (.slice none 0 0) (.int .i64 0) (.bool false) (H2.out.fin HB1.out).1 (H2.out.fin HB1.out).2
    exact bodyPost_ret (dk_ret2 Try.results23 rfl hfin.1) rfl ⟨none, 0, none, 0, rfl, DkIn.zero _, hfin.2⟩
  · obtain ⟨hv, hs0⟩ := rng_facts q1
    obtain ⟨⟨f1, f2⟩, f3, f4, f5, f6⟩ := vld_facts.1 hv
    have HV := Lib.hid hv
    have hpm := perf_mem d.pend d.secs f5 (fun a ha => (f6 a ha).2)
    have hpl := perf_length d.pend d.secs
    have HM := Lib.hid (And.intro hpm hpl)
    rw [q1] at HR
    by_cases q2 : d.left = -1
    · have hst : stops d = false := by unfold stops; apply decide_eq_false; omega
      have he : sye d = 0 := by unfold sye; rw [q1, hst]; rfl
      have hd : sy d = ⟨perf d.secs d.pend, [], -1, false⟩ := by rw [(sy_ok he).2.2, if_pos q2]
      rw [he, hd]
      simp only [List.length_nil]
      have HH := Lib.hid (And.intro q2 hs0)
      rw [q2, hs0] at H2 HR HP
      rw [q2, hs0]
      clear q1 he hd q2 hst hs0 hv f4 f5 f6 hpm hpl HT
      go_enter Try.func23, Try.ntmps23
      go_wp2_with fail
      generalize World.alloc _ _ = W at *
      refine HR.out.mono ?_
      rintro e w1 ⟨rfl, hb1⟩
      obtain ⟨⟨⟨b0, b1, b2, b3⟩, e0, e1, e2, e3⟩, ⟨⟨r0, r1, r2, r3⟩, g0, g1, g2, g3⟩⟩ := H2.out.facts hb1
      rw [HH.out.1] at b2
      rw [HH.out.2] at b3
      have hbw := H2.out.below.trans (hb1.mono H2.out.below.size)
      have HB1 := Lib.hid (And.intro hb1 hbw)
      clear hb1 hbw r0 r1 r2 r3 g0 g1 g2 g3
      go_wp2_with fail
      refine (HP.out w1 HB1.out.2 HV.out).mono ?_
      rintro e w2 ⟨g, cg, hg, rfl, hO, hb2⟩
      have hb12 := HB1.out.1.trans (hb2.mono HB1.out.1.size)
      obtain ⟨_, ⟨⟨r0, r1, r2, r3⟩, g0, g1, g2, g3⟩⟩ := H2.out.facts hb12
      have HB2 := Lib.hid (And.intro hb12 (And.intro hO.rr hg))
      have hg1 := Nat.le_trans HB1.out.1.size hg
      clear hb12 hb2 hO b0 b1 b2 b3 e0 e1 e2 e3 hg
      go_wp2_with fail
      have hne : g ≠ w.heap.size + 1 := by have := H2.out.size; omega
      have hF := H2.out.fin HB2.out.1
      have hfin := fin4 (.slice (some ⟨g, 0, none⟩) (perf d.secs d.pend).length cg) (.slice none 0 0) (.int .i64 (-1)) (.bool false) hF.1 hF.2
      have hrr := fin4r (.slice (some ⟨g, 0, none⟩) (perf d.secs d.pend).length cg) (.slice none 0 0) (.int .i64 (-1)) (.bool false) HB2.out.2.1 HM.out.1 hF.2 hne
      exact bodyPost_ret (dk_ret2 Try.results23 rfl hfin.1) rfl ⟨some ⟨g, 0, none⟩, cg, none, 0, rfl, ⟨hrr, WW.nil _⟩, hfin.2⟩
    · have q2b : (d.left == -1) = false := by simpa using q2
      obtain ⟨l, hl⟩ : ∃ l : Nat, d.left = (l : Int) := ⟨d.left.toNat, by omega⟩
      have q2c : ((l : Int) == -1) = false := by rw [← hl]; exact q2b
      by_cases q3 : d.pend.length ≤ l
      · have hst : stops d = false := by unfold stops; apply decide_eq_false; omega
        have he : sye d = 0 := by unfold sye; rw [q1, hst]; rfl
        have hd : sy d = ⟨perf d.secs d.pend, [], ((l - d.pend.length : Nat) : Int), false⟩ := by
          rw [(sy_ok he).2.2, if_neg q2, hl]
          congr 1
          omega
        rw [he, hd]
        simp only [List.length_nil]
        have HH := Lib.hid (And.intro hl hs0)
        rw [hl, hs0] at H2 HR HP
        rw [hl, hs0]
        have HSUB := Lib.hid (show ((l - d.pend.length : Nat) : Int) = (l : Int) - (d.pend.length : Int) by omega)
        have q4 : (d.pend.length : Int) ≤ (l : Int) := by omega
        have q5 : l ≤ 65536 := by omega
        clear q1 he hd q2 hst hs0 hv f4 f5 f6 hpm hpl HT q2b hl q3
        go_enter Try.func23, Try.ntmps23
        go_wp2_with fail
        generalize World.alloc _ _ = W at *
        refine HR.out.mono ?_
        rintro e w1 ⟨rfl, hb1⟩
        obtain ⟨⟨⟨b0, b1, b2, b3⟩, e0, e1, e2, e3⟩, ⟨⟨r0, r1, r2, r3⟩, g0, g1, g2, g3⟩⟩ := H2.out.facts hb1
        rw [HH.out.1] at b2
        rw [HH.out.2] at b3
        have hbw := H2.out.below.trans (hb1.mono H2.out.below.size)
        have HB1 := Lib.hid (And.intro hb1 hbw)
        clear hb1 hbw r0 r1 r2 r3 g0 g1 g2 g3
        go_wp2_with fail
        refine (HP.out w1 HB1.out.2 HV.out).mono ?_
        rintro e w2 ⟨g, cg, hg, rfl, hO, hb2⟩
        have hb12 := HB1.out.1.trans (hb2.mono HB1.out.1.size)
        obtain ⟨_, ⟨⟨r0, r1, r2, r3⟩, g0, g1, g2, g3⟩⟩ := H2.out.facts hb12
        have HB2 := Lib.hid (And.intro hb12 (And.intro hO.rr hg))
        have hg1 := Nat.le_trans HB1.out.1.size hg
        clear hb12 hb2 hO b0 b1 b2 b3 e0 e1 e2 e3 hg
        go_upto_region 8 with (fail)
        have hne : g ≠ w.heap.size + 1 := by have := H2.out.size; omega
        have hF := H2.out.fin HB2.out.1
        have hfin := fin4 (.slice (some ⟨g, 0, none⟩) (perf d.secs d.pend).length cg) (.slice none 0 0) (.int .i64 (l : Int)) (.bool false) hF.1 hF.2
        have hrr := fin4r (.slice (some ⟨g, 0, none⟩) (perf d.secs d.pend).length cg) (.slice none 0 0) (.int .i64 (l : Int)) (.bool false) HB2.out.2.1 HM.out.1 hF.2 hne
        clear r0 r1 r2 r3 g0 g1 g2 g3 hF
        generalize World.setCell _ ⟨w.heap.size + 1, 3, none⟩ _ = W3 at *
        have s0 := hfin.1.cell 0
        have s1 := hfin.1.cell 1
        have s2 := hfin.1.cell 2
        have s3 := hfin.1.cell 3
        have z0 := hfin.1.frozen 0
        have z1 := hfin.1.frozen 1
        have z2 := hfin.1.frozen 2
        have z3 := hfin.1.frozen 3
        simp only [List.getElem?_toArray, List.getElem?_cons_zero, List.getElem?_cons_succ] at s0 s1 s2 s3
        have HX := Lib.hid (And.intro hfin (And.intro hrr hne))
        clear hfin hrr hne
        go_upto_region 9 with (fail)
        have hR5 := HX.out.2.1.other HM.out.1 HX.out.1.1 (by simp) (fun a off e => by cases e; exact HX.out.2.2) 2 (.int .i64 ((l : Int) - (d.pend.length : Int)))
        have hB5 := HX.out.1.2.setCell (p := ⟨w.heap.size + 1, 2, none⟩) (Nat.le_succ _) (.int .i64 ((l : Int) - (d.pend.length : Int)))
        have hX5 : Box (W3.setCell ⟨w.heap.size + 1, 2, none⟩ (.int .i64 ((l : Int) - (d.pend.length : Int)))) (w.heap.size + 1) #[.slice (some ⟨g, 0, none⟩) (perf d.secs d.pend).length cg, .slice none 0 0, .int .i64 ((l : Int) - (d.pend.length : Int)), .bool false] 25 := HX.out.1.1.set (i := 2) (v := .int .i64 ((l : Int) - (d.pend.length : Int)))
        have hfin2 := fin4 (.slice (some ⟨g, 0, none⟩) (perf d.secs d.pend).length cg) (.slice none 0 0) (.int .i64 ((l : Int) - (d.pend.length : Int))) (.bool false) hB5 hX5
        have hrr2 := fin4r (.slice (some ⟨g, 0, none⟩) (perf d.secs d.pend).length cg) (.slice none 0 0) (.int .i64 ((l : Int) - (d.pend.length : Int))) (.bool false) hR5 HM.out.1 hX5 HX.out.2.2
        clear s0 s1 s2 s3 z0 z1 z2 z3 hR5 hB5
        generalize W3.setCell ⟨w.heap.size + 1, 2, none⟩ (.int .i64 ((l : Int) - (d.pend.length : Int))) = W4 at hfin2 hrr2 hX5 ⊢
        have s0 := hX5.cell 0
        have s1 := hX5.cell 1
        have s2 := hX5.cell 2
        have s3 := hX5.cell 3
        have z0 := hX5.frozen 0
        have z1 := hX5.frozen 1
        have z2 := hX5.frozen 2
        have z3 := hX5.frozen 3
        simp only [List.getElem?_toArray, List.getElem?_cons_zero, List.getElem?_cons_succ] at s0 s1 s2 s3
        have HX2 := Lib.hid (And.intro hfin2 hrr2)
        clear hfin2 hrr2 hX5
        go_wp2_with fail
        exact bodyPost_ret (dk_ret2 Try.results23 rfl HX2.out.1.1) rfl ⟨some ⟨g, 0, none⟩, cg, none, 0, by rw [HSUB.out]; rfl, ⟨HX2.out.2, WW.nil _⟩, HX2.out.1.2⟩
      · have hst : stops d = true := by unfold stops; apply decide_eq_true; omega
        have he : sye d = 70 := by unfold sye; rw [q1, hst]; rfl
        have hd : sy d = ⟨tsecs d l, [], 0, true⟩ := by
          unfold sy tsecs
          rw [if_neg (by rw [q1]; decide), if_pos hst, hl]
          rfl
        have htm : (∀ x ∈ tsecs d l, x.length = 128) ∧ True := by
          refine ⟨fun x hx => ?_, trivial⟩
          unfold tsecs at hx
          have hpm2 := perf_mem (d.pend.take l) d.secs f5 (fun a ha => (f6 a (List.mem_of_mem_take ha)).2)
          rcases List.mem_or_eq_of_mem_set hx with h | h
          · exact hpm2 x h
          · rw [h]
            have hll : l < d.pend.length := by omega
            have ea : d.pend[l]? = some d.pend[l] := List.getElem?_eq_getElem hll
            have h6 := f6 _ (List.getElem_mem hll)
            have e1 : d.pend.getD l (0, []) = d.pend[l] := by rw [List.getD_eq_getElem?_getD, ea]; rfl
            rw [e1]
            refine torn_length ?_ h6.2
            have hb : d.pend[l].1.toNat < (perf d.secs (d.pend.take l)).length := by rw [perf_length]; omega
            rw [List.getD_eq_getElem?_getD, List.getElem?_eq_getElem hb]
            exact hpm2 _ (List.getElem_mem hb)
        rw [he, hd]
        simp only [List.length_nil]
        have HTT := Lib.hid (fun W' (hb : Below w.heap.size w W') => HT.out W' l hb hv hl (by omega))
        have HH := Lib.hid (And.intro hl hs0)
        have HTM := Lib.hid htm.1
        rw [hl, hs0] at H2 HR HTT
        rw [hl, hs0]
        have q4 : ¬ (d.pend.length : Int) ≤ (l : Int) := by omega
        have q4b : (l : Int) < (d.pend.length : Int) := by omega
        clear q1 he hd q2 hst hs0 hv f4 f5 f6 hpm hpl HT q2b hl q3 HP htm
        go_enter Try.func23, Try.ntmps23
        go_wp2_with fail
        generalize World.alloc _ _ = W at *
        refine HR.out.mono ?_
        rintro e w1 ⟨rfl, hb1⟩
        obtain ⟨⟨⟨b0, b1, b2, b3⟩, e0, e1, e2, e3⟩, ⟨⟨r0, r1, r2, r3⟩, g0, g1, g2, g3⟩⟩ := H2.out.facts hb1
        rw [HH.out.1] at b2
        rw [HH.out.2] at b3
        have hbw := H2.out.below.trans (hb1.mono H2.out.below.size)
        have HB1 := Lib.hid (And.intro hb1 hbw)
        clear hb1 hbw r0 r1 r2 r3 g0 g1 g2 g3
        go_wp2_with fail
        refine (HTT.out w1 HB1.out.2).mono ?_
        rintro e w2 ⟨g, cg, hg, rfl, hO, hb2⟩
        have hb12 := HB1.out.1.trans (hb2.mono HB1.out.1.size)
        obtain ⟨_, ⟨⟨r0, r1, r2, r3⟩, g0, g1, g2, g3⟩⟩ := H2.out.facts hb12
        have HB2 := Lib.hid (And.intro hb12 (And.intro hO hg))
        have hg1 := Nat.le_trans HB1.out.1.size hg
        clear hb12 hb2 hO b0 b1 b2 b3 e0 e1 e2 e3 hg
        go_wp2_with fail
        have hne : g ≠ w.heap.size + 1 := by have := H2.out.size; omega
        have hF := H2.out.fin HB2.out.1
        have hfin := fin4 (.slice (some ⟨g, 0, none⟩) (tsecs d l).length cg) (.slice none 0 0) (.int .i64 0) (.bool true) hF.1 hF.2
        have hrr := fin4r (.slice (some ⟨g, 0, none⟩) (tsecs d l).length cg) (.slice none 0 0) (.int .i64 0) (.bool true) HB2.out.2.1 HTM.out hF.2 hne
        exact bodyPost_ret (dk_ret2 Try.results23 rfl hfin.1) rfl ⟨some ⟨g, 0, none⟩, cg, none, 0, rfl, ⟨hrr, WW.nil _⟩, hfin.2⟩
end Go.Proofs.Ytiphajgmjmjanaa
