/- PermsGroup, given the examples (sane). -/
import Derived.Test.YtobchecnfkocdaaPi
import Derived.Test.YtobchecnfkocdaaLawSpec
namespace Go.Proofs.Ytobchecnfkocdaa
open Go.RowKit
set_option linter.unusedVariables false
set_option linter.unusedSimpArgs false

/-- Is, of however many numbers. -/
theorem isr_all (A : Option Addr) (c : Nat) (l : List Int) (n : Int) (w : World) (hS : Si w A l c) (hn : n ≤ 100000) :
    Calls Try.prog 24 #[.slice A l.length c, .int .i64 n] w (QB (isr l n) w) := by
  by_cases q2 : (l.length : Int) = n
  · exact isr_any A c l n w hS (by omega)
  · have hl := hS.le
    unfold QB
    have hr : isr l n = false := by unfold isr; rw [decide_eq_false q2]; rfl
    rw [hr]
    have d1 : ((l.length : Int) != n) = true := by rw [bne_iff_ne]; exact q2
    clear hr hS
    generalize l.length = L at *
    go_enter Try.func24, Try.ntmps24
    go_wp2_with fail
    go_ret
    exact ⟨rfl, Below.refl _ _⟩

set_option maxHeartbeats 8000000 in
set_option maxRecDepth 100000 in
theorem lawGroup_any (hsane : SaneAll) (A : Option Addr) (c : Nat) (a : List Int) (B : Option Addr) (d : Nat) (b : List Int) (C : Option Addr) (e0 : Nat) (z : List Int) (w : World) (hA : Si w A a c) (hB : Si w B b d) (hC : Si w C z e0) :
    Calls Try.prog 5 #[.slice A a.length c, .slice B b.length d, .slice C z.length e0] w (QB true w) := by
  have HSN := Lib.hid (hsane w)
  have hl1 := hA.le
  have hl2 := hB.le
  have hl3 := hC.le
  have H1 := Lib.hid (fun V (h : Below w.heap.size w V) (hn : (a.length : Int) ≤ 100000) => isr_all A c a (a.length : Int) V (hA.up h) hn)
  have H2 := Lib.hid (fun V (h : Below w.heap.size w V) (hn : (a.length : Int) ≤ 100000) => isr_all B d b (a.length : Int) V (hB.up h) hn)
  have H3 := Lib.hid (fun V (h : Below w.heap.size w V) (hn : (a.length : Int) ≤ 100000) => isr_all C e0 z (a.length : Int) V (hC.up h) hn)
  have LA := Lib.hid hA
  have LB := Lib.hid hB
  have LC := Lib.hid hC
  unfold QB at HSN H1 H2 H3 ⊢
  clear hA hB hC hsane
  by_cases q1 : 100 < a.length
  · have d1 : decide ((100 : Int) < (a.length : Int)) = true := decide_eq_true (by omega)
    have d2 : (100 : Int) < (a.length : Int) := by omega
    generalize a.length = la at *
    generalize b.length = lb at *
    generalize z.length = lz at *
    go_enter Try.func5, Try.ntmps5
    go_wp2_with fail
    refine HSN.out.mono ?_
    rintro e w1 ⟨rfl, hb⟩
    have HB := Lib.hid hb
    clear hb
    go_wp2_with fail
    go_ret
    exact ⟨rfl, HB.out⟩
  have d1 : decide ((100 : Int) < (a.length : Int)) = false := decide_eq_false (by omega)
  have d2 : ¬ (100 : Int) < (a.length : Int) := by omega
  have hn9 : (a.length : Int) ≤ 100000 := by omega
  cases p1 : isr a (a.length : Int) with
  | false =>
    rw [p1] at H1
    clear p1
    generalize a.length = la at *
    generalize b.length = lb at *
    generalize z.length = lz at *
    go_enter Try.func5, Try.ntmps5
    go_wp2_with fail
    refine HSN.out.mono ?_
    rintro e w1 ⟨rfl, hb⟩
    have HB := Lib.hid hb
    clear hb
    go_wp2_with fail
    refine (H1.out _ HB.out hn9).mono ?_
    rintro e w2 ⟨rfl, hb⟩
    have HB := Lib.hid (HB.out.trans (hb.mono HB.out.size))
    clear hb
    go_wp2_with fail
    go_ret
    exact ⟨rfl, HB.out⟩
  | true =>
  cases p2 : isr b (a.length : Int) with
  | false =>
    rw [p2] at H2
    rw [p1] at H1
    clear p1 p2
    generalize a.length = la at *
    generalize b.length = lb at *
    generalize z.length = lz at *
    go_enter Try.func5, Try.ntmps5
    go_wp2_with fail
    refine HSN.out.mono ?_
    rintro e w1 ⟨rfl, hb⟩
    have HB := Lib.hid hb
    clear hb
    go_wp2_with fail
    refine (H1.out _ HB.out hn9).mono ?_
    rintro e w2 ⟨rfl, hb⟩
    have HB := Lib.hid (HB.out.trans (hb.mono HB.out.size))
    clear hb
    go_wp2_with fail
    refine (H2.out _ HB.out hn9).mono ?_
    rintro e w3 ⟨rfl, hb⟩
    have HB := Lib.hid (HB.out.trans (hb.mono HB.out.size))
    clear hb
    go_wp2_with fail
    go_ret
    exact ⟨rfl, HB.out⟩
  | true =>
  cases p3 : isr z (a.length : Int) with
  | false =>
    rw [p3] at H3
    rw [p1] at H1
    rw [p2] at H2
    clear p1 p2 p3
    generalize a.length = la at *
    generalize b.length = lb at *
    generalize z.length = lz at *
    go_enter Try.func5, Try.ntmps5
    go_wp2_with fail
    refine HSN.out.mono ?_
    rintro e w1 ⟨rfl, hb⟩
    have HB := Lib.hid hb
    clear hb
    go_wp2_with fail
    refine (H1.out _ HB.out hn9).mono ?_
    rintro e w2 ⟨rfl, hb⟩
    have HB := Lib.hid (HB.out.trans (hb.mono HB.out.size))
    clear hb
    go_wp2_with fail
    refine (H2.out _ HB.out hn9).mono ?_
    rintro e w3 ⟨rfl, hb⟩
    have HB := Lib.hid (HB.out.trans (hb.mono HB.out.size))
    clear hb
    go_wp2_with fail
    refine (H3.out _ HB.out hn9).mono ?_
    rintro e w4 ⟨rfl, hb⟩
    have HB := Lib.hid (HB.out.trans (hb.mono HB.out.size))
    clear hb
    go_wp2_with fail
    go_ret
    exact ⟨rfl, HB.out⟩
  | true =>
  rw [p1] at H1
  rw [p2] at H2
  rw [p3] at H3
  obtain ⟨x, rfl, hx⟩ := isr_ints p1
  obtain ⟨y, rfl, hy⟩ := isr_ints p2
  obtain ⟨t, rfl, ht⟩ := isr_ints p3
  obtain ⟨n, hn⟩ : ∃ n, (ints x).length = n := ⟨_, rfl⟩
  rw [hn] at hx hy ht H1 H2 H3 hl1 d1 d2 q1 hn9
  have hyl : (ints y).length = n := by rw [ints_length, hy.1]
  have htl : (ints t).length = n := by rw [ints_length, ht.1]
  rw [hyl] at hl2 H2
  rw [htl] at hl3 H3
  rw [hn, hyl, htl]
  have hn256 : n ≤ 256 := by omega
  have P := Lib.hid (And.intro hx (And.intro hy (And.intro ht hn256)))
  have E1 := Lib.hid (mu_assoc (a := x) hy ht)
  have E2 := Lib.hid (And.intro (vi_mu hx) (mu_vi hx))
  have E3 := Lib.hid (And.intro (mu_id hx) (And.intro (id_mu hx) (vi_mul hx hy)))
  clear p1 p2 p3 hx hy ht hn hyl htl hl1 hl2 hl3
  go_enter Try.func5, Try.ntmps5
  go_wp2_with fail
  refine HSN.out.mono ?_
  rintro e w1 ⟨rfl, hb⟩
  have HB := Lib.hid hb
  clear hb
  go_wp2_with fail
  refine (H1.out _ HB.out hn9).mono ?_
  rintro e w2 ⟨rfl, hb⟩
  have HB := Lib.hid (HB.out.trans (hb.mono HB.out.size))
  clear hb
  go_wp2_with fail
  refine (H2.out _ HB.out hn9).mono ?_
  rintro e w3 ⟨rfl, hb⟩
  have HB := Lib.hid (HB.out.trans (hb.mono HB.out.size))
  clear hb
  go_wp2_with fail
  refine (H3.out _ HB.out hn9).mono ?_
  rintro e w4 ⟨rfl, hb⟩
  have HB := Lib.hid (HB.out.trans (hb.mono HB.out.size))
  clear hb
  have LA := Lib.hid (LA.out.up HB.out)
  have LB := Lib.hid (LB.out.up HB.out)
  have LC := Lib.hid (LC.out.up HB.out)
  go_wp2_with fail
  refine (compose_pm P.out.1 P.out.2.1 P.out.2.2.2 LA.out LB.out).mono ?_
  rintro e w5 ⟨Aab, cab, rfl, hs, hb⟩
  have LA := Lib.hid (LA.out.up hb)
  have LB := Lib.hid (LB.out.up hb)
  have LC := Lib.hid (LC.out.up hb)
  have Lab := Lib.hid hs
  have HB := Lib.hid (HB.out.trans (hb.mono HB.out.size))
  clear hb hs
  go_wp2_with fail
  refine (compose_pm P.out.2.1 P.out.2.2.1 P.out.2.2.2 LB.out LC.out).mono ?_
  rintro e w6 ⟨Abc, cbc, rfl, hs, hb⟩
  have LA := Lib.hid (LA.out.up hb)
  have LB := Lib.hid (LB.out.up hb)
  have LC := Lib.hid (LC.out.up hb)
  have Lab := Lib.hid (Lab.out.up hb)
  have Lbc := Lib.hid hs
  have HB := Lib.hid (HB.out.trans (hb.mono HB.out.size))
  clear hb hs
  go_wp2_with fail
  refine (compose_pm ((P.out.1).mul P.out.2.1) P.out.2.2.1 P.out.2.2.2 Lab.out LC.out).mono ?_
  rintro e w7 ⟨Ax, cx, rfl, hs, hb⟩
  have LA := Lib.hid (LA.out.up hb)
  have LB := Lib.hid (LB.out.up hb)
  have LC := Lib.hid (LC.out.up hb)
  have Lab := Lib.hid (Lab.out.up hb)
  have Lbc := Lib.hid (Lbc.out.up hb)
  have Lx := Lib.hid hs
  have HB := Lib.hid (HB.out.trans (hb.mono HB.out.size))
  clear hb hs
  go_wp2_with fail
  refine (compose_pm P.out.1 ((P.out.2.1).mul P.out.2.2.1) P.out.2.2.2 LA.out Lbc.out).mono ?_
  rintro e w8 ⟨Ay, cy, rfl, hs, hb⟩
  have LA := Lib.hid (LA.out.up hb)
  have LB := Lib.hid (LB.out.up hb)
  have LC := Lib.hid (LC.out.up hb)
  have Lab := Lib.hid (Lab.out.up hb)
  have Lbc := Lib.hid (Lbc.out.up hb)
  have Lx := Lib.hid (Lx.out.up hb)
  have Ly := Lib.hid hs
  have HB := Lib.hid (HB.out.trans (hb.mono HB.out.size))
  clear hb hs
  go_wp2_with fail
  refine (same_pm (((P.out.1).mul ((P.out.2.1).mul P.out.2.2.1))).1 (show Si _ Ax (ints (mu x (mu y t))) cx from by rw [← E1.out]; exact Lx.out) Ly.out).mono ?_
  rintro e w9 ⟨rfl, hb⟩
  have LA := Lib.hid (LA.out.up hb)
  have LB := Lib.hid (LB.out.up hb)
  have LC := Lib.hid (LC.out.up hb)
  have Lab := Lib.hid (Lab.out.up hb)
  have Lbc := Lib.hid (Lbc.out.up hb)
  have Lx := Lib.hid (Lx.out.up hb)
  have Ly := Lib.hid (Ly.out.up hb)
  have HB := Lib.hid (HB.out.trans (hb.mono HB.out.size))
  clear hb
  go_wp2_with fail
  refine (identity_pm n P.out.2.2.2 _).mono ?_
  rintro e w10 ⟨Aid, cid, rfl, hs, hb⟩
  have LA := Lib.hid (LA.out.up hb)
  have LB := Lib.hid (LB.out.up hb)
  have LC := Lib.hid (LC.out.up hb)
  have Lab := Lib.hid (Lab.out.up hb)
  have Lbc := Lib.hid (Lbc.out.up hb)
  have Lx := Lib.hid (Lx.out.up hb)
  have Ly := Lib.hid (Ly.out.up hb)
  have Lid := Lib.hid hs
  have HB := Lib.hid (HB.out.trans (hb.mono HB.out.size))
  clear hb hs
  go_wp2_with fail
  refine (inverse_pm P.out.1 P.out.2.2.2 LA.out).mono ?_
  rintro e w11 ⟨Ap, cp, rfl, hs, hb⟩
  have LA := Lib.hid (LA.out.up hb)
  have LB := Lib.hid (LB.out.up hb)
  have LC := Lib.hid (LC.out.up hb)
  have Lab := Lib.hid (Lab.out.up hb)
  have Lbc := Lib.hid (Lbc.out.up hb)
  have Lx := Lib.hid (Lx.out.up hb)
  have Ly := Lib.hid (Ly.out.up hb)
  have Lid := Lib.hid (Lid.out.up hb)
  have Lp := Lib.hid hs
  have HB := Lib.hid (HB.out.trans (hb.mono HB.out.size))
  clear hb hs
  go_wp2_with fail
  refine (inverse_pm P.out.2.1 P.out.2.2.2 LB.out).mono ?_
  rintro e w12 ⟨Aq, cq, rfl, hs, hb⟩
  have LA := Lib.hid (LA.out.up hb)
  have LB := Lib.hid (LB.out.up hb)
  have LC := Lib.hid (LC.out.up hb)
  have Lab := Lib.hid (Lab.out.up hb)
  have Lbc := Lib.hid (Lbc.out.up hb)
  have Lx := Lib.hid (Lx.out.up hb)
  have Ly := Lib.hid (Ly.out.up hb)
  have Lid := Lib.hid (Lid.out.up hb)
  have Lp := Lib.hid (Lp.out.up hb)
  have Lq := Lib.hid hs
  have HB := Lib.hid (HB.out.trans (hb.mono HB.out.size))
  clear hb hs
  go_wp2_with fail
  refine (compose_pm (P.out.1).vi P.out.1 P.out.2.2.2 Lp.out LA.out).mono ?_
  rintro e w13 ⟨Aleft, cleft, rfl, hs, hb⟩
  have LA := Lib.hid (LA.out.up hb)
  have LB := Lib.hid (LB.out.up hb)
  have LC := Lib.hid (LC.out.up hb)
  have Lab := Lib.hid (Lab.out.up hb)
  have Lbc := Lib.hid (Lbc.out.up hb)
  have Lx := Lib.hid (Lx.out.up hb)
  have Ly := Lib.hid (Ly.out.up hb)
  have Lid := Lib.hid (Lid.out.up hb)
  have Lp := Lib.hid (Lp.out.up hb)
  have Lq := Lib.hid (Lq.out.up hb)
  have Lleft := Lib.hid hs
  have HB := Lib.hid (HB.out.trans (hb.mono HB.out.size))
  clear hb hs
  go_wp2_with fail
  refine (compose_pm P.out.1 (P.out.1).vi P.out.2.2.2 LA.out Lp.out).mono ?_
  rintro e w14 ⟨Aright, cright, rfl, hs, hb⟩
  have LA := Lib.hid (LA.out.up hb)
  have LB := Lib.hid (LB.out.up hb)
  have LC := Lib.hid (LC.out.up hb)
  have Lab := Lib.hid (Lab.out.up hb)
  have Lbc := Lib.hid (Lbc.out.up hb)
  have Lx := Lib.hid (Lx.out.up hb)
  have Ly := Lib.hid (Ly.out.up hb)
  have Lid := Lib.hid (Lid.out.up hb)
  have Lp := Lib.hid (Lp.out.up hb)
  have Lq := Lib.hid (Lq.out.up hb)
  have Lleft := Lib.hid (Lleft.out.up hb)
  have Lright := Lib.hid hs
  have HB := Lib.hid (HB.out.trans (hb.mono HB.out.size))
  clear hb hs
  go_wp2_with fail
  refine (same_pm List.length_range (show Si _ Aleft (ints (List.range n)) cleft from by rw [← E2.out.1]; exact Lleft.out) Lid.out).mono ?_
  rintro e w15 ⟨rfl, hb⟩
  have LA := Lib.hid (LA.out.up hb)
  have LB := Lib.hid (LB.out.up hb)
  have LC := Lib.hid (LC.out.up hb)
  have Lab := Lib.hid (Lab.out.up hb)
  have Lbc := Lib.hid (Lbc.out.up hb)
  have Lx := Lib.hid (Lx.out.up hb)
  have Ly := Lib.hid (Ly.out.up hb)
  have Lid := Lib.hid (Lid.out.up hb)
  have Lp := Lib.hid (Lp.out.up hb)
  have Lq := Lib.hid (Lq.out.up hb)
  have Lleft := Lib.hid (Lleft.out.up hb)
  have Lright := Lib.hid (Lright.out.up hb)
  have HB := Lib.hid (HB.out.trans (hb.mono HB.out.size))
  clear hb
  go_wp2_with fail
  refine (same_pm List.length_range (show Si _ Aright (ints (List.range n)) cright from by rw [← E2.out.2]; exact Lright.out) Lid.out).mono ?_
  rintro e w16 ⟨rfl, hb⟩
  have LA := Lib.hid (LA.out.up hb)
  have LB := Lib.hid (LB.out.up hb)
  have LC := Lib.hid (LC.out.up hb)
  have Lab := Lib.hid (Lab.out.up hb)
  have Lbc := Lib.hid (Lbc.out.up hb)
  have Lx := Lib.hid (Lx.out.up hb)
  have Ly := Lib.hid (Ly.out.up hb)
  have Lid := Lib.hid (Lid.out.up hb)
  have Lp := Lib.hid (Lp.out.up hb)
  have Lq := Lib.hid (Lq.out.up hb)
  have Lleft := Lib.hid (Lleft.out.up hb)
  have Lright := Lib.hid (Lright.out.up hb)
  have HB := Lib.hid (HB.out.trans (hb.mono HB.out.size))
  clear hb
  go_wp2_with fail
  refine (compose_pm P.out.1 (Pm.id n) P.out.2.2.2 LA.out Lid.out).mono ?_
  rintro e w17 ⟨Asame, csame, rfl, hs, hb⟩
  have LA := Lib.hid (LA.out.up hb)
  have LB := Lib.hid (LB.out.up hb)
  have LC := Lib.hid (LC.out.up hb)
  have Lab := Lib.hid (Lab.out.up hb)
  have Lbc := Lib.hid (Lbc.out.up hb)
  have Lx := Lib.hid (Lx.out.up hb)
  have Ly := Lib.hid (Ly.out.up hb)
  have Lid := Lib.hid (Lid.out.up hb)
  have Lp := Lib.hid (Lp.out.up hb)
  have Lq := Lib.hid (Lq.out.up hb)
  have Lleft := Lib.hid (Lleft.out.up hb)
  have Lright := Lib.hid (Lright.out.up hb)
  have Lsame := Lib.hid hs
  have HB := Lib.hid (HB.out.trans (hb.mono HB.out.size))
  clear hb hs
  go_wp2_with fail
  refine (compose_pm (Pm.id n) P.out.1 P.out.2.2.2 Lid.out LA.out).mono ?_
  rintro e w18 ⟨Aalso, calso, rfl, hs, hb⟩
  have LA := Lib.hid (LA.out.up hb)
  have LB := Lib.hid (LB.out.up hb)
  have LC := Lib.hid (LC.out.up hb)
  have Lab := Lib.hid (Lab.out.up hb)
  have Lbc := Lib.hid (Lbc.out.up hb)
  have Lx := Lib.hid (Lx.out.up hb)
  have Ly := Lib.hid (Ly.out.up hb)
  have Lid := Lib.hid (Lid.out.up hb)
  have Lp := Lib.hid (Lp.out.up hb)
  have Lq := Lib.hid (Lq.out.up hb)
  have Lleft := Lib.hid (Lleft.out.up hb)
  have Lright := Lib.hid (Lright.out.up hb)
  have Lsame := Lib.hid (Lsame.out.up hb)
  have Lalso := Lib.hid hs
  have HB := Lib.hid (HB.out.trans (hb.mono HB.out.size))
  clear hb hs
  go_wp2_with fail
  refine (inverse_pm ((P.out.1).mul P.out.2.1) P.out.2.2.2 Lab.out).mono ?_
  rintro e w19 ⟨Aback, cback, rfl, hs, hb⟩
  have LA := Lib.hid (LA.out.up hb)
  have LB := Lib.hid (LB.out.up hb)
  have LC := Lib.hid (LC.out.up hb)
  have Lab := Lib.hid (Lab.out.up hb)
  have Lbc := Lib.hid (Lbc.out.up hb)
  have Lx := Lib.hid (Lx.out.up hb)
  have Ly := Lib.hid (Ly.out.up hb)
  have Lid := Lib.hid (Lid.out.up hb)
  have Lp := Lib.hid (Lp.out.up hb)
  have Lq := Lib.hid (Lq.out.up hb)
  have Lleft := Lib.hid (Lleft.out.up hb)
  have Lright := Lib.hid (Lright.out.up hb)
  have Lsame := Lib.hid (Lsame.out.up hb)
  have Lalso := Lib.hid (Lalso.out.up hb)
  have Lback := Lib.hid hs
  have HB := Lib.hid (HB.out.trans (hb.mono HB.out.size))
  clear hb hs
  go_wp2_with fail
  refine (compose_pm (P.out.2.1).vi (P.out.1).vi P.out.2.2.2 Lq.out Lp.out).mono ?_
  rintro e w20 ⟨Aturned, cturned, rfl, hs, hb⟩
  have LA := Lib.hid (LA.out.up hb)
  have LB := Lib.hid (LB.out.up hb)
  have LC := Lib.hid (LC.out.up hb)
  have Lab := Lib.hid (Lab.out.up hb)
  have Lbc := Lib.hid (Lbc.out.up hb)
  have Lx := Lib.hid (Lx.out.up hb)
  have Ly := Lib.hid (Ly.out.up hb)
  have Lid := Lib.hid (Lid.out.up hb)
  have Lp := Lib.hid (Lp.out.up hb)
  have Lq := Lib.hid (Lq.out.up hb)
  have Lleft := Lib.hid (Lleft.out.up hb)
  have Lright := Lib.hid (Lright.out.up hb)
  have Lsame := Lib.hid (Lsame.out.up hb)
  have Lalso := Lib.hid (Lalso.out.up hb)
  have Lback := Lib.hid (Lback.out.up hb)
  have Lturned := Lib.hid hs
  have HB := Lib.hid (HB.out.trans (hb.mono HB.out.size))
  clear hb hs
  go_wp2_with fail
  refine (same_pm P.out.1.1 (show Si _ Asame (ints x) csame from by have h := Lsame.out; rwa [E3.out.1] at h) LA.out).mono ?_
  rintro e w21 ⟨rfl, hb⟩
  have LA := Lib.hid (LA.out.up hb)
  have LB := Lib.hid (LB.out.up hb)
  have LC := Lib.hid (LC.out.up hb)
  have Lab := Lib.hid (Lab.out.up hb)
  have Lbc := Lib.hid (Lbc.out.up hb)
  have Lx := Lib.hid (Lx.out.up hb)
  have Ly := Lib.hid (Ly.out.up hb)
  have Lid := Lib.hid (Lid.out.up hb)
  have Lp := Lib.hid (Lp.out.up hb)
  have Lq := Lib.hid (Lq.out.up hb)
  have Lleft := Lib.hid (Lleft.out.up hb)
  have Lright := Lib.hid (Lright.out.up hb)
  have Lsame := Lib.hid (Lsame.out.up hb)
  have Lalso := Lib.hid (Lalso.out.up hb)
  have Lback := Lib.hid (Lback.out.up hb)
  have Lturned := Lib.hid (Lturned.out.up hb)
  have HB := Lib.hid (HB.out.trans (hb.mono HB.out.size))
  clear hb
  go_wp2_with fail
  refine (same_pm P.out.1.1 (show Si _ Aalso (ints x) calso from by have h := Lalso.out; rwa [E3.out.2.1] at h) LA.out).mono ?_
  rintro e w22 ⟨rfl, hb⟩
  have LA := Lib.hid (LA.out.up hb)
  have LB := Lib.hid (LB.out.up hb)
  have LC := Lib.hid (LC.out.up hb)
  have Lab := Lib.hid (Lab.out.up hb)
  have Lbc := Lib.hid (Lbc.out.up hb)
  have Lx := Lib.hid (Lx.out.up hb)
  have Ly := Lib.hid (Ly.out.up hb)
  have Lid := Lib.hid (Lid.out.up hb)
  have Lp := Lib.hid (Lp.out.up hb)
  have Lq := Lib.hid (Lq.out.up hb)
  have Lleft := Lib.hid (Lleft.out.up hb)
  have Lright := Lib.hid (Lright.out.up hb)
  have Lsame := Lib.hid (Lsame.out.up hb)
  have Lalso := Lib.hid (Lalso.out.up hb)
  have Lback := Lib.hid (Lback.out.up hb)
  have Lturned := Lib.hid (Lturned.out.up hb)
  have HB := Lib.hid (HB.out.trans (hb.mono HB.out.size))
  clear hb
  go_wp2_with fail
  refine (same_pm ((((P.out.2.1).vi).mul (P.out.1).vi)).1 (show Si _ Aback (ints (mu (vi y) (vi x))) cback from by have h := Lback.out; rwa [E3.out.2.2] at h) Lturned.out).mono ?_
  rintro e w23 ⟨rfl, hb⟩
  have LA := Lib.hid (LA.out.up hb)
  have LB := Lib.hid (LB.out.up hb)
  have LC := Lib.hid (LC.out.up hb)
  have Lab := Lib.hid (Lab.out.up hb)
  have Lbc := Lib.hid (Lbc.out.up hb)
  have Lx := Lib.hid (Lx.out.up hb)
  have Ly := Lib.hid (Ly.out.up hb)
  have Lid := Lib.hid (Lid.out.up hb)
  have Lp := Lib.hid (Lp.out.up hb)
  have Lq := Lib.hid (Lq.out.up hb)
  have Lleft := Lib.hid (Lleft.out.up hb)
  have Lright := Lib.hid (Lright.out.up hb)
  have Lsame := Lib.hid (Lsame.out.up hb)
  have Lalso := Lib.hid (Lalso.out.up hb)
  have Lback := Lib.hid (Lback.out.up hb)
  have Lturned := Lib.hid (Lturned.out.up hb)
  have HB := Lib.hid (HB.out.trans (hb.mono HB.out.size))
  clear hb
  go_wp2_with fail
  go_ret
  exact ⟨rfl, HB.out⟩
end Go.Proofs.Ytobchecnfkocdaa
