/- PermsClosureSpec. -/
import Derived.Test.YtobchecnfkocdaaROr
namespace Go.Proofs.Ytobchecnfkocdaa
open Go.RowKit
set_option linter.unusedVariables false
set_option linter.unusedSimpArgs false

def ResX (w : World) (e : Ending) (w' : World) (X : List (List Nat) → Int → Prop) : Prop :=
  ∃ (A : Option Addr) (m c : Nat) (ls : List (List Nat)) (e1 : Int), e = .returned (.tuple #[.slice A m c, .int .i64 e1]) ∧ RI w' A (ls.map ints) c ∧ ls.length = m ∧ X ls e1 ∧ Below w.heap.size w w'
def XC (n : Int) (gens : List (List Int)) (ls : List (List Nat)) (e1 : Int) : Prop :=
  (cge n gens ≠ 0 ∧ ls = [] ∧ e1 = cge n gens) ∨ (cge n gens = 0 ∧ ∃ N gs, n = ((N : Nat) : Int) ∧ gens = gs.map ints ∧ ResQ N gs ls e1)
def XO (n : Int) (gens : List (List Int)) (ls : List (List Nat)) (e1 : Int) : Prop :=
  (cge n gens ≠ 0 ∧ ls = [] ∧ e1 = cge n gens) ∨ (cge n gens = 0 ∧ ∃ N gs, n = ((N : Nat) : Int) ∧ gens = gs.map ints ∧ ls = orbs N gs N ∧ e1 = 0)
theorem resQ_same {N : Nat} {gs ls ms : List (List Nat)} {e1 e2 : Int} (h1 : ResQ N gs ls e1) (h2 : ResQ N gs ms e2) : e1 = e2 ∧ ls = ms := by
  rcases h1 with ⟨a1, a2, a3⟩ | ⟨a1, a2, a3, a4⟩
  · rcases h2 with ⟨_, b2, b3⟩ | ⟨_, _, b3, b4⟩
    · exact ⟨by omega, by rw [a3, b3]⟩
    · exact absurd a1 (big_list b3 b4)
  · rcases h2 with ⟨b1, _⟩ | ⟨b1, b2, b3, b4⟩
    · exact absurd b1 (big_list a3 a4)
    · exact ⟨by omega, (maps_inj (cls_uniq a2 b2 a3 (fun p => (b3 p).symm))).symm⟩
theorem xc_same {n : Int} {gens : List (List Int)} {ls ms : List (List Nat)} {e1 e2 : Int} (h1 : XC n gens ls e1) (h2 : XC n gens ms e2) : e1 = e2 ∧ ls = ms := by
  rcases h1 with ⟨a1, a2, a3⟩ | ⟨a1, N, gs, hn, hg, hr⟩
  · rcases h2 with ⟨_, b2, b3⟩ | ⟨b1, _⟩
    · exact ⟨by omega, by rw [a2, b2]⟩
    · exact absurd b1 a1
  · rcases h2 with ⟨b1, _⟩ | ⟨_, N', gs', hn', hg', hr'⟩
    · exact absurd a1 b1
    · have e1 : N' = N := by omega
      have e2 : gs' = gs := maps_inj (hg.symm.trans hg')
      subst e1 e2
      exact resQ_same hr hr'
theorem xo_same {n : Int} {gens : List (List Int)} {ls ms : List (List Nat)} {e1 e2 : Int} (h1 : XO n gens ls e1) (h2 : XO n gens ms e2) : e1 = e2 ∧ ls = ms := by
  rcases h1 with ⟨a1, a2, a3⟩ | ⟨a1, N, gs, hn, hg, hr, h0⟩
  · rcases h2 with ⟨_, b2, b3⟩ | ⟨b1, _⟩
    · exact ⟨by omega, by rw [a2, b2]⟩
    · exact absurd b1 a1
  · rcases h2 with ⟨b1, _⟩ | ⟨_, N', gs', hn', hg', hr', h0'⟩
    · exact absurd a1 b1
    · have e1 : N' = N := by omega
      have e2 : gs' = gs := maps_inj (hg.symm.trans hg')
      subst e1 e2
      exact ⟨by omega, by rw [hr, hr']⟩
section
variable {n : Int} {A : Option Addr} {c : Nat} {gens : List (List Int)} {w w' : World} {e : Ending}
theorem x1 (h : ClP n gens w e w') : ResX w e w' (XC n gens) := by
  rcases h with ⟨h1, rfl, h2⟩ | ⟨h0, N, gs, rfl, _, h2, h3, h4⟩
  · exact ⟨none, 0, 0, [], _, rfl, RI.nil w', rfl, .inl ⟨h1, rfl, rfl⟩, h2⟩
  · obtain ⟨A, m, c, ls, e1, a1, a2, a3, a4, a5, a6⟩ := cq_res h4
    exact ⟨A, m, c, ls, e1, a1, a2, a3, .inr ⟨h0, N, gs, rfl, h2, a5⟩, a6⟩
theorem x2 (h : RcP n gens w e w') : ResX w e w' (XC n gens) := by
  rcases h with ⟨h1, rfl, h2⟩ | ⟨h0, N, gs, rfl, _, h2, h3, h4⟩
  · exact ⟨none, 0, 0, [], _, rfl, RI.nil w', rfl, .inl ⟨h1, rfl, rfl⟩, h2⟩
  · obtain ⟨A, m, c, ls, e1, a1, a2, a3, a4, a5, a6⟩ := h4
    exact ⟨A, m, c, ls, e1, a1, a2, a3, .inr ⟨h0, N, gs, rfl, h2, a5⟩, a6⟩
theorem x3 (h : OrbP n gens w e w') : ResX w e w' (XO n gens) := by
  rcases h with ⟨h1, rfl, h2⟩ | ⟨h0, N, gs, rfl, _, h2, h3, A, m, c, a1, a2, a3⟩
  · exact ⟨none, 0, 0, [], _, rfl, RI.nil w', rfl, .inl ⟨h1, rfl, rfl⟩, h2⟩
  · exact ⟨A, m, c, _, 0, a1, a2.ri, by have := a2.1; rwa [List.length_map] at this, .inr ⟨h0, N, gs, rfl, h2, rfl, rfl⟩, a3⟩
theorem x4 (h : RoP n gens w e w') : ResX w e w' (XO n gens) := by
  rcases h with ⟨h1, rfl, h2⟩ | ⟨h0, N, gs, rfl, _, h2, h3, A, m, c, a1, a2, a3, a4⟩
  · exact ⟨none, 0, 0, [], _, rfl, RI.nil w', rfl, .inl ⟨h1, rfl, rfl⟩, h2⟩
  · exact ⟨A, m, c, _, 0, a1, a2, a3, .inr ⟨h0, N, gs, rfl, h2, rfl, rfl⟩, a4⟩
end

set_option maxHeartbeats 8000000 in
set_option maxRecDepth 100000 in
theorem lawCls_any (n : Int) (A : Option Addr) (c : Nat) (gens : List (List Int)) (w : World) (hA : RI w A gens c) :
    Calls Try.prog 4 #[.int .i64 n, .slice A gens.length c] w (QB true w) := by
  have HSN := Lib.hid (sane_all w)
  unfold QB at HSN ⊢
  have HFW := Lib.hid (fun V (hV : Below w.heap.size w V) => few_any n A c gens V (hA.up hV))
  unfold FewQ at HFW
  have H1 := Lib.hid (fun V (hV : Below w.heap.size w V) => closure_any sortE n A c gens V (hA.up hV))
  have H2 := Lib.hid (fun (hs : FewR n gens) V (hV : Below w.heap.size w V) => rclosure_any n A c gens V (hA.up hV) hs.1)
  have H3 := Lib.hid (fun V (hV : Below w.heap.size w V) => Orbits_any n A c gens V (hA.up hV))
  have H4 := Lib.hid (fun (hs : FewR n gens) V (hV : Below w.heap.size w V) => rorbits_any n A c gens V (hA.up hV) hs.1)
  obtain ⟨L, hL⟩ : ∃ L, gens.length = L := ⟨_, rfl⟩
  rw [hL] at HFW H1 H2 H3 H4 ⊢
  clear hA hL
  go_enter Try.func4, Try.ntmps4
  go_wp2_with fail
  refine HSN.out.mono ?_
  rintro e w1 ⟨rfl, hb⟩
  have HB1 := Lib.hid hb
  clear hb HSN
  go_wp2_with fail
  refine (HFW.out w1 HB1.out).mono ?_
  rintro e w2 ⟨b, rfl, rfl, hfew⟩
  cases b with
  | false =>
    go_wp2_with fail
    go_ret
    exact ⟨rfl, HB1.out⟩
  | true =>
  have HF := Lib.hid (hfew rfl)
  clear hfew HFW
  go_wp2_with fail
  refine (H1.out w1 HB1.out).mono ?_
  intro e w2 h
  obtain ⟨A1, m1, c1, l1, e1, rfl, r1, k1, x1', b1⟩ := x1 h
  have HB2 := Lib.hid (HB1.out.trans (b1.mono HB1.out.size))
  have K1 := Lib.hid (And.intro r1 (And.intro k1 x1'))
  clear h r1 k1 x1' b1 H1 HB1
  go_wp2_with fail
  refine (H2.out HF.out w2 HB2.out).mono ?_
  intro e w3 h
  obtain ⟨A2, m2, c2, l2, e2, rfl, r2, k2, x2', b2⟩ := x2 h
  obtain ⟨he, hl⟩ := xc_same K1.out.2.2 x2'
  have hm : m2 = m1 := by rw [← k2, ← K1.out.2.1, hl]
  subst he hl hm
  have HB3 := Lib.hid (HB2.out.trans (b2.mono HB2.out.size))
  have K2 := Lib.hid (And.intro (K1.out.1.up b2) (And.intro r2 k2))
  clear h r2 k2 x2' b2 H2 HB2 K1
  go_wp2_with fail
  refine (H3.out w3 HB3.out).mono ?_
  intro e w4 h
  obtain ⟨A3, m3, c3, l3, e3, rfl, r3, k3, x3', b3⟩ := x3 h
  have HB4 := Lib.hid (HB3.out.trans (b3.mono HB3.out.size))
  have K3 := Lib.hid (And.intro r3 (And.intro k3 (And.intro x3' (And.intro (K2.out.1.up b3) (And.intro (K2.out.2.1.up b3) K2.out.2.2)))))
  clear h r3 k3 x3' b3 H3 HB3 K2
  go_wp2_with fail
  refine (H4.out HF.out w4 HB4.out).mono ?_
  intro e w5 h
  obtain ⟨A4, m4, c4, l4, e4, rfl, r4, k4, x4', b4⟩ := x4 h
  obtain ⟨he, hl⟩ := xo_same K3.out.2.2.1 x4'
  have hm : m4 = m3 := by rw [← k4, ← K3.out.2.1, hl]
  subst he hl hm
  have HB5 := Lib.hid (HB4.out.trans (b4.mono HB4.out.size))
  have K4 := Lib.hid (And.intro (K3.out.1.up b4) (And.intro r4 (And.intro k4 (And.intro (K3.out.2.2.2.1.up b4) (And.intro (K3.out.2.2.2.2.1.up b4) K3.out.2.2.2.2.2)))))
  clear h r4 k4 x4' b4 H4 HB4 K3
  have S1 := sameAll_any A1 c1 _ A2 c2 _ w5 K4.out.2.2.2.1 K4.out.2.2.2.2.1
  rw [List.length_map, K4.out.2.2.2.2.2, decide_eq_true rfl] at S1
  have HS1 := Lib.hid S1
  have HS2 := Lib.hid (fun V (hV : Below w5.heap.size w5 V) => sameAll_any A3 c3 _ A4 c4 _ V (K4.out.1.up hV) (K4.out.2.1.up hV))
  rw [List.length_map, K4.out.2.2.1, decide_eq_true rfl] at HS2
  have q1 : (e1 == e1) = true := by simp
  have q2 : (e3 == e3) = true := by simp
  clear S1
  go_wp2_with fail
  refine HS1.out.mono ?_
  rintro e w6 ⟨rfl, hk6⟩
  have HB6 := Lib.hid (show Below w5.heap.size w5 w6 from by obtain ⟨k, rfl⟩ := hk6; exact below_drewN w5 k)
  clear hk6 HS1
  go_wp2_with fail
  refine (HS2.out w6 HB6.out).mono ?_
  rintro e w7 ⟨rfl, hk7⟩
  have HB7 := Lib.hid (show Below w6.heap.size w6 w7 from by obtain ⟨k, rfl⟩ := hk7; exact below_drewN w6 k)
  clear hk7 HS2
  go_wp2_with fail
  go_ret
  exact ⟨rfl, HB5.out.trans ((HB6.out.trans (HB7.out.mono HB6.out.size)).mono HB5.out.size)⟩
end Go.Proofs.Ytobchecnfkocdaa
