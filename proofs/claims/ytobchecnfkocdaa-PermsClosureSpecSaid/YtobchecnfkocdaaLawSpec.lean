/- PermsSpec, given the examples (sane). -/
import Derived.Test.YtobchecnfkocdaaOrd
namespace Go.Proofs.Ytobchecnfkocdaa
open Go.RowKit
set_option linter.unusedVariables false
set_option linter.unusedSimpArgs false

/-- The examples of the chapter hold. -/
def SaneAll : Prop := ∀ V : World, Calls Try.prog 10 #[] V (QB true V)
theorem cmr_len (a b : List Int) : (cmr a b).length ≤ b.length := by
  unfold cmr
  split
  · rw [cmi_length]; exact Nat.le_refl _
  · exact Nat.zero_le _

set_option maxHeartbeats 8000000 in
set_option maxRecDepth 100000 in
theorem lawSpec_any (hsane : SaneAll) (A : Option Addr) (c : Nat) (a : List Int) (B : Option Addr) (d : Nat) (b : List Int) (n : Int) (w : World) (hA : Si w A a c) (hB : Si w B b d) :
    Calls Try.prog 3 #[.slice A a.length c, .slice B b.length d, .int .i64 n] w (QB true w) := by
  have HSN := Lib.hid (hsane w)
  have HS := Lib.hid (And.intro hA hB)
  have hl1 := hA.le
  have hl2 := hB.le
  unfold QB at HSN ⊢
  clear hA hB hsane
  by_cases q1 : 300 < a.length
  · have d1 : decide ((300 : Int) < (a.length : Int)) = true := decide_eq_true (by omega)
    have d2 : (300 : Int) < (a.length : Int) := by omega
    generalize a.length = la at *
    generalize b.length = lb at *
    go_enter Try.func3, Try.ntmps3
    go_wp2_with fail
    refine HSN.out.mono ?_
    rintro e w1 ⟨rfl, hb⟩
    have HB := Lib.hid hb
    clear hb
    go_wp2_with fail
    go_ret
    exact ⟨rfl, HB.out⟩
  have d1 : decide ((300 : Int) < (a.length : Int)) = false := decide_eq_false (by omega)
  have d2 : ¬ (300 : Int) < (a.length : Int) := by omega
  by_cases q2 : 300 < b.length
  · have d3 : decide ((300 : Int) < (b.length : Int)) = true := decide_eq_true (by omega)
    have d4 : (300 : Int) < (b.length : Int) := by omega
    generalize a.length = la at *
    generalize b.length = lb at *
    go_enter Try.func3, Try.ntmps3
    go_wp2_with fail
    refine HSN.out.mono ?_
    rintro e w1 ⟨rfl, hb⟩
    have HB := Lib.hid hb
    clear hb
    go_wp2_with fail
    go_ret
    exact ⟨rfl, HB.out⟩
  have d3 : decide ((300 : Int) < (b.length : Int)) = false := decide_eq_false (by omega)
  have d4 : ¬ (300 : Int) < (b.length : Int) := by omega
  have H1 := Lib.hid (fun V (h : Below w.heap.size w V) => compose_any A c a B d b V (HS.out.1.up h) (HS.out.2.up h))
  have H2 := Lib.hid (fun V (h : Below w.heap.size w V) => rcompose_any A c a B d b V (HS.out.1.up h) (HS.out.2.up h) (by omega) (by omega))
  have H3 := Lib.hid (fun V (h : Below w.heap.size w V) => inverse_any A c a V (HS.out.1.up h))
  have H4 := Lib.hid (fun V (h : Below w.heap.size w V) => rinverse_any A c a V (HS.out.1.up h) (by omega))
  have H5 := Lib.hid (fun V (h : Below w.heap.size w V) => check_any A c a n V (HS.out.1.up h))
  have H6 := Lib.hid (fun V (h : Below w.heap.size w V) => rcheck_any A c a n V (HS.out.1.up h) (by omega))
  have H7 := Lib.hid (fun V (h : Below w.heap.size w V) => check_any A c a (a.length : Int) V (HS.out.1.up h))
  have H8 := Lib.hid (fun V (h : Below w.heap.size w V) => rcheck_any A c a (a.length : Int) V (HS.out.1.up h) (by omega))
  have HM1 := Lib.hid (fun (A1 A2 : Option Addr) (c1 c2 : Nat) V (h1 : Si V A1 (cmr a b) c1) (h2 : Si V A2 (cmr a b) c2) => same_any A1 c1 (cmr a b) A2 c2 (cmr a b) V h1 h2)
  have HM2 := Lib.hid (fun (A1 A2 : Option Addr) (c1 c2 : Nat) V (h1 : Si V A1 (ivr a) c1) (h2 : Si V A2 (ivr a) c2) => same_any A1 c1 (ivr a) A2 c2 (ivr a) V h1 h2)
  simp only [decide_true] at HM1 HM2
  unfold IntP at H1 H2 H3 H4
  generalize (if ¬ (0 ≤ n ∧ n ≤ 256) then (1 : Int) else if isp a n = true then 0 else 110) = e1 at *
  generalize (if ¬ (0 ≤ (a.length : Int) ∧ (a.length : Int) ≤ 256) then (1 : Int) else if isp a (a.length : Int) = true then 0 else 110) = e2 at *
  obtain ⟨C, hC⟩ : ∃ C, cmr a b = C := ⟨_, rfl⟩
  obtain ⟨I, hI⟩ : ∃ I, ivr a = I := ⟨_, rfl⟩
  simp only [hC] at H1 H2 HM1
  simp only [hI] at H3 H4 HM2
  clear hC hI
  generalize cme a b = e3 at *
  generalize ive a = e4 at *
  generalize C.length = lc at *
  generalize I.length = li at *
  generalize a.length = la at *
  generalize b.length = lb at *
  go_enter Try.func3, Try.ntmps3
  go_wp2_with fail
  refine HSN.out.mono ?_
  rintro e w1 ⟨rfl, hb⟩
  have HB := Lib.hid hb
  clear hb HSN
  go_wp2_with fail
  refine (H1.out w1 HB.out).mono ?_
  rintro e w2 ⟨A1, c1, rfl, hs1, hb⟩
  have K2 := Lib.hid (And.intro hs1 (HB.out.trans (hb.mono HB.out.size)))
  clear hs1 hb HB H1
  go_wp2_with fail
  refine (H2.out w2 K2.out.2).mono ?_
  rintro e w3 ⟨A2, c2, rfl, hs2, hb⟩
  have K3 := Lib.hid (And.intro (And.intro (K2.out.1.up hb) hs2) (K2.out.2.trans (hb.mono K2.out.2.size)))
  clear hs2 hb K2 H2
  go_wp2_with fail
  refine (H3.out w3 K3.out.2).mono ?_
  rintro e w4 ⟨A3, c3, rfl, hs3, hb⟩
  have K4 := Lib.hid (And.intro (And.intro (K3.out.1.1.up hb) (And.intro (K3.out.1.2.up hb) hs3)) (K3.out.2.trans (hb.mono K3.out.2.size)))
  clear hs3 hb K3 H3
  go_wp2_with fail
  refine (H4.out w4 K4.out.2).mono ?_
  rintro e w5 ⟨A4, c4, rfl, hs4, hb⟩
  have K5 := Lib.hid (And.intro (And.intro (K4.out.1.1.up hb) (And.intro (K4.out.1.2.1.up hb) (And.intro (K4.out.1.2.2.up hb) hs4))) (K4.out.2.trans (hb.mono K4.out.2.size)))
  clear hs4 hb K4 H4
  go_wp2_with fail
  refine (H5.out w5 K5.out.2).mono ?_
  rintro e w6 ⟨rfl, hb⟩
  have K6 := Lib.hid (And.intro (And.intro (K5.out.1.1.up hb) (And.intro (K5.out.1.2.1.up hb) (And.intro (K5.out.1.2.2.1.up hb) (K5.out.1.2.2.2.up hb)))) (K5.out.2.trans (hb.mono K5.out.2.size)))
  clear hb K5 H5
  go_wp2_with fail
  refine (H6.out w6 K6.out.2).mono ?_
  rintro e w7 ⟨rfl, hb⟩
  have K7 := Lib.hid (And.intro (And.intro (K6.out.1.1.up hb) (And.intro (K6.out.1.2.1.up hb) (And.intro (K6.out.1.2.2.1.up hb) (K6.out.1.2.2.2.up hb)))) (K6.out.2.trans (hb.mono K6.out.2.size)))
  clear hb K6 H6
  go_wp2_with fail
  refine (H7.out w7 K7.out.2).mono ?_
  rintro e w8 ⟨rfl, hb⟩
  have K8 := Lib.hid (And.intro (And.intro (K7.out.1.1.up hb) (And.intro (K7.out.1.2.1.up hb) (And.intro (K7.out.1.2.2.1.up hb) (K7.out.1.2.2.2.up hb)))) (K7.out.2.trans (hb.mono K7.out.2.size)))
  clear hb K7 H7
  go_wp2_with fail
  refine (H8.out w8 K8.out.2).mono ?_
  rintro e w9 ⟨rfl, hb⟩
  have K9 := Lib.hid (And.intro (And.intro (K8.out.1.1.up hb) (And.intro (K8.out.1.2.1.up hb) (And.intro (K8.out.1.2.2.1.up hb) (K8.out.1.2.2.2.up hb)))) (K8.out.2.trans (hb.mono K8.out.2.size)))
  clear hb K8 H8
  go_wp2_with fail
  refine (HM1.out A1 A2 c1 c2 w9 K9.out.1.1 K9.out.1.2.1).mono ?_
  rintro e w10 ⟨rfl, m, rfl⟩
  have K10 := Lib.hid (And.intro (show Si (w9.drewN m) A3 I c3 from K9.out.1.2.2.1) (And.intro (show Si (w9.drewN m) A4 I c4 from K9.out.1.2.2.2) (K9.out.2.trans ((show Below w9.heap.size w9 (w9.drewN m) from ⟨rfl, rfl, rfl, Nat.le_refl _, fun _ _ => rfl⟩).mono K9.out.2.size))))
  clear K9 HM1
  generalize w9.drewN m = V at *
  go_wp2_with fail
  refine (HM2.out A3 A4 c3 c4 V K10.out.1 K10.out.2.1).mono ?_
  rintro e w11 ⟨rfl, m, rfl⟩
  have KF := Lib.hid (K10.out.2.2.trans ((show Below V.heap.size V (V.drewN m) from ⟨rfl, rfl, rfl, Nat.le_refl _, fun _ _ => rfl⟩).mono K10.out.2.2.size))
  clear K10 HM2
  generalize V.drewN m = V2 at *
  go_wp2_with fail
  go_ret
  exact ⟨rfl, KF.out⟩
end Go.Proofs.Ytobchecnfkocdaa
