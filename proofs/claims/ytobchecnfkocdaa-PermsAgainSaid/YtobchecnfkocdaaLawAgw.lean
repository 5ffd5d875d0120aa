/- PermsAgain: the walk. -/
import Derived.Test.YtobchecnfkocdaaLawAga
namespace Go.Proofs.Ytobchecnfkocdaa
open Go.RowKit
set_option linter.unusedVariables false
set_option linter.unusedSimpArgs false

/-- What the law's first loop keeps. -/
def AgR (N : Nat) (gens : List (List Int)) (qq : List Nat) (A11 : Option Addr) (c11 : Nat) (B : Nat) (W0 wr : World) (t : Nat) (v9 v10 : Value) : Prop :=
  ∃ (ps : List (List Nat)) (A9 : Option Addr) (n9 c9 : Nat) (A10 : Option Addr) (n10 c10 : Nat), v9 = .slice A9 n9 c9 ∧ v10 = .slice A10 n10 c10 ∧ gens.drop t = ps.map ints ∧ (∀ p ∈ ps, Pm N p) ∧
    OM B wr A9 n9 c9 ((bk ps).map ints) ∧ OM B wr A10 n10 c10 ((bn qq ps).map ints) ∧ (∀ g, A9 = some ⟨g, 0, none⟩ → A10 ≠ some ⟨g, 0, none⟩) ∧ Below B W0 wr ∧ B ≤ wr.heap.size ∧ Si wr A11 (ints (vi qq)) c11 ∧ Tc B wr A11 N
theorem om_some {B n c : Nat} {w : World} {A : Option Addr} {ls : List (List Int)} (h : OM B w A n c ls) {g : Nat} (e : A = some ⟨g, 0, none⟩) : g < w.heap.size ∧ (Value.slice A n c).ownBlock = some g := by
  obtain ⟨_, vs, h1, _⟩ := h
  subst e
  exact ⟨(h1.lt g rfl).2, rfl⟩
theorem om_apart {B n c n2 c2 g : Nat} {w : World} {A A2 : Option Addr} {ls ls2 : List (List Int)} (h : OM B w A n c ls) (h2 : OM B w A2 n2 c2 ls2) (hne : ∀ g, A = some ⟨g, 0, none⟩ → A2 ≠ some ⟨g, 0, none⟩) (hat : (Value.slice A n c).ownBlock = some g ∨ g = w.heap.size) : A2 ≠ some ⟨g, 0, none⟩ := by
  intro e
  rcases hat with h3 | h3
  · obtain ⟨_, vs, h1, _⟩ := h
    rcases h1.2 with ⟨hv, _⟩ | ⟨g', cap, cur, hv, _⟩
    · rw [hv] at h3
      cases h3
    · injection hv with hA _ _
      subst hA
      injection h3 with h3
      have h3 : g' = g := h3
      subst h3
      exact hne g' rfl e
  · have := (om_some h2 e).1
    omega

theorem drop_here {α : Type} {l : List α} {i : Nat} {x : α} (h : l[i]? = some x) : l.drop i = x :: l.drop (i + 1) := by
  obtain ⟨h1, h2⟩ := List.getElem?_eq_some_iff.1 h
  rw [List.drop_eq_getElem_cons h1, h2]
theorem wpList_append_om {B : Nat} {w : World} {ops : Array Oper} {rest : List Oper} {o : Oper} {a : Act} {Q : Exit → Act → World → Prop} (hgd : o.guard = none) (s x : Operand)
    (ho : o.op = .call { callee := .builtin .append, args := #[s, x], argTypes := #[31, 31] })
    (A : Option Addr) (n c : Nat) (ls : List (List Int)) (hs : a.eval s = .slice A n c) (hO : OM B w A n c ls) (q m : Nat) (ns : List (List Int)) (us : List Value) (hm : us.length = m) (hm0 : 0 < m) (hx : a.eval x = .slice (some ⟨q, 0, none⟩) m m) (hq : Box w q us.toArray 22)
    (hnl : ns.length = m) (hns : ∀ (i : Nat) (l : List Int), ns[i]? = some l → ∃ A' c', us[i]? = some (.slice A' l.length c') ∧ Si w A' l c' ∧ Tc B w A' l.length) (hone : ∀ u ∈ us, u.oneCell' = true) (hn : n + m ≤ 900000) (hbase : B ≤ w.heap.size)
    (h : ∀ g c' w', OM B w' (some ⟨g, 0, none⟩) (n + m) c' (ls ++ ns) → Below B w w' → w.grownBy w' (Value.slice A n c).ownBlock → ((Value.slice A n c).ownBlock = some g ∨ g = w.heap.size) → wpList Try.prog ops Q rest (a.put o.dst (.slice (some ⟨g, 0, none⟩) (n + m) c')) w') :
    wpList Try.prog ops Q (o :: rest) a w := by
  refine wpList_plain hgd fun K hK => ?_
  exact wp_append_om s x ho A n c ls hs hO q m ns us hm hm0 hx hq hnl hns hone hn hbase (fun g c' w' h1 h2 h3 h4 => hK _ _ (h g c' w' h1 h2 h3 h4))

set_option maxHeartbeats 8000000 in
set_option maxRecDepth 100000 in
theorem lawAga_any (n : Int) (A : Option Addr) (c : Nat) (gens : List (List Int)) (D : Option Addr) (d : Nat) (q : List Int) (w : World) (hA : RI w A gens c) (hD : Si w D q d) (hq44 : q.length ≤ 17592186044416) :
    Calls Try.prog 8 #[.int .i64 n, .slice A gens.length c, .slice D q.length d] w (QB true w) := by
  have HSN := Lib.hid (sane_all w)
  unfold QB at HSN ⊢
  have HFW := Lib.hid (fun V (hV : Below w.heap.size w V) => few_any n A c gens V (hA.up hV))
  unfold FewQ at HFW
  have HCL := Lib.hid (fun V (hV : Below w.heap.size w V) => closure_any sortE n A c gens V (hA.up hV))
  have HIQ := Lib.hid (fun V (hV : Below w.heap.size w V) => isr_big D d q n V (hD.up hV) hq44)
  unfold QB at HIQ
  have HRI := Lib.hid (And.intro hA hD)
  have hqi : ∀ N : Nat, n = (N : Int) → isr q n = true → q.length = N := fun N e h => by
    rw [e] at h
    obtain ⟨p, h1, h2⟩ := isr_ints h
    rw [h1, ints_length, h2.1]
  obtain ⟨L, hL⟩ : ∃ L, gens.length = L := ⟨_, rfl⟩
  obtain ⟨ql, hql⟩ : ∃ ql, q.length = ql := ⟨_, rfl⟩
  have HLL := Lib.hid (And.intro hL (And.intro hql hqi))
  rw [hL] at HFW HCL ⊢
  rw [hql] at HIQ hq44 ⊢
  clear hA hD hL hql hqi
  go_enter Try.func8, Try.ntmps8
  go_wp2_with fail
  refine HSN.out.mono ?_
  rintro e w1 ⟨rfl, hb⟩
  have HB1 := Lib.hid hb
  clear hb HSN
  by_cases hn0 : n < 0
  · have d0 : decide (n < 0) = true := decide_eq_true hn0
    go_wp2_with fail
    go_ret
    exact ⟨rfl, HB1.out⟩
  have d0 : decide (n < 0) = false := decide_eq_false hn0
  go_wp2_with fail
  refine (HFW.out w1 HB1.out).mono ?_
  rintro e w2 ⟨b, rfl, rfl, hfew⟩
  cases b with
  | false =>
    go_wp2_with fail
    go_ret
    exact ⟨rfl, HB1.out⟩
  | true =>
  have HF := Lib.hid (hfew rfl)
  clear hfew HFW
  go_wp2_with fail
  refine (HIQ.out w1 HB1.out).mono ?_
  rintro e w2 ⟨rfl, hb⟩
  have HB2 := Lib.hid (HB1.out.trans (hb.mono HB1.out.size))
  clear hb HB1 HIQ
  cases hiq : isr q n with
  | false =>
    go_wp2_with fail
    go_ret
    exact ⟨rfl, HB2.out⟩
  | true =>
  by_cases hn16 : 16 < n
  · have d1 : decide (16 < n) = true := decide_eq_true hn16
    go_wp2_with fail
    go_ret
    exact ⟨rfl, HB2.out⟩
  have d1 : decide (16 < n) = false := decide_eq_false hn16
  obtain ⟨N, rfl⟩ : ∃ N : Nat, n = (N : Int) := ⟨n.toNat, by omega⟩
  have hN : N ≤ 16 := by omega
  obtain ⟨qq, hqq, hqp⟩ := isr_ints hiq
  have hqlN : ql = N := by rw [← HLL.out.2.1]; exact HLL.out.2.2 N rfl hiq
  subst hqlN
  have HQ := Lib.hid (And.intro hqp (show Si w D (ints qq) d from by rw [← hqq]; exact HRI.out.2))
  have hL6 : L ≤ 6 := by rw [← HLL.out.1]; exact HF.out.2.2
  clear hqq hqp hiq hq44 hn0 hn16
  go_wp2_with fail
  refine (HCL.out w2 HB2.out).mono ?_
  intro e w3 hcl
  obtain ⟨A1, m, c1, ls, e1, rfl, hri, hml, hm4, hres, hb3⟩ := cl_res hcl
  have HR := Lib.hid (And.intro hri (And.intro hml hres))
  have HB3 := Lib.hid (HB2.out.trans (hb3.mono HB2.out.size))
  clear hcl hri hml hres hb3 HCL HB2
  go_upto_region 7 with fail
  obtain ⟨W4, hW4⟩ : ∃ W4, (w3.alloc (.cells #[] 22)).alloc (.cells #[] 22) = W4 := ⟨_, rfl⟩
  have hb4 := al2 w3 (.cells #[] 22) (.cells #[] 22)
  have ho9 := own_below (World.ownsRow_lit (base := w3.heap.size) (e := 22) (size := 1) w3 #[] 0 (Nat.le_refl _) (by unfold maxLen; omega) rfl) (al1 (w3.alloc (.cells #[] 22)) (.cells #[] 22))
  have ho10 := World.ownsRow_lit (base := w3.heap.size) (e := 22) (size := 1) (w3.alloc (.cells #[] 22)) #[] 0 (by rw [World.size_alloc]; omega) (by unfold maxLen; omega) rfl
  rw [World.size_alloc] at ho10
  rw [hW4] at hb4 ho9 ho10 ⊢
  obtain ⟨B, hBe⟩ : ∃ B, w3.heap.size = B := ⟨_, rfl⟩
  rw [hBe] at hb4 ho9 ho10 ⊢
  have hz4 : B ≤ W4.heap.size := by rw [← hBe]; exact hb4.size
  have HB4 := Lib.hid (And.intro (show Below w.heap.size w W4 from HB3.out.trans (hb4.mono (by have := HB3.out.size; omega))) (And.intro (show w.heap.size ≤ B from by rw [← hBe]; exact HB3.out.size) (And.intro hz4 (show Below B w3 W4 from by rw [← hBe] at hb4 ⊢; exact hb4))))
  have HO4 := Lib.hid (And.intro ho9 ho10)
  have HR4 := Lib.hid (HR.out.1.up (show Below w3.heap.size w3 W4 from by rw [hBe]; exact hb4))
  have HIV := Lib.hid (rinverse_pt HQ.out.1 (by omega) (HQ.out.2.up HB4.out.1))
  have HBE := Lib.hid hBe
  clear hb4 ho9 ho10 hz4 hW4 hBe
  go_wp2_with fail
  refine HIV.out.mono ?_
  rintro e w5 ⟨A11, c11, rfl, hs5, ht5, hb5⟩
  have HB5 := Lib.hid (And.intro (HB4.out.1.trans (hb5.mono HB4.out.1.size)) (Nat.le_trans HB4.out.2.2.1 hb5.size))
  have HB4s := Lib.hid HB4.out.2.1
  have HI5 := Lib.hid (And.intro hs5 (HR4.out.up hb5))
  have HA5 := Lib.hid (show AgR ql gens qq A11 c11 B w3 w5 L (.slice (some ⟨B, 0, none⟩) 0 0) (.slice (some ⟨B + 1, 0, none⟩) 0 0) from
    ⟨[], _, 0, 0, _, 0, 0, rfl, rfl, by rw [← HLL.out.1, List.drop_length]; rfl, fun p hp => absurd hp (List.not_mem_nil), ⟨rfl, _, own_below HO4.out.1 hb5, fun i l h => by cases h⟩, ⟨rfl, _, own_below HO4.out.2 hb5, fun i l h => by cases h⟩, fun g e1 e2 => by
      injection e1 with e1
      injection e2 with e2
      injection e1 with e1 _
      injection e2 with e2 _
      omega, HB4.out.2.2.2.trans (hb5.mono HB4.out.2.2.1), HB5.out.2, hs5, Tc.of_tb ht5⟩)
  clear hs5 ht5 hb5 HIV HB4 HO4 HR4
  go_wp2_with fail
  go_loopw [9, 10, 13] (fun v9 v10 v wr => ∃ (t : Nat) (z : Int), t ≤ L ∧ v = .int .i64 z ∧ z = (t : Int) - 1 ∧ AgR ql gens qq A11 c11 B w3 wr t v9 v10) (fun _ _ v _ => (intOf v + 1).toNat)
  case atStart => exact ⟨L, (L : Int) - 1, Nat.le_refl _, rfl, rfl, HA5.out⟩
  case round =>
    obtain ⟨t, z, ht, rfl, hz, hR⟩ := hrel
    obtain ⟨ps, A9, n9, c9, A10, n10, c10, rfl, rfl, hdr, hps, hO9, hO10, hne, hb, hBz, hs11, ht11⟩ := hR
    have hn9 : n9 ≤ 12 := by
      have h1 := hO9.1
      have h2 := congrArg List.length hdr
      rw [List.length_map, bk_len] at h1
      rw [List.length_drop, List.length_map, HLL.out.1] at h2
      omega
    have hn10 : n10 ≤ 6 := by
      have h1 := hO10.1
      have h2 := congrArg List.length hdr
      rw [List.length_map, bn_len] at h1
      rw [List.length_drop, List.length_map, HLL.out.1] at h2
      omega
    have KR := Lib.hid (And.intro hO9 (And.intro hO10 (And.intro hne (And.intro hb (And.intro hBz (And.intro hs11 (And.intro ht11 (And.intro hdr hps))))))))
    clear hO9 hO10 hne hb hBz hdr hps hs11 ht11 HA5
    by_cases ht0 : t = 0
    case pos =>
      subst ht0
      have hz1 : z = -1 := by omega
      subst hz1
      clear hz
      have hpsm := KR.out.2.2.2.2.2.2.2.2
      have hgn : gens = ps.map ints := KR.out.2.2.2.2.2.2.2.1
      have hpl : ps.length = L := by rw [← HLL.out.1, hgn, List.length_map]
      have hlb : (bk ps).length = n9 := by have := KR.out.1.1; rwa [List.length_map] at this
      have hlx : (bn qq ps).length = n10 := by have := KR.out.2.1.1; rwa [List.length_map] at this
      have hbnp : ∀ g ∈ bn qq ps, Pm ql g := fun g hg => by
        obtain ⟨p, hp, rfl⟩ := (bn_mem qq ps g).1 hg
        exact conj_pm HQ.out.1 (hpsm p hp)
      have HRQ := Lib.hid (resG_ok (gs := ps) (by rw [← hgn]; exact HR.out.2.2) hN (by omega) hpsm)
      have HPS := Lib.hid (And.intro hpsm (And.intro hgn hpl))
      have HBW := Lib.hid (HB3.out.trans (KR.out.2.2.2.1.mono HB4s.out))
      have HCB := Lib.hid (closure_pm (gs := bk ps) (by omega) (by omega) (fun g h => hpsm g ((bk_mem ps g).1 h)) KR.out.1.ri)
      have HCX := Lib.hid (fun V (hV : Below wr.heap.size wr V) => closure_pm (gs := bn qq ps) (by omega) (by omega) hbnp (KR.out.2.1.ri.up hV))
      rw [hlb] at HCB
      rw [hlx] at HCX
      have HKR := Lib.hid (And.intro KR.out.2.2.2.1 KR.out.2.2.2.2.2.1)
      clear hpsm hgn hpl hlb hlx hbnp KR
      go_wp2_with fail
      refine HCB.out.mono ?_
      intro e w6 hcq
      obtain ⟨A14, m2, c14, ms, e2, rfl, hri2, hml2, hm42, hrs2, hb6⟩ := cq_res hcq
      have HX6 := Lib.hid (HCX.out w6 hb6)
      have HM6 := Lib.hid (And.intro hri2 (And.intro hml2 (And.intro hrs2 hb6)))
      clear hcq hri2 hml2 hrs2 hb6 HCB HCX
      go_wp2_with fail
      refine HX6.out.mono ?_
      intro e w7 hcq
      obtain ⟨A16, m3, c16, xs, e3, rfl, hri3, hml3, hm43, hrs3, hb7⟩ := cq_res hcq
      obtain ⟨he2, he3, hms, hxl, hcj, hxs⟩ := res_agree HQ.out.1 HPS.out.1 HRQ.out HM6.out.2.2.1 hrs3
      have hm2 : m2 = m := by rw [← HM6.out.2.1, hms, HR.out.2.1]
      have hm3 : m3 = m := by rw [← hml3, hxl, HR.out.2.1]
      subst he2 he3 hms hm2 hm3
      have hb17 : Below w.heap.size w w7 := HBW.out.trans ((HM6.out.2.2.2.trans (hb7.mono HM6.out.2.2.2.size)).mono HBW.out.size)
      have hb37 : Below B w3 w7 := HKR.out.1.trans ((HM6.out.2.2.2.trans (hb7.mono HM6.out.2.2.2.size)).mono (by rw [← HBE.out]; exact (show w3.heap.size ≤ wr.heap.size from HKR.out.1.size)))
      have hup : Below wr.heap.size wr w7 := HM6.out.2.2.2.trans (hb7.mono HM6.out.2.2.2.size)
      have HV := Lib.hid (And.intro (HR.out.1.up (show Below w3.heap.size w3 w7 from by rw [HBE.out]; exact hb37)) (And.intro (HM6.out.1.up hb7) (And.intro hri3 (And.intro (HKR.out.2.up hup) (And.intro (HQ.out.2.up hb17) (And.intro hb17 (And.intro HR.out.2.1 hml3)))))))
      have HCJ := Lib.hid (And.intro hcj hxs)
      have HSA := Lib.hid (show Calls Try.prog 23 #[.slice A1 m3 c1, .slice A14 m3 c14] w7 (fun e w' => e = .returned (.bool true) ∧ ∃ k, w' = w7.drewN k) from by
        have h := sameAll_any A1 c1 (ms.map ints) A14 c14 (ms.map ints) w7 HV.out.1 HV.out.2.1
        rwa [List.length_map, HV.out.2.2.2.2.2.2.1, decide_eq_true rfl] at h)
      have q1 : (e1 != e1) = false := bne_self_eq_false e1
      have q2 : ((m3 : Int) != (m3 : Int)) = false := bne_self_eq_false _
      clear hup hri3 hml3 hb7 hxs hcq hrs3 hxl hcj hm42 HM6 HR hb17 hb37 HKR HBW HX6 HI5
      go_wp2_with fail
      refine HSA.out.mono ?_
      rintro e w8 ⟨rfl, hk8⟩
      have HB8 := Lib.hid (show Below w7.heap.size w7 w8 from by obtain ⟨k, rfl⟩ := hk8; exact below_drewN w7 k)
      clear hk8 HSA
      go_wp2_with fail
      go_loopw [139] (fun v wr => ∃ j : Nat, j ≤ m3 ∧ v = .int .i64 (j : Int) ∧ Below w7.heap.size w7 wr) (fun v _ => m3 - (intOf v).toNat)
      case atStart => exact ⟨0, Nat.zero_le _, rfl, HB8.out⟩
      case round =>
        obtain ⟨j, hj, rfl, hb⟩ := hrel
        have KS := Lib.hid hb
        clear hb HB8
        by_cases hlj : j < m3
        case pos =>
          have hdl : decide ((j : Int) < (m3 : Int)) = true := decide_eq_true (by omega)
          obtain ⟨p, hp⟩ : ∃ p, ms[j]? = some p := ⟨_, List.getElem?_eq_getElem (by rw [HV.out.2.2.2.2.2.2.1]; exact hlj)⟩
          obtain ⟨hpp, hpx⟩ := HCJ.out.1 p (List.mem_of_getElem? hp)
          obtain ⟨b2, o2, Ap, cp, hA2, hbl, hc, hsi⟩ := HV.out.1.at_ (i := j) (l := ints p) (by rw [List.getElem?_map, hp]; rfl)
          subst hA2
          rw [ints_length, hpp.1] at hc
          have z0 := (KS.out.cell (p := ⟨b2, o2 + j, none⟩) hbl).trans hc
          have HPI := Lib.hid (is_pm hpp (by omega) (hsi.up KS.out))
          have HPP := Lib.hid (And.intro hpp (And.intro hpx hsi))
          have i0 : (0 : Int) ≤ (j : Int) := by omega
          have i1 : (j : Int) < (m3 : Int) := by omega
          clear hp hpp hpx hbl hc hsi
          go_wp2_with fail
          refine HPI.out.mono ?_
          rintro e w9 ⟨rfl, hb9⟩
          have HB9 := Lib.hid (KS.out.trans (hb9.mono KS.out.size))
          have HP1 := Lib.hid (product_pm HPP.out.1 HQ.out.1.vi (by omega) (HPP.out.2.2.up HB9.out) (HV.out.2.2.2.1.up HB9.out))
          clear hb9 HPI KS z0
          go_wp2_with fail
          refine HP1.out.mono ?_
          rintro e w10 ⟨C1, k1, rfl, hs1, hb10⟩
          have HB10 := Lib.hid (HB9.out.trans (hb10.mono HB9.out.size))
          have HP2 := Lib.hid (product_pm HQ.out.1 (HPP.out.1.mul HQ.out.1.vi) (by omega) (HV.out.2.2.2.2.1.up HB10.out) hs1)
          clear hb10 HP1 HB9 hs1
          go_wp2_with fail
          refine HP2.out.mono ?_
          rintro e w11 ⟨C2, k2, rfl, hs2, hb11⟩
          have HB11 := Lib.hid (HB10.out.trans (hb11.mono HB10.out.size))
          have HFI := Lib.hid (find_in (ls := xs) (p := conj qq p) HCJ.out.2 HPP.out.2.1 (conj_pm HQ.out.1 HPP.out.1).1 HV.out.2.2.2.2.2.2.2 hm43 (HV.out.2.2.1.up HB11.out) hs2)
          clear hb11 HP2 HB10 hs2
          go_wp2_with fail
          refine HFI.out.mono ?_
          rintro e w12 ⟨k3, rfl, hb12⟩
          have HB12 := Lib.hid (HB11.out.trans (hb12.mono HB11.out.size))
          clear hb12 HFI HB11
          go_wp2_with fail
          go_roundw
          case rel => exact ⟨j + 1, by omega, by go_num, HB12.out⟩
          case measure => simp [intOf]; omega
        case neg =>
          have hdl : decide ((j : Int) < (m3 : Int)) = false := decide_eq_false (by omega)
          have HF9 := Lib.hid (HV.out.2.2.2.2.2.1.trans (KS.out.mono HV.out.2.2.2.2.2.1.size))
          rcases HRQ.out with ⟨_, he, _⟩ | ⟨he, hsr, hmem, _⟩
          · subst he
            go_wp2_with fail
            go_ret
            exact ⟨rfl, HF9.out⟩
          subst he
          by_cases h200 : 200 < m3
          · have d3 : decide ((200 : Int) < (m3 : Int)) = true := decide_eq_true (by omega)
            go_wp2_with fail
            go_ret
            exact ⟨rfl, HF9.out⟩
          have d3 : decide ((200 : Int) < (m3 : Int)) = false := decide_eq_false (by omega)
          have HMS := Lib.hid (And.intro hsr hmem)
          have HC2 := Lib.hid (closure_pm (gs := ms) (N := ql) (by omega) (by rw [HV.out.2.2.2.2.2.2.1]; omega) (fun g hg => (HCJ.out.1 g hg).1) (HV.out.1.up KS.out))
          rw [HV.out.2.2.2.2.2.2.1] at HC2
          clear hsr hmem
          go_wp2_with fail
          refine HC2.out.mono ?_
          intro e w9 hcq
          obtain ⟨A22, m4, c22, ys, e4, rfl, hri4, hml4, hm44, hrs4, hb9⟩ := cq_res hcq
          rcases hrs4 with ⟨hbig, _⟩ | ⟨he4, hsr4, hmem4, _⟩
          · exact absurd ((big_same (gen_self HPS.out.1 HMS.out.2)).1 hbig) (big_list HMS.out.2 (by rw [HV.out.2.2.2.2.2.2.1]; exact hm43))
          have hys : ys = ms := maps_inj (cls_uniq HMS.out.1 hsr4 HMS.out.2 (fun p => (gen_self HPS.out.1 HMS.out.2 p).symm.trans (hmem4 p).symm))
          subst hys he4
          have hm4e : m4 = m3 := by rw [← hml4]; exact HV.out.2.2.2.2.2.2.1
          subst hm4e
          have HB9 := Lib.hid (KS.out.trans (hb9.mono KS.out.size))
          have HR9 := Lib.hid (And.intro hri4 (HF9.out.trans (hb9.mono HF9.out.size)))
          have HO1 := Lib.hid (show Calls Try.prog 21 #[.int .i64 (ql : Int), .slice A L c] w9 (fun e w' => ∃ A m c, e = .returned (.tuple #[.slice A m c, .int .i64 0]) ∧ OL w9.heap.size w' A m c ((orbs ql ps ql).map ints) ∧ Below w9.heap.size w9 w') from by
            have h := orbits_pm (gs := ps) (N := ql) (by omega) (by rw [HPS.out.2.2]; omega) HPS.out.1 (A := A) (c := c) (w := w9) (by rw [← HPS.out.2.1]; exact HRI.out.1.up HR9.out.2)
            rwa [HPS.out.2.2] at h)
          clear hcq hri4 hml4 hm44 hsr4 hmem4 hb9 HC2
          go_wp2_with fail
          refine HO1.out.mono ?_
          rintro e w10 ⟨A24, m5, c24, rfl, hol5, hb10⟩
          have HB10 := Lib.hid (HB9.out.trans (hb10.mono HB9.out.size))
          have HR10 := Lib.hid (And.intro (HR9.out.1.up hb10) (And.intro (HR9.out.2.trans (hb10.mono HR9.out.2.size)) (And.intro hol5.ri (show (orbs ql ps ql).length = m5 from by have := hol5.1; rwa [List.length_map] at this))))
          have HO2 := Lib.hid (orbits_pm (gs := ys) (N := ql) (by omega) (by rw [show ys.length = m4 from HV.out.2.2.2.2.2.2.1]; omega) (fun g hg => (HCJ.out.1 g hg).1) (HV.out.1.up HB10.out))
          rw [HV.out.2.2.2.2.2.2.1] at HO2
          clear hol5 hb10 HO1 HR9 HB9
          go_wp2_with fail
          refine HO2.out.mono ?_
          rintro e w11 ⟨A26, m6, c26, rfl, hol6, hb11⟩
          have hoe := orbs_self HPS.out.1 HMS.out.2
          have hri6 := hol6.ri
          have hm6 : (orbs ql ys ql).length = m6 := by have := hol6.1; rwa [List.length_map] at this
          rw [← hoe] at hri6 hm6
          have hm6e : m6 = m5 := by rw [← hm6]; exact HR10.out.2.2.2
          subst hm6e
          have HB11 := Lib.hid (HB10.out.trans (hb11.mono HB10.out.size))
          have HF11 := Lib.hid (HR10.out.2.1.trans (hb11.mono HR10.out.2.1.size))
          have HS1 := Lib.hid (show Calls Try.prog 23 #[.slice A1 m4 c1, .slice A22 m4 c22] w11 (fun e w' => e = .returned (.bool true) ∧ ∃ k, w' = w11.drewN k) from by
            have h := sameAll_any A1 c1 (ys.map ints) A22 c22 (ys.map ints) w11 (HV.out.1.up HB11.out) (HR10.out.1.up hb11)
            rwa [List.length_map, HV.out.2.2.2.2.2.2.1, decide_eq_true rfl] at h)
          have HS2 := Lib.hid (fun V (hV : Below w11.heap.size w11 V) => show Calls Try.prog 23 #[.slice A24 m6 c24, .slice A26 m6 c26] V (fun e w' => e = .returned (.bool true) ∧ ∃ k, w' = V.drewN k) from by
            have h := sameAll_any A24 c24 ((orbs ql ps ql).map ints) A26 c26 ((orbs ql ps ql).map ints) V ((HR10.out.2.2.1.up hb11).up hV) (hri6.up hV)
            rwa [List.length_map, HR10.out.2.2.2, decide_eq_true rfl] at h)
          clear hoe hri6 hm6 hol6 hb11 HO2 HR10 HB10
          go_wp2_with fail
          refine HS1.out.mono ?_
          rintro e w12 ⟨rfl, hk12⟩
          have HB12 := Lib.hid (show Below w11.heap.size w11 w12 from by obtain ⟨k, rfl⟩ := hk12; exact below_drewN w11 k)
          clear hk12 HS1
          go_wp2_with fail
          refine (HS2.out w12 HB12.out).mono ?_
          rintro e w13 ⟨rfl, hk13⟩
          have HB13 := Lib.hid (show Below w12.heap.size w12 w13 from by obtain ⟨k, rfl⟩ := hk13; exact below_drewN w12 k)
          clear hk13 HS2
          go_wp2_with fail
          go_ret
          exact ⟨rfl, HF11.out.trans ((HB12.out.trans (HB13.out.mono HB12.out.size)).mono HF11.out.size)⟩
    case neg =>
      obtain ⟨i, rfl⟩ : ∃ i, t = i + 1 := ⟨t - 1, by omega⟩
      have hz2 : z = (i : Int) := by omega
      subst hz2
      clear hz ht0
      have dge : decide ((0 : Int) ≤ (i : Int)) = true := decide_eq_true (by omega)
      have dge2 : (0 : Int) ≤ (i : Int) := by omega
      obtain ⟨l, hl⟩ : ∃ l, gens[i]? = some l := ⟨_, List.getElem?_eq_getElem (by rw [HLL.out.1]; omega)⟩
      have hlm := List.mem_of_getElem? hl
      have hl24 := HF.out.1 l hlm
      have hbw : Below w.heap.size w wr := HB3.out.trans (KR.out.2.2.2.1.mono HB4s.out)
      obtain ⟨b, off, Al, cl, hAe, hbl, hc, hsi⟩ := HRI.out.1.at_ hl
      subst hAe
      obtain ⟨ll, hll⟩ : ∃ ll, l.length = ll := ⟨_, rfl⟩
      have HLN := Lib.hid hll
      rw [hll] at hc
      have HC := Lib.hid (fun V (hV : Below w.heap.size w V) => (hV.cell (p := ⟨b, off + i, none⟩) hbl).trans hc)
      have HTC := Lib.hid (fun V (hV : Below w.heap.size w V) => show Tc B V Al l.length from fun hp a e => by
        obtain ⟨b', o', e', h1, _⟩ := hsi.1 (by rwa [List.length_map])
        rw [e'] at e
        injection e with e
        subst e
        have h2 := HB4s.out
        exact ⟨Nat.lt_of_lt_of_le h1 hV.size, .inl (Nat.lt_of_lt_of_le h1 h2)⟩)
      have HSL := Lib.hid hsi
      have HIS := Lib.hid (fun V (hV : Below w.heap.size w V) => isr_big Al cl l (ql : Int) V (hsi.up hV) (by omega))
      unfold QB at HIS
      rw [hll] at HIS
      have i1 : (i : Int) < (L : Int) := by omega
      have HLM := Lib.hid (And.intro hl hlm)
      have HBW := Lib.hid hbw
      have HDV := Lib.hid (show (fun w' => w'.cell? ⟨b, off + i, none⟩ = some (.slice Al ll cl)) wr.drew from HC.out _ hbw.drew)
      have HD1 := Lib.hid (fun W' (hb : Below wr.heap.size wr W') => show (fun w' => w'.cell? ⟨b, off + i, none⟩ = some (.slice Al ll cl)) W' from HC.out _ (hbw.trans (hb.mono hbw.size)))
      have HWD := Lib.hid (Below.refl wr.heap.size wr).drew
      clear hl hlm hl24 hbl hc hsi hll hbw
      go_upto_region 11 with fail
      refine wp_region_later 11 (fun w' => w'.cell? ⟨b, off + i, none⟩ = some (.slice Al ll cl)) (by kernel_rfl) ?_
      refine takeL (d := some 68) (i := 0) (v := ?v0) rfl rfl (by kernel_rfl) (by kernel_rfl) (by kernel_rfl) (fun _ _ _ h => h) rfl (by kernel_rfl) (Or.inl ⟨by rfl, ?z0⟩) HDV.out ?q0
      case z0 =>
        intro w hSw
        try dsimp only at hSw
        go_simp
        all_goals with_reducible rfl
      try simp only [Act.put, List.setIfInBounds_toArray, List.set_cons_zero, List.set_cons_succ, Array.toArray_toList]
      refine takeL (d := some 69) (i := 1) (v := ?v1) rfl rfl (by kernel_rfl) (by kernel_rfl) (by kernel_rfl) (fun _ _ _ h => h) rfl (by kernel_rfl) (Or.inl ⟨by rfl, ?z1⟩) HDV.out ?q1
      case z1 =>
        intro w hSw
        try dsimp only at hSw
        go_simp
        all_goals with_reducible rfl
      try simp only [Act.put, List.setIfInBounds_toArray, List.set_cons_zero, List.set_cons_succ, Array.toArray_toList]
      refine takeL (d := some 70) (i := 2) (v := ?v2) rfl rfl (by kernel_rfl) (by kernel_rfl) (by kernel_rfl) (fun _ _ _ h => h) rfl (by kernel_rfl) (Or.inl ⟨by rfl, ?z2⟩) HDV.out ?q2
      case z2 =>
        intro w hSw
        try dsimp only at hSw
        go_simp
        all_goals with_reducible rfl
      try simp only [Act.put, List.setIfInBounds_toArray, List.set_cons_zero, List.set_cons_succ, Array.toArray_toList]
      refine takeL (d := some 71) (i := 3) (v := ?v3) rfl rfl (by kernel_rfl) (by kernel_rfl) (by kernel_rfl) (fun _ _ _ h => h) rfl (by kernel_rfl) (Or.inl ⟨by rfl, ?z3⟩) HDV.out ?q3
      case z3 =>
        intro w hSw
        try dsimp only at hSw
        go_simp
        all_goals with_reducible rfl
      try simp only [Act.put, List.setIfInBounds_toArray, List.set_cons_zero, List.set_cons_succ, Array.toArray_toList]
      refine takeL (d := some 72) (i := 4) (v := ?v4) rfl rfl (by kernel_rfl) (by kernel_rfl) (by kernel_rfl) (fun _ _ _ h => h) rfl (by kernel_rfl) (Or.inl ⟨by rfl, ?z4⟩) HDV.out ?q4
      case z4 =>
        intro w hSw
        try dsimp only at hSw
        go_simp
        all_goals with_reducible rfl
      try simp only [Act.put, List.setIfInBounds_toArray, List.set_cons_zero, List.set_cons_succ, Array.toArray_toList]
      refine takeL (d := some 73) (i := 5) (v := ?v5) rfl rfl (by kernel_rfl) (by kernel_rfl) (by kernel_rfl) (fun _ _ _ h => h) rfl (by kernel_rfl) (Or.inl ⟨by rfl, ?z5⟩) HDV.out ?q5
      case z5 =>
        intro w hSw
        try dsimp only at hSw
        go_simp
        all_goals with_reducible rfl
      try simp only [Act.put, List.setIfInBounds_toArray, List.set_cons_zero, List.set_cons_succ, Array.toArray_toList]
      refine takeL (d := some 74) (i := 6) (v := ?v6) rfl rfl (by kernel_rfl) (by kernel_rfl) (by kernel_rfl) (fun _ _ _ h => h) rfl (by kernel_rfl) (Or.inl ⟨by rfl, ?z6⟩) HDV.out ?q6
      case z6 =>
        intro w hSw
        try dsimp only at hSw
        go_simp
        all_goals with_reducible rfl
      try simp only [Act.put, List.setIfInBounds_toArray, List.set_cons_zero, List.set_cons_succ, Array.toArray_toList]
      refine takeL (d := some 75) (i := 7) (v := ?v7) rfl rfl (by kernel_rfl) (by kernel_rfl) (by kernel_rfl) (fun _ _ _ h => h) rfl (by kernel_rfl) (Or.inl ⟨by rfl, ?z7⟩) HDV.out ?q7
      case z7 =>
        intro w hSw
        try dsimp only at hSw
        go_simp
        all_goals with_reducible rfl
      try simp only [Act.put, List.setIfInBounds_toArray, List.set_cons_zero, List.set_cons_succ, Array.toArray_toList]
      refine takeL (d := some 76) (i := 8) (v := ?v8) rfl rfl (by kernel_rfl) (by kernel_rfl) (by kernel_rfl) (fun _ _ _ h => h) rfl (by kernel_rfl) (Or.inl ⟨by rfl, ?z8⟩) HDV.out ?q8
      case z8 =>
        intro w hSw
        try dsimp only at hSw
        go_simp
        all_goals with_reducible rfl
      try simp only [Act.put, List.setIfInBounds_toArray, List.set_cons_zero, List.set_cons_succ, Array.toArray_toList]
      refine oneL (i := 9) (by kernel_rfl) rfl (fun K' hK => ?_)
      go_simp
      have hba := HWD.out.alloc HWD.out.size (.cells #[.slice Al ll cl, .slice Al ll cl] 22)
      have HBA := Lib.hid hba
      have HNB := Lib.hid (Box.new wr.drew #[.slice Al ll cl, .slice Al ll cl] 22)
      refine hK.out _ _ (fun _ => HD1.out _ HBA.out) ?_
      clear hK hba
      refine oneL (i := 10) (by kernel_rfl) rfl (fun K' hK => ?_)
      rw [if_pos (by rfl)]
      refine wp_append_om (B := B) (.tmp 68) (.tmp 77) (by rfl) A9 n9 c9 _ (by rfl) (KR.out.1.up HBA.out) wr.drew.heap.size 2 [l, l] [.slice Al ll cl, .slice Al ll cl] rfl (by omega) (by rfl) HNB.out rfl (list2 ⟨Al, cl, by rw [HLN.out]; rfl, HSL.out.up (HBW.out.trans (HBA.out.mono HBW.out.size)), HTC.out _ (HBW.out.trans (HBA.out.mono HBW.out.size))⟩ ⟨Al, cl, by rw [HLN.out]; rfl, HSL.out.up (HBW.out.trans (HBA.out.mono HBW.out.size)), HTC.out _ (HBW.out.trans (HBA.out.mono HBW.out.size))⟩) (by intro u hu; simp at hu; subst hu; rfl) (by omega) (Nat.le_trans KR.out.2.2.2.2.1 HBA.out.size) ?_
      intro g9 k9 w6 hO6 hb6 hg6 hat6
      have hb6w : Below w.heap.size w w6 := (HBW.out.trans (HBA.out.mono HBW.out.size)).trans (hb6.mono HB4s.out)
      obtain ⟨vs9, ho9⟩ := (KR.out.1.up HBA.out).own
      have hO10' := (KR.out.2.1.up HBA.out).other ho9 (fun g e1 e2 => KR.out.2.2.1 g e2 e1) hg6
      have hs11' := (KR.out.2.2.2.2.2.1.up HBA.out).grownc (B := B) (by rw [ints_length, vi_length HQ.out.1]; exact KR.out.2.2.2.2.2.2.1.up HBA.out) hg6 (Nos.own ho9)
      have ht11' := (KR.out.2.2.2.2.2.2.1.up HBA.out).grown hg6 (Nos.own ho9)
      have hne6 := om_apart (KR.out.1.up HBA.out) (KR.out.2.1.up HBA.out) KR.out.2.2.1 hat6
      have FIN := Lib.hid (And.intro hO6 (And.intro hO10' (And.intro hne6 (And.intro hb6w (And.intro (KR.out.2.2.2.1.trans ((HBA.out.mono KR.out.2.2.2.2.1).trans hb6)) (And.intro hs11' ht11'))))))
      have HBZ := Lib.hid (Nat.le_trans KR.out.2.2.2.2.1 (Nat.le_trans HBA.out.size hb6.size))
      refine hK.out _ _ (fun _ => HC.out _ FIN.out.2.2.2.1) ?_
      clear hK hO6 hb6 hg6 hat6 hb6w ho9 hO10' hne6 hs11' ht11'
      refine oneL (i := 11) (by kernel_rfl) rfl (fun K' hK => ?_)
      go_simp
      refine hK.out _ _ (fun e => by simp at e) ?_
      clear hK
      refine doneL (by kernel_rfl) ?_ _
      clear HDV HD1 HWD HBA HNB
      have z6 := HC.out w6 FIN.out.2.2.2.1
      have HI6 := Lib.hid (HIS.out w6 FIN.out.2.2.2.1)
      have HFB := Lib.hid (And.intro FIN.out.2.2.2.1 FIN.out.2.2.2.2.1)
      go_wp2_with fail
      refine HI6.out.mono ?_
      rintro e w7 ⟨rfl, hb7⟩
      have HB7 := Lib.hid (And.intro (FIN.out.2.2.2.1.trans (hb7.mono FIN.out.2.2.2.1.size)) (And.intro (FIN.out.2.2.2.2.1.trans (hb7.mono HBZ.out)) (Nat.le_trans HBZ.out hb7.size)))
      have HF7 := Lib.hid (And.intro (FIN.out.1.up hb7) (And.intro (FIN.out.2.1.up hb7) (And.intro FIN.out.2.2.1 (And.intro (FIN.out.2.2.2.2.2.1.up hb7) (FIN.out.2.2.2.2.2.2.up hb7)))))
      clear hb7 FIN HI6 HBZ z6 HFB
      cases hil : isr l (ql : Int) with
      | false =>
        obtain ⟨e110, ls0⟩ := resG_bad HR.out.2.2 hN (by rw [HLL.out.1]; exact hL6) HLM.out.2 hil
        have m0 : m = 0 := by have := HR.out.2.1; rw [ls0] at this; exact this.symm
        subst e110 m0
        clear ls0
        go_wp2_with fail
        go_ret
        exact ⟨rfl, HB7.out.1⟩
      | true =>
      obtain ⟨p, rfl, hpp⟩ := isr_ints hil
      have hllp : ll = ql := by rw [← HLN.out, ints_length, hpp.1]
      subst hllp
      have z7 := HC.out w7 HB7.out.1
      have HP1 := Lib.hid (product_pt hpp HQ.out.1.vi (by omega) (HSL.out.up HB7.out.1) HF7.out.2.2.2.1)
      have HPP := Lib.hid hpp
      clear hpp hil HIS
      go_wp2_with fail
      refine HP1.out.mono ?_
      rintro e w8 ⟨A12, c12, rfl, hs8, ht8, hb8⟩
      have HP2 := Lib.hid (product_pt HQ.out.1 (HPP.out.mul HQ.out.1.vi) (by omega) (HQ.out.2.up (HB7.out.1.trans (hb8.mono HB7.out.1.size))) hs8)
      have HB8 := Lib.hid (And.intro (HB7.out.1.trans (hb8.mono HB7.out.1.size)) (And.intro (HB7.out.2.1.trans (hb8.mono HB7.out.2.2)) (Nat.le_trans HB7.out.2.2 hb8.size)))
      have HF8 := Lib.hid (And.intro (HF7.out.1.up hb8) (And.intro (HF7.out.2.1.up hb8) (And.intro HF7.out.2.2.1 (And.intro (HF7.out.2.2.2.1.up hb8) (HF7.out.2.2.2.2.up hb8)))))
      clear hs8 ht8 hb8 HP1 HF7 HB7 z7
      go_wp2_with fail
      refine HP2.out.mono ?_
      rintro e w9 ⟨A13, c13, rfl, hs9, ht9, hb9⟩
      have HB9 := Lib.hid (And.intro (HB8.out.1.trans (hb9.mono HB8.out.1.size)) (And.intro (HB8.out.2.1.trans (hb9.mono HB8.out.2.2)) (Nat.le_trans HB8.out.2.2 hb9.size)))
      have HF9 := Lib.hid (And.intro (HF8.out.1.up hb9) (And.intro (HF8.out.2.1.up hb9) (And.intro HF8.out.2.2.1 (And.intro (HF8.out.2.2.2.1.up hb9) (HF8.out.2.2.2.2.up hb9)))))
      have HS9 := Lib.hid (And.intro hs9 (Tc.of_tb (B := B) (n := ll) ht9))
      clear hs9 ht9 hb9 HP2 HF8 HB8
      go_wp2_with (at_builtin; refine wpList_append_om (B := B) rfl (.tmp 93) (.tmp 102) rfl A10 n10 c10 _ rfl (HF9.out.2.1.up (al1 w9 (.cells #[.slice A13 ll c13] 22))) w9.heap.size 1 [ints (conj qq p)] [.slice A13 ll c13] rfl (by omega) rfl (Box.new w9 _ _) rfl (list1 ⟨A13, c13, by rw [ints_length, (conj_pm HQ.out.1 HPP.out).1]; rfl, HS9.out.1.up (al1 w9 (.cells #[.slice A13 ll c13] 22)), by rw [ints_length, (conj_pm HQ.out.1 HPP.out).1]; exact HS9.out.2.up (al1 w9 (.cells #[.slice A13 ll c13] 22))⟩) (by intro u hu; simp at hu; subst hu; rfl) (by omega) (Nat.le_trans HB9.out.2.2 (by rw [World.size_alloc]; omega)) ?_; intro g10 k10 w10 hO10 hb10 hg10 hat10; have HT := Lib.hid (And.intro hO10 (And.intro hb10 (And.intro hg10 hat10))); clear hO10 hb10 hg10 hat10)
      go_roundw
      case rel =>
        obtain ⟨hO10, hb10, hg10, hat10⟩ := HT.out
        have ha := al1 w9 (.cells #[.slice A13 ll c13] 22)
        obtain ⟨vs10, ho10⟩ := (HF9.out.2.1.up ha).own
        have hdr := KR.out.2.2.2.2.2.2.2.1
        have hps := KR.out.2.2.2.2.2.2.2.2
        have hba := ha.mono HB9.out.2.2
        refine ⟨i, (i : Int) - 1, by omega, by go_num, rfl, p :: ps, some ⟨g9, 0, none⟩, n9 + 2, k9, some ⟨g10, 0, none⟩, n10 + 1, k10, rfl, rfl, ?_, ?_, ?_, ?_, ?_, ?_, ?_, ?_, ?_⟩
        · rw [drop_here HLM.out.1, hdr]
          rfl
        · intro p' hp'
          rcases List.mem_cons.1 hp' with rfl | h
          · exact HPP.out
          · exact hps p' h
        · rw [bk_cons, List.map_append]
          exact (HF9.out.1.up ha).other ho10 (fun g e1 e2 => HF9.out.2.2.1 (by rw [e1, e2])) hg10
        · rw [bn_cons, List.map_append]
          exact hO10
        · intro g e1 e2
          exact om_apart (HF9.out.2.1.up ha) (HF9.out.1.up ha) (fun g e3 e4 => HF9.out.2.2.1 (by rw [e3, e4])) hat10 (by rw [e1, e2])
        · exact HB9.out.2.1.trans (hba.trans hb10)
        · exact Nat.le_trans HB9.out.2.2 (Nat.le_trans ha.size hb10.size)
        · exact (HF9.out.2.2.2.1.up ha).grownc (B := B) (by rw [ints_length, vi_length HQ.out.1]; exact HF9.out.2.2.2.2.up ha) hg10 (Nos.own ho10)
        · exact (HF9.out.2.2.2.2.up ha).grown hg10 (Nos.own ho10)
      case measure => simp [intOf]
end Go.Proofs.Ytobchecnfkocdaa
