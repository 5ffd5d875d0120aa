/- PermsOrbits. -/
import Derived.Test.YtobchecnfkocdaaPgT
import Derived.Test.YtobchecnfkocdaaBls
import Derived.Deep.CutRange
namespace Go.Proofs.Ytobchecnfkocdaa
open Go.RowKit
set_option linter.unusedVariables false
set_option linter.unusedSimpArgs false

theorem RI.same {w : World} {A : Option Addr} {ls : List (List Int)} {c b off : Nat} (h : RI w A ls c) (hA : A = some ⟨b, off, none⟩) {i : Nat} {l : List Int} (hi : ls[i]? = some l) : ∃ A' c', b < w.heap.size ∧ w.cell? ⟨b, off + i, none⟩ = some (.slice A' l.length c') ∧ Si w A' l c' := by
  obtain ⟨b', off', A', c', e, h1, h2, h3⟩ := h.at_ hi
  rw [hA] at e
  injection e with e
  injection e with e1 e2
  subst e1 e2
  exact ⟨A', c', h1, h2, h3⟩
theorem Si.same {w : World} {A : Option Addr} {l : List Int} {c b off : Nat} (h : Si w A l c) (hA : A = some ⟨b, off, none⟩) {i : Nat} {x : Int} (hi : l[i]? = some x) : b < w.heap.size ∧ w.cell? ⟨b, off + i, none⟩ = some (.int .i64 x) := by
  obtain ⟨b', off', e, h1, h2⟩ := h.at_ hi
  rw [hA] at e
  injection e with e
  injection e with e1 e2
  subst e1 e2
  exact ⟨h1, h2⟩
/-- How many map x to itself; what x is mapped to. -/
def cnt (ls : List (List Nat)) (x : Nat) : Nat := (ls.filter (fun p => p.getD x 0 == x)).length
def met (ls : List (List Nat)) (x y : Nat) : Bool := ls.any (fun p => p.getD x 0 == y)
theorem cnt_yes {ls : List (List Nat)} {j x : Nat} {p : List Nat} (hp : ls[j]? = some p) (h : p.getD x 0 = x) : cnt (ls.take (j + 1)) x = cnt (ls.take j) x + 1 := by
  unfold cnt
  rw [take_next hp, List.filter_append, List.length_append, List.filter_cons_of_pos (by simpa using h)]
  rfl
theorem cnt_no {ls : List (List Nat)} {j x : Nat} {p : List Nat} (hp : ls[j]? = some p) (h : p.getD x 0 ≠ x) : cnt (ls.take (j + 1)) x = cnt (ls.take j) x := by
  unfold cnt
  rw [take_next hp, List.filter_append, List.length_append, List.filter_cons_of_neg (by simpa using h)]
  rfl
theorem cnt_le (ls : List (List Nat)) (x : Nat) : cnt ls x ≤ ls.length := List.length_filter_le _ _
theorem met_next {ls : List (List Nat)} {j x y : Nat} {p : List Nat} (hp : ls[j]? = some p) (h : p.getD x 0 = y) (z : Nat) : (if z = y then true else met (ls.take j) x z) = met (ls.take (j + 1)) x z := by
  unfold met
  rw [take_next hp, List.any_append, List.any_cons, List.any_nil, Bool.or_false, h]
  by_cases e : z = y
  · subst e
    simp
  · have : (y == z) = false := by rw [beq_eq_false_iff_ne]; exact fun h => e h.symm
    rw [if_neg e, this, Bool.or_false]
/-- The two calls of the law have answered: valid generators, both lists. -/
structure OrbM (N : Nat) (gs ls : List (List Nat)) (n : Int) : Prop where
  hn : n = (N : Int)
  le : N ≤ 16
  pm : ∀ g ∈ gs, Pm N g
  srt : Srt (ls.map ints)
  mem : ∀ p, p ∈ ls ↔ Gen N gs p
  len : ls.length ≤ 4096

set_option maxHeartbeats 8000000 in
set_option maxRecDepth 100000 in
theorem lawOrb_any (n : Int) (A : Option Addr) (c : Nat) (gens : List (List Int)) (w : World) (hA : RI w A gens c) :
    Calls Try.prog 7 #[.int .i64 n, .slice A gens.length c] w (QB true w) := by
  have HSN := Lib.hid (sane_all w)
  unfold QB at HSN ⊢
  have HFW := Lib.hid (fun V (hV : Below w.heap.size w V) => few_any n A c gens V (hA.up hV))
  unfold FewQ at HFW
  have HCL := Lib.hid (fun V (hV : Below w.heap.size w V) => closure_any sortE n A c gens V (hA.up hV))
  have HOB := Lib.hid (fun V (hV : Below w.heap.size w V) => Orbits_any n A c gens V (hA.up hV))
  obtain ⟨L, hL⟩ : ∃ L, gens.length = L := ⟨_, rfl⟩
  rw [hL] at HFW HCL HOB ⊢
  clear hA hL
  go_enter Try.func7, Try.ntmps7
  go_wp2_with fail
  refine HSN.out.mono ?_
  rintro e w1 ⟨rfl, hb⟩
  have HB1 := Lib.hid hb
  clear hb HSN
  by_cases hn0 : n < 0
  · have d0 : decide (n < 0) = true := decide_eq_true hn0
    go_wp2_with fail
    go_ret
    exact ⟨rfl, HB1.out⟩
  have d0 : decide (n < 0) = false := decide_eq_false hn0
  go_wp2_with fail
  refine (HFW.out w1 HB1.out).mono ?_
  rintro e w2 ⟨b, rfl, rfl, hfew⟩
  cases b with
  | false =>
    go_wp2_with fail
    go_ret
    exact ⟨rfl, HB1.out⟩
  | true =>
  have HF := Lib.hid (hfew rfl)
  clear hfew HFW
  go_wp2_with fail
  refine (HCL.out w1 HB1.out).mono ?_
  intro e w3 hcl
  have hb3 : Below w1.heap.size w1 w3 := by
    rcases hcl with ⟨_, _, hb⟩ | ⟨_, N, gs, _, _, _, _, ⟨_, _, hb⟩ | ⟨_, _, _, _, _, _, _, _, _, hb⟩⟩ <;> exact hb
  have HB3 := Lib.hid (HB1.out.trans (hb3.mono HB1.out.size))
  have HO := Lib.hid (HOB.out w3 HB3.out)
  clear hb3 HOB HCL
  obtain ⟨E, hE⟩ : ∃ E, cge n gens = E := ⟨_, rfl⟩
  have HE := Lib.hid hE
  rcases hcl with ⟨h1, rfl, _⟩ | ⟨h1, N, gs, hnN, hN, hgs, hpm, hq⟩
  · rw [hE] at h1 ⊢
    go_wp2_with fail
    refine HO.out.mono ?_
    intro e w4 hob
    rcases hob with ⟨_, rfl, hb⟩ | ⟨h2, _⟩
    · rw [hE]
      have HB4 := Lib.hid (HB3.out.trans (hb.mono HB3.out.size))
      have d1 : (E == E) = true := by simp
      have d2 : (E != 0) = true := by rw [bne_iff_ne]; exact h1
      have d3 : (E == 0) = false := by rw [beq_eq_false_iff_ne]; exact h1
      clear h1 hE hb
      cases hd : (E == 2) with
      | true =>
        go_wp2_with fail
        go_ret
        exact ⟨rfl, HB4.out⟩
      | false =>
        go_wp2_with fail
        go_ret
        exact ⟨rfl, HB4.out⟩
    · exact absurd h2 (by rw [hE]; exact h1)
  · subst hnN hgs
    rcases hq with ⟨hbig, rfl, _⟩ | ⟨A1, m, c1, ls, rfl, hol, hsr, hmem, hll, _⟩
    · go_wp2_with fail
      refine HO.out.mono ?_
      intro e w4 hob
      rcases hob with ⟨h2, _⟩ | ⟨_, N', gs', _, _, _, _, A2, q, c2, rfl, hol2, hb⟩
      · exact absurd h1 h2
      have HB4 := Lib.hid (HB3.out.trans (hb.mono HB3.out.size))
      clear hb hol2 hE h1
      go_wp2_with fail
      go_ret
      exact ⟨rfl, HB4.out⟩
    go_wp2_with fail
    refine HO.out.mono ?_
    intro e w4 hob
    rcases hob with ⟨h2, _⟩ | ⟨_, N', gs', hn', _, hg', _, A2, q, c2, rfl, hol2, hb⟩
    · exact absurd h1 h2
    have e1 : N' = N := by omega
    have e2 : gs' = gs := maps_inj hg'
    subst e1 e2
    have hml : m = ls.length := by rw [← hol.1, List.length_map]
    have hql : q = (orbs N' gs' N').length := by rw [← hol2.1, List.length_map]
    have HM := Lib.hid (OrbM.mk (N := N') (gs := gs') (ls := ls) rfl (by have := HF.out.2.1; omega) hpm hsr hmem hll)
    have HV := Lib.hid (And.intro (hol.ri.up hb) (And.intro hol2.ri (And.intro (HB3.out.trans (hb.mono HB3.out.size)) (And.intro hml hql))))
    have hN16 : N' ≤ 16 := HM.out.le
    have hq16 : q ≤ N' := by rw [hql]; exact orbs_len _ _ _
    have hm4 : m ≤ 4096 := by omega
    clear hb hol hol2 hpm hsr hmem hll hml hql h1 hE HE HF HO HB3 HB1 hg' hn' d0 hn0
    have d1 : decide ((256 : Int) < (N' : Int)) = false := decide_eq_false (by omega)
    have d2 : ¬ (256 : Int) < (N' : Int) := by omega
    obtain ⟨i0, hi0, hz0, hz1, hz2⟩ := info_parts i64_info
    go_wp2_with (refine wpList_make_full _ rfl (.tmp 74) (.tmp 74) 22 rfl w4.heap.size 3 i0 (.int .i64 0) 1 Try.underlying22 hi0 hz0 hz1 .i64 .i64 N' N' N' rfl rfl rfl rfl (by rw [hz2]; omega) (le_maxLen (by omega)) (Nat.le_refl _) ?_; intro w5 hown hgr; rw [Nat.mul_one, show (Value.int .i64 0).cells = #[.int .i64 0] from rfl, toList_madeCells_one, ris_zero] at hown; have HW := Lib.hid (And.intro hown (grown_below hgr)); clear hown hgr)
    obtain ⟨BT, hBT⟩ : ∃ b, w4.heap.size = b := ⟨_, rfl⟩
    rw [hBT] at HW ⊢
    have HBT := Lib.hid hBT
    clear hBT hi0 hz0 hz1 hz2
    clear i0
    go_loopw [78] (fun v wr => ∃ (i : Nat) (F : Nat → Int), i ≤ q ∧ v = .int .i64 (i : Int) ∧ wr.ownsRow BT 3 1 (.slice (some ⟨BT, 0, none⟩) N' N') N' ((ris F N').map iv) ∧ AtR (orbs N' gs' N') N' i 0 F ∧ Below BT w4 wr) (fun v _ => q - (intOf v).toNat)
    case atStart => exact ⟨0, fun _ => 0, Nat.zero_le _, rfl, HW.out.1, AtR.start _ _, HW.out.2⟩
    case round =>
      obtain ⟨i, F, hi, rfl, hown, hat, hb⟩ := hrel
      have KR := Lib.hid (And.intro hown (And.intro hat hb))
      clear hown hat hb HW
      by_cases hlt : i < q
      case pos =>
        have hdj : decide ((i : Int) < (q : Int)) = true := decide_eq_true (by omega)
        obtain ⟨o, ho⟩ : ∃ o, (orbs N' gs' N')[i]? = some o := ⟨_, List.getElem?_eq_getElem (by rw [← HV.out.2.2.2.2]; exact hlt)⟩
        have HO := Lib.hid ho
        obtain ⟨x, hxl, hox, hxn, hxL⟩ := orbs_at ho
        have hhd : o[0]? = some x := by rw [hox]; exact orb_head HM.out.pm hxn hxL
        have hbw : Below w4.heap.size w4 wr := by rw [HBT.out]; exact KR.out.2.2
        obtain ⟨b, off, A', c', hAe, hbl, hc, hsi⟩ := HV.out.2.1.at_ (i := i) (l := ints o) (by rw [List.getElem?_map, ho]; rfl)
        have HAE := Lib.hid hAe
        subst hAe
        rw [ints_length] at hc
        have z0 := (hbw.cell (p := ⟨b, off + i, none⟩) hbl).trans hc
        obtain ⟨b', o', hAe', hbl', hc'⟩ := hsi.at_ (j := 0) (x := (x : Int)) (ints_at hhd)
        subst hAe'
        have z1 : wr.cell? ⟨b', o', none⟩ = some (.int .i64 (x : Int)) := (hbw.cell (p := ⟨b', o', none⟩) hbl').trans hc'
        have HSI := Lib.hid hsi
        have hol0 : 0 < o.length := List.length_pos_of_mem (List.mem_of_getElem? hhd)
        obtain ⟨ol, hol⟩ : ∃ ol, o.length = ol := ⟨_, rfl⟩
        have HOL := Lib.hid hol
        rw [hol] at z0 hol0
        have hol16 : ol ≤ 16 := by
          rw [← hol, hox]
          have := nd_sub _ (List.range N') ((orb_inc N' gs' x).imp (fun {a b} h => by omega)) (fun y hy => List.mem_range.2 (mem_orb.1 hy).1)
          rw [List.length_range] at this
          omega
        have dol : ((ol : Int) == 0) = false := by rw [beq_eq_false_iff_ne]; omega
        have i0 : (0 : Int) ≤ (i : Int) := by omega
        have i1 : (i : Int) < (q : Int) := by omega
        have i2 : (0 : Int) < (ol : Int) := by omega
        have HX := Lib.hid (And.intro hxl (And.intro hox hxn))
        clear hox hxn hxL hhd hc hsi hc' hbl hbl' ho hol hxl
        go_upto_region 17 with fail
        go_cut [78, 102] from 78 to 143 (fun v t wx => v = .int .i64 (i : Int) ∧ t = .bool false ∧ ∃ nq, wx = wr.drewN nq)
        case first =>
          by_cases hi0 : i = 0
          · subst hi0
            go_quiet (fail)
            go_wp2_with fail
            go_meet
            exact ⟨rfl, rfl, _, rfl⟩
          · obtain ⟨i', hi'⟩ : ∃ i', i - 1 = i' := ⟨_, rfl⟩
            have hsub : (i : Int) - 1 = (i' : Int) := by omega
            have dgt : decide ((0 : Int) < (i : Int)) = true := decide_eq_true (by omega)
            have dgt2 : decide (0 < i) = true := decide_eq_true (by omega)
            have dgt3 : (0 : Int) < (i : Int) := by omega
            have dgt4 : 0 < i := by omega
            have j0 : (0 : Int) ≤ (i' : Int) := by omega
            have j1 : (i' : Int) < (q : Int) := by omega
            obtain ⟨o2, ho2⟩ : ∃ o, (orbs N' gs' N')[i']? = some o := ⟨_, List.getElem?_eq_getElem (by rw [← HV.out.2.2.2.2]; omega)⟩
            obtain ⟨x2, hxl2, hox2, hxn2, hxL2⟩ := orbs_at ho2
            have hhd2 : o2[0]? = some x2 := by rw [hox2]; exact orb_head HM.out.pm hxn2 hxL2
            obtain ⟨A2', c2', hbl2, hc2, hsi2⟩ := HV.out.2.1.same rfl (i := i') (l := ints o2) (by rw [List.getElem?_map, ho2]; rfl)
            rw [ints_length] at hc2
            have hol2 : 0 < o2.length := List.length_pos_of_mem (List.mem_of_getElem? hhd2)
            have hbw : Below w4.heap.size w4 wr := by rw [HBT.out]; exact KR.out.2.2
            have z2 := (hbw.cell (p := ⟨b, off + i', none⟩) hbl2).trans hc2
            obtain ⟨b2', o2', hAe2, hbl2', hc2'⟩ := hsi2.at_ (j := 0) (x := (x2 : Int)) (ints_at hhd2)
            subst hAe2
            have z3 : wr.cell? ⟨b2', o2', none⟩ = some (.int .i64 (x2 : Int)) := (hbw.cell (p := ⟨b2', o2', none⟩) hbl2').trans hc2'
            have hxx : x2 < x := lsts_lt (show i' < i by omega) hxl2 HX.out.1
            have dge : decide ((x : Int) ≤ (x2 : Int)) = false := decide_eq_false (by omega)
            have dge2 : ¬ (x : Int) ≤ (x2 : Int) := by omega
            generalize o2.length = ol2 at *
            have j2 : (0 : Int) < (ol2 : Int) := by omega
            clear hxl2 hox2 hxn2 hxL2 hhd2 hc2 hsi2 hc2' hbl2 hbl2' ho2 hxx hi' hbw
            go_quiet (fail)
            go_wp2_with fail
            go_meet
            exact ⟨rfl, rfl, _, rfl⟩
        case rest =>
          obtain ⟨rfl, rfl, nq, rfl⟩ := hcut
          have KV := Lib.hid (And.intro (show (wr.drewN nq).ownsRow BT 3 1 (.slice (some ⟨BT, 0, none⟩) N' N') N' ((ris F N').map iv) from KR.out.1) (And.intro KR.out.2.1 (KR.out.2.2.trans ((below_drewN wr nq).mono (by have h1 := KR.out.2.2.size; have h2 := HBT.out; omega)))))
          clear KR z0 z1
          generalize wr.drewN nq = V at *
          go_wp2_with fail
          go_loopw [105] (fun v wr => ∃ (k : Nat) (F : Nat → Int), k ≤ ol ∧ v = .int .i64 (k : Int) ∧ wr.ownsRow BT 3 1 (.slice (some ⟨BT, 0, none⟩) N' N') N' ((ris F N').map iv) ∧ AtR (orbs N' gs' N') N' i k F ∧ Below BT w4 wr) (fun v _ => ol - (intOf v).toNat)
          case atStart => exact ⟨0, F, Nat.zero_le _, rfl, KV.out.1, KV.out.2.1, KV.out.2.2⟩
          case round =>
            obtain ⟨k, F, hk, rfl, hown, hat, hb⟩ := hrel
            have KS := Lib.hid (And.intro hown (And.intro hat hb))
            clear hown hat hb KV
            by_cases hlk : k < ol
            case neg =>
              have hdk : decide ((k : Int) < (ol : Int)) = false := decide_eq_false (by omega)
              obtain rfl : k = ol := by omega
              have HAT := Lib.hid (show AtR (orbs N' gs' N') N' (i + 1) 0 F from AtR.row HM.out.pm (by rw [HOL.out]; exact KS.out.2.1) HO.out)
              go_wp2_with fail
              go_roundw
              case rel => exact ⟨i + 1, F, by omega, by go_num, KS.out.1, HAT.out, KS.out.2.2⟩
              case measure => simp [intOf]; omega
            have hdk : decide ((k : Int) < (ol : Int)) = true := decide_eq_true (by omega)
            obtain ⟨y, hy⟩ : ∃ y, o[k]? = some y := ⟨_, List.getElem?_eq_getElem (by rw [HOL.out]; exact hlk)⟩
            have hyo := List.mem_of_getElem? hy
            have hyn : y < N' := by rw [HX.out.2.1] at hyo; exact (mem_orb.1 hyo).1
            have hF0 := KS.out.2.1.zero HM.out.pm HO.out hy hyn
            have hnx := KS.out.2.1.next HM.out.pm HO.out hy
            have hbw : Below w4.heap.size w4 wr := by rw [HBT.out]; exact KS.out.2.2
            have hcy := HSI.out.same rfl (ints_at hy)
            have z4 : wr.cell? ⟨b', o' + k, none⟩ = some (.int .i64 (y : Int)) := (hbw.cell (p := ⟨b', o' + k, none⟩) hcy.1).trans hcy.2
            have z5 : wr.cell? ⟨BT, y, none⟩ = some (.int .i64 0) := by
              rw [KS.out.1.cellAt y (by omega), List.getElem?_map, ris_at F hyn, hF0]
              rfl
            have f5 := KS.out.1.frozenAt y
            have hst := KS.out.1.stored y (.int .i64 ((i : Int) + 1))
            rw [ris_set] at hst
            have HST := Lib.hid (And.intro hst.1 (And.intro hnx (KS.out.2.2.setCell (p := ⟨BT, y, none⟩) (Nat.le_refl _) (.int .i64 ((i : Int) + 1)))))
            have y0 : decide ((y : Int) < 0) = false := decide_eq_false (by omega)
            have y1 : decide ((N' : Int) ≤ (y : Int)) = false := decide_eq_false (by omega)
            have y2 : ¬ (N' : Int) ≤ (y : Int) := by omega
            have y3 : ¬ (y : Int) < 0 := by omega
            have y4 : (0 : Int) ≤ (y : Int) := by omega
            have y5 : (y : Int) < (N' : Int) := by omega
            have k0 : (0 : Int) ≤ (k : Int) := by omega
            have k1 : (k : Int) < (ol : Int) := by omega
            have HY := Lib.hid hy
            clear hyo hF0 hnx hcy hst hy hbw
            by_cases hk0 : k = 0
            · subst hk0
              have z4' : wr.cell? ⟨b', o', none⟩ = some (.int .i64 (y : Int)) := z4
              go_wp2_with fail
              go_roundw
              case rel => exact ⟨0 + 1, _, by omega, by go_num, HST.out⟩
              case measure => simp [intOf]; omega
            · obtain ⟨k', hk'⟩ : ∃ k', k - 1 = k' := ⟨_, rfl⟩
              have hsub : (k : Int) - 1 = (k' : Int) := by omega
              have dgt : decide ((0 : Int) < (k : Int)) = true := decide_eq_true (by omega)
              have dgt2 : decide (0 < k) = true := decide_eq_true (by omega)
              have dgt3 : (0 : Int) < (k : Int) := by omega
              have dgt4 : 0 < k := by omega
              have j0 : (0 : Int) ≤ (k' : Int) := by omega
              have j1 : (k' : Int) < (ol : Int) := by omega
              obtain ⟨y', hy'⟩ : ∃ y', o[k']? = some y' := ⟨_, List.getElem?_eq_getElem (by rw [HOL.out]; omega)⟩
              have hlt' : y' < y := by
                obtain ⟨q1, q2⟩ := List.getElem?_eq_some_iff.1 hy'
                obtain ⟨q3, q4⟩ := List.getElem?_eq_some_iff.1 HY.out
                have hinc : o.Pairwise (· < ·) := by rw [HX.out.2.1]; exact orb_inc _ _ _
                have := List.pairwise_iff_getElem.1 hinc k' k q1 q3 (by omega)
                omega
              have hcy := HSI.out.same rfl (ints_at hy')
              have hbw : Below w4.heap.size w4 wr := by rw [HBT.out]; exact KS.out.2.2
              have z6 : wr.cell? ⟨b', o' + k', none⟩ = some (.int .i64 (y' : Int)) := (hbw.cell (p := ⟨b', o' + k', none⟩) hcy.1).trans hcy.2
              have dge : decide ((y : Int) ≤ (y' : Int)) = false := decide_eq_false (by omega)
              have dge2 : ¬ (y : Int) ≤ (y' : Int) := by omega
              clear hk' hy' hlt' hcy hbw
              go_wp2_with fail
              go_roundw
              case rel => exact ⟨k + 1, _, by omega, by go_num, HST.out⟩
              case measure => simp [intOf]; omega
      case neg =>
        have hdj : decide ((i : Int) < (q : Int)) = false := decide_eq_false (by omega)
        obtain rfl : i = q := by omega
        have hAT := KR.out.2.1
        rw [HV.out.2.2.2.2] at hAT
        obtain ⟨WQ, rfl⟩ : ∃ WQ, WQ = wr := ⟨_, rfl⟩
        have hbw : Below w4.heap.size w4 WQ := by rw [HBT.out]; exact KR.out.2.2
        have KQ := Lib.hid (And.intro KR.out.1 (And.intro hAT (And.intro (HV.out.1.up hbw) (And.intro (HV.out.2.1.up hbw) (And.intro (HV.out.2.2.1.trans (hbw.mono HV.out.2.2.1.size)) (And.intro HV.out.2.2.2.1 HV.out.2.2.2.2))))))
        clear hAT hbw KR HV
        go_wp2_with fail
        go_loopw [145] (fun v wr => ∃ x : Nat, x ≤ N' ∧ v = .int .i64 (x : Int) ∧ Below WQ.heap.size WQ wr) (fun v _ => N' - (intOf v).toNat)
        case atStart => exact ⟨0, Nat.zero_le _, rfl, Below.refl _ _⟩
        case round =>
          obtain ⟨x, hx, rfl, hb⟩ := hrel
          obtain ⟨WX, rfl⟩ : ∃ WX, WX = wr := ⟨_, rfl⟩
          have KX := Lib.hid hb
          clear hb
          by_cases hxn : x < N'
          case neg =>
            have hdx : decide ((x : Int) < (N' : Int)) = false := decide_eq_false (by omega)
            have HF := Lib.hid (KQ.out.2.2.2.2.1.trans (KX.out.mono KQ.out.2.2.2.2.1.size))
            go_wp2_with fail
            go_ret
            exact ⟨rfl, HF.out⟩
          have hdx : decide ((x : Int) < (N' : Int)) = true := decide_eq_true (by omega)
          obtain ⟨jx, o, ho, hxo, hFx⟩ := KQ.out.2.1.done hxn
          obtain ⟨v, hv⟩ : ∃ v, F x = v := ⟨_, rfl⟩
          have HFV := Lib.hid hv
          rw [hv] at hFx
          have hown := own_below KQ.out.1 KX.out
          have z1 : WX.cell? ⟨BT, x, none⟩ = some (.int .i64 v) := by
            rw [hown.cellAt x (by omega), List.getElem?_map, ris_at F hxn, hv]
            rfl
          have v0 : (v == 0) = false := by rw [beq_eq_false_iff_ne]; omega
          have HO := Lib.hid (And.intro ho (And.intro hxo hFx))
          have hjq : jx < i := by rw [KQ.out.2.2.2.2.2.2]; exact (List.getElem?_eq_some_iff.1 ho).1
          have HOW := Lib.hid hown
          have x0 : (0 : Int) ≤ (x : Int) := by omega
          have x1 : (x : Int) < (N' : Int) := by omega
          clear ho hxo hFx hown hv
          go_upto_region 32 with fail
          refine wp_region_later 3 (fun _ => True) (by kernel_rfl) ?_
          refine takeL (d := some 153) (i := 0) (v := ?v0) rfl rfl (by kernel_rfl) (by kernel_rfl) (by kernel_rfl) (fun _ _ _ h => h) rfl (by kernel_rfl) (Or.inl ⟨by rfl, ?y0⟩) trivial ?r0
          case y0 =>
            intro w hSw
            clear hSw
            go_simp
            all_goals with_reducible rfl
          try simp only [Act.put, List.setIfInBounds_toArray, List.set_cons_zero, List.set_cons_succ]
          refine takeL (d := some 15) (i := 2) (v := ?v2) rfl rfl (by kernel_rfl) (by kernel_rfl) (by kernel_rfl) (fun _ _ _ h => h) rfl (by kernel_rfl) (Or.inl ⟨by rfl, ?y2⟩) trivial ?r2
          case y2 =>
            intro w hSw
            clear hSw
            go_simp
            all_goals with_reducible rfl
          try simp only [Act.put, List.setIfInBounds_toArray, List.set_cons_zero, List.set_cons_succ]
          refine oneL (i := 1) (by kernel_rfl) rfl (fun K' hK => ?_)
          refine step_makeb (by rfl) (.tmp 153) (.tmp 153) (by rfl) N' (by rfl) (by rfl) (by omega) ?_
          intro wm hom hgm
          refine hK.out _ _ (fun _ => trivial) ?_
          clear hK
          refine oneL (i := 3) (by kernel_rfl) rfl (fun K' hK => ?_)
          go_simp
          refine hK.out _ _ (fun e => by simp at e) ?_
          clear hK
          refine doneL (by kernel_rfl) ?_ _
          have hsx : WX.drew.heap.size = WX.heap.size := rfl
          rw [hsx] at hom
          have HM0 := Lib.hid (And.intro hom (show Below WX.heap.size WX wm from (Below.refl WX.heap.size WX).drew.trans (grown_below hgm)))
          clear hom hgm hsx
          obtain ⟨BM, hBM⟩ : ∃ BM, WX.heap.size = BM := ⟨_, rfl⟩
          rw [hBM] at HM0 ⊢
          have HBM := Lib.hid hBM
          clear hBM z1
          go_wp2_with fail
          go_loopw [15, 157] (fun a b wr => ∃ j : Nat, j ≤ m ∧ a = .int .i64 ((cnt (ls.take j) x : Nat) : Int) ∧ b = .int .i64 (j : Int) ∧ wr.ownsRow BM 4 1 (.slice (some ⟨BM, 0, none⟩) N' N') N' (bls (met (ls.take j) x) N') ∧ Below BM WX wr) (fun _ b _ => m - (intOf b).toNat)
          case atStart => exact ⟨0, Nat.zero_le _, rfl, rfl, HM0.out.1, HM0.out.2⟩
          case round =>
            obtain ⟨j, hj, rfl, rfl, hown, hb⟩ := hrel
            have KS := Lib.hid (And.intro hown hb)
            clear hown hb HM0
            by_cases hlj : j < m
            case neg =>
              have hdk : decide ((j : Int) < (m : Int)) = false := decide_eq_false (by omega)
              obtain rfl : j = m := by omega
              obtain ⟨WR, rfl⟩ : ∃ WR, WR = wr := ⟨_, rfl⟩
              have htk : ls.take j = ls := List.take_of_length_le (by rw [← KQ.out.2.2.2.2.2.1]; exact Nat.le_refl _)
              have hoo : o = orb N' gs' x := by
                obtain ⟨z, _, hz, hzn, _⟩ := orbs_at HO.out.1
                rw [hz]
                exact orb_same HM.out.pm hzn (by rw [← hz]; exact HO.out.2.1)
              have hos := orbit_stab HM.out.pm HM.out.mem (srt_nodup HM.out.srt) hxn
              rw [← hoo, ← KQ.out.2.2.2.2.2.1] at hos
              have hmet : ∀ y ∈ o, met (ls.take j) x y = true := fun y hy => by
                rw [hoo] at hy
                obtain ⟨p, hp, e⟩ := rch_gen HM.out.pm hxn (mem_orb.1 hy).2
                rw [htk]
                exact List.any_eq_true.2 ⟨p, (HM.out.mem p).2 hp, by simpa using e⟩
              have hcp : 0 < cnt (ls.take j) x := by
                rw [htk]
                exact List.length_pos_of_mem (List.mem_filter.2 ⟨(HM.out.mem _).2 Gen.id, by rw [range_at hxn]; simp⟩)
              have hcl := cnt_le (ls.take j) x
              rw [List.length_take] at hcl
              have hc4 : cnt (ls.take j) x ≤ 4096 := by omega
              have hom : (cnt (ls.take j) x) * o.length = j := by rw [htk]; exact hos
              obtain ⟨cn, hcn⟩ : ∃ cn, cnt (ls.take j) x = cn := ⟨_, rfl⟩
              rw [hcn] at hcp hc4 hom ⊢
              obtain ⟨lo, hlo⟩ : ∃ lo, o.length = lo := ⟨_, rfl⟩
              rw [hlo] at hom
              have HLO := Lib.hid hlo
              have hmul : (cn : Int) * (lo : Int) = (j : Int) := by rw [← hom]; norm_cast
              have HME := Lib.hid hmet
              have hon : ∀ y ∈ o, y < N' := fun y hy => by rw [hoo] at hy; exact (mem_orb.1 hy).1
              have HON := Lib.hid hon
              have hbwr : Below WQ.heap.size WQ WR := KX.out.trans (show Below WQ.heap.size WX WR from KS.out.2.mono (by rw [← HBM.out]; exact KX.out.size))
              have HBW := Lib.hid hbwr
              have howr := own_below KQ.out.1 hbwr
              have z4 : WR.cell? ⟨BT, x, none⟩ = some (.int .i64 v) := by
                rw [howr.cellAt x (by omega), List.getElem?_map, ris_at F hxn, HFV.out]
                rfl
              have hv1 : v - 1 = (jx : Int) := by have := HO.out.2.2; omega
              obtain ⟨b2, off2, Ao, co, hA2, hbl, hc, hsi⟩ := KQ.out.2.2.2.1.at_ (i := jx) (l := ints o) (by rw [List.getElem?_map, HO.out.1]; rfl)
              subst hA2
              rw [ints_length, hlo] at hc
              have z2 := (hbwr.cell (p := ⟨b2, off2 + jx, none⟩) hbl).trans hc
              have HSI := Lib.hid (hsi.up hbwr)
              have c0 : ((cn : Int) == 0) = false := by rw [beq_eq_false_iff_ne]; omega
              have c1 : ((j : Int) != (j : Int)) = false := by simp
              have j0 : (0 : Int) ≤ (jx : Int) := by omega
              have j1 : (jx : Int) < (i : Int) := by omega
              have hlo16 : lo ≤ 16 := by
                rw [← hlo, hoo]
                have := nd_sub _ (List.range N') ((orb_inc N' gs' x).imp (fun {a b} h => by omega)) (fun y hy => List.mem_range.2 (mem_orb.1 hy).1)
                rw [List.length_range] at this
                omega
              clear htk hoo hos hmet hcl hom hcn hlo hon hbwr howr hbl hc hsi
              go_wp2_with fail
              go_loopw [219] (fun a wy => ∃ k : Nat, k ≤ lo ∧ a = .int .i64 (k : Int) ∧ WR = wy) (fun a _ => lo - (intOf a).toNat)
              case atStart => exact ⟨0, Nat.zero_le _, rfl, by first | rfl | trivial⟩
              case round =>
                obtain ⟨k, hk, rfl, rfl⟩ := hrel
                by_cases hkl : k < lo
                case neg =>
                  have hdk2 : decide ((k : Int) < (lo : Int)) = false := decide_eq_false (by omega)
                  go_wp2_with fail
                  go_roundw
                  case rel => exact ⟨x + 1, by omega, by go_num, HBW.out⟩
                  case measure => simp [intOf]; omega
                have hdk2 : decide ((k : Int) < (lo : Int)) = true := decide_eq_true (by omega)
                obtain ⟨y, hy⟩ : ∃ y, o[k]? = some y := ⟨_, List.getElem?_eq_getElem (by rw [HLO.out]; exact hkl)⟩
                have hym := List.mem_of_getElem? hy
                have hyn := HON.out y hym
                obtain ⟨bo, oo, hAo, hbo, hco⟩ := HSI.out.at_ (ints_at hy)
                subst hAo
                have z7 : WR.cell? ⟨BM, y, none⟩ = some (.bool true) := by
                  rw [KS.out.1.cellAt y (by omega), bls_at _ hyn, HME.out y hym]
                have k0 : (0 : Int) ≤ (k : Int) := by omega
                have k1 : (k : Int) < (lo : Int) := by omega
                have y0 : (0 : Int) ≤ (y : Int) := by omega
                have y1 : (y : Int) < (N' : Int) := by omega
                clear hy hym hbo
                go_wp2_with fail
                go_roundw
                case rel => exact ⟨k + 1, by omega, by go_num, by first | rfl | trivial⟩
                case measure => simp [intOf]; omega
            have hdk : decide ((j : Int) < (m : Int)) = true := decide_eq_true (by omega)
            obtain ⟨p, hp⟩ : ∃ p, ls[j]? = some p := ⟨_, List.getElem?_eq_getElem (by rw [← KQ.out.2.2.2.2.2.1]; exact hlj)⟩
            have hpg := (HM.out.mem p).1 (List.mem_of_getElem? hp)
            have hpm := hpg.pm HM.out.pm
            have hyn := hpm.lt hxn
            have hFy := KQ.out.2.1.same HM.out.pm hxn (gen_rch HM.out.pm hpg x hxn)
            rw [HFV.out] at hFy
            obtain ⟨y, hy⟩ : ∃ y, p.getD x 0 = y := ⟨_, rfl⟩
            have HPY := Lib.hid (And.intro hp hy)
            have hbwr : Below WQ.heap.size WQ wr := KX.out.trans (show Below WQ.heap.size WX wr from KS.out.2.mono (by rw [← HBM.out]; exact KX.out.size))
            obtain ⟨b1, off1, Ap, cp, hA1, hbl, hc, hsi⟩ := KQ.out.2.2.1.at_ (i := j) (l := ints p) (by rw [List.getElem?_map, hp]; rfl)
            subst hA1
            rw [ints_length, hpm.1] at hc
            have z2 := (hbwr.cell (p := ⟨b1, off1 + j, none⟩) hbl).trans hc
            obtain ⟨bp, op, hAp, hbl', hc'⟩ := hsi.at_ (j := x) (x := (y : Int)) (by rw [← hy, getD_get (by rw [hpm.1]; exact hxn)]; exact ints_at (List.getElem?_eq_getElem (by rw [hpm.1]; exact hxn)))
            subst hAp
            have z3 := (hbwr.cell (p := ⟨bp, op + x, none⟩) hbl').trans hc'
            have HP3 := Lib.hid (fun V' (h : Below BM WX V') => (h.cell (p := ⟨bp, op + x, none⟩) (show bp < BM by have h1 := KX.out.size; have h2 := HBM.out; omega)).trans ((KX.out.cell (p := ⟨bp, op + x, none⟩) hbl').trans hc'))
            have howr := own_below KQ.out.1 hbwr
            have z4 : wr.cell? ⟨BT, x, none⟩ = some (.int .i64 v) := by
              rw [howr.cellAt x (by omega), List.getElem?_map, ris_at F hxn, HFV.out]
              rfl
            rw [hy] at hyn hFy
            have z5 : wr.cell? ⟨BT, y, none⟩ = some (.int .i64 v) := by
              rw [howr.cellAt y (by omega), List.getElem?_map, ris_at F hyn, hFy]
              rfl
            have z6 : wr.cell? ⟨BM, y, none⟩ = some (.bool (met (ls.take j) x y)) := (KS.out.1.cellAt y (by omega)).trans (bls_at _ hyn)
            have f6 := KS.out.1.frozenAt y
            have hst := fun nq => (show (wr.drewN nq).ownsRow BM 4 1 (.slice (some ⟨BM, 0, none⟩) N' N') N' (bls (met (ls.take j) x) N') from KS.out.1).stored y (.bool true)
            have HST := Lib.hid (fun nq => And.intro (show ((wr.drewN nq).setCell ⟨BM, y, none⟩ (.bool true)).ownsRow BM 4 1 (.slice (some ⟨BM, 0, none⟩) N' N') N' (bls (met (ls.take (j + 1)) x) N') from by
              have h := (hst nq).1
              rw [bls_set, bls_eq (g := met (ls.take (j + 1)) x) (fun z _ => met_next hp hy z)] at h
              exact h) (show Below BM WX ((wr.drewN nq).setCell ⟨BM, y, none⟩ (.bool true)) from (KS.out.2.trans ((below_drewN wr nq).mono (by have h1 := (KS.out.1.lt BM rfl).2; omega))).setCell (p := ⟨BM, y, none⟩) (Nat.le_refl _) (.bool true)))
            have g0 : ((N' : Int) != (N' : Int)) = false := by simp
            have g1 : decide ((y : Int) < 0) = false := decide_eq_false (by omega)
            have g2 : ¬ (y : Int) < 0 := by omega
            have g3 : decide ((N' : Int) ≤ (y : Int)) = false := decide_eq_false (by omega)
            have g4 : ¬ (N' : Int) ≤ (y : Int) := by omega
            have g5 : (v != v) = false := by simp
            have j0 : (0 : Int) ≤ (j : Int) := by omega
            have j1 : (j : Int) < (m : Int) := by omega
            have y0 : (0 : Int) ≤ (y : Int) := by omega
            have y1 : (y : Int) < (N' : Int) := by omega
            have hcl := cnt_le (ls.take j) x
            rw [List.length_take] at hcl
            have hc4 : cnt (ls.take j) x ≤ 4096 := by omega
            clear hpg hpm hFy hbl hc hsi hbl' hc' howr hst hbwr hcl hp hy
            obtain ⟨cn, hcn⟩ : ∃ cn, cnt (ls.take j) x = cn := ⟨_, rfl⟩
            have HCN := Lib.hid hcn
            rw [hcn] at hc4 ⊢
            clear hcn
            go_upto_region 36 with fail
            go_quiet (fail)
            have hst := HST.out nq
            have HS2 := Lib.hid hst
            have e3 : (wr.drewN nq).cell? ⟨bp, op + x, none⟩ = some (.int .i64 (y : Int)) := z3
            have e6 : (wr.drewN nq).cell? ⟨BM, y, none⟩ = some (.bool (met (ls.take j) x y)) := z6
            have ef : (wr.drewN nq).frozen? ⟨BM, y, none⟩ = false := f6
            clear hst HST z2 z3 z4 z5 z6 f6
            generalize wr.drewN nq = V at *
            obtain ⟨V2, hV2⟩ : ∃ V2, V.setCell ⟨BM, y, none⟩ (.bool true) = V2 := ⟨_, rfl⟩
            rw [hV2] at HS2
            have e7 := HP3.out V2 HS2.out.2
            clear HP3
            by_cases hyx : y = x
            · have g6 : ((y : Int) == (x : Int)) = true := by rw [beq_iff_eq]; omega
              have HC := Lib.hid (show cnt (ls.take (j + 1)) x = cn + 1 by rw [← HCN.out]; exact cnt_yes HPY.out.1 (by rw [HPY.out.2, hyx]))
              clear hyx
              go_wp2_with fail
              go_roundw
              case rel => exact ⟨j + 1, by omega, by rw [HC.out]; go_num, by go_num, HS2.out⟩
              case measure => simp [intOf]; omega
            · have g6 : ((y : Int) == (x : Int)) = false := by rw [beq_eq_false_iff_ne]; omega
              have HC := Lib.hid (show cnt (ls.take (j + 1)) x = cn by rw [← HCN.out]; exact cnt_no HPY.out.1 (by rw [HPY.out.2]; exact hyx))
              clear hyx
              go_wp2_with fail
              go_roundw
              case rel => exact ⟨j + 1, by omega, by rw [HC.out], by go_num, HS2.out⟩
              case measure => simp [intOf]; omega
end Go.Proofs.Ytobchecnfkocdaa
