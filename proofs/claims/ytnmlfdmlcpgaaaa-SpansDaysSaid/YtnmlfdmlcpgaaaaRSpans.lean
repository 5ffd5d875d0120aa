/- The reference's Spans: the normal list of days. -/
import Derived.Test.YtnmlfdmlcpgaaaaRDays
namespace Go.Proofs.Ytnmlfdmlcpgaaaa
open Go.RowKit
set_option linter.unusedVariables false

theorem nl_last {f : Nat → Bool} {m : Nat} {a : Int} {r : List (Int × Int)} (hf : f m = true) (h : nlr f m = (a, (m : Int)) :: r) :
    nl f m = r.reverse ++ [(a, (m : Int))] ∧ nl f (m + 1) = r.reverse ++ [(a, (m : Int) + 1)] := by
  refine ⟨by unfold nl; rw [h, List.reverse_cons], ?_⟩
  unfold nl
  rw [nlr, if_pos hf, h, addDay_cons, if_pos rfl, List.reverse_cons]
theorem nl_more {f : Nat → Bool} {m : Nat} {a b : Int} {r : List (Int × Int)} (hf : f m = true) (h : nlr f m = (a, b) :: r) (hb : b ≠ (m : Int)) :
    nl f m = r.reverse ++ [(a, b)] ∧ nl f (m + 1) = nl f m ++ [((m : Int), (m : Int) + 1)] := by
  refine ⟨by unfold nl; rw [h, List.reverse_cons], ?_⟩
  unfold nl
  rw [nlr, if_pos hf, h, addDay_cons, if_neg hb, List.reverse_cons]
theorem nl_first {f : Nat → Bool} {m : Nat} (hf : f m = true) (h : nlr f m = []) : nl f m = [] ∧ nl f (m + 1) = [((m : Int), (m : Int) + 1)] := by
  unfold nl
  rw [nlr, if_pos hf, h]
  exact ⟨rfl, rfl⟩
theorem svs_set (r : List (Int × Int)) (a b c : Int) : (svs (r ++ [(a, b)])).set (r.length * 2 + 1) (.int .i64 c) = svs (r ++ [(a, c)]) := by
  rw [svs_snoc, svs_snoc, List.set_append_right _ _ (by rw [svs_length]; omega), svs_length, show r.length * 2 + 1 - r.length * 2 = 1 by omega]
  rfl
theorem svs_at (r : List (Int × Int)) (a b : Int) : (svs (r ++ [(a, b)]))[r.length * 2 + 1]? = some (.int .i64 b) :=
  (svs_get (r ++ [(a, b)]) r.length (a, b) (by simp)).2

set_option maxHeartbeats 2000000 in
set_option maxRecDepth 100000 in
theorem refSpans_any (f : Nat → Bool) (g0 : Nat) (w : World) (hx : Box w g0 (bcells f) 4) :
    Calls Try.prog 27 #[.slice (some ⟨g0, 0, none⟩) 1024 1024] w (RowPost (nl f 1024) w) := by
  obtain ⟨i0, hi, hz0, hz1, hz2⟩ := info_parts span_info
  have HX := Lib.hid hx
  have hb0 := (Below.refl w.heap.size w).alloc (Nat.le_refl _) (.cells #[] 31)
  have ho0 := World.ownsRow_lit (base := w.heap.size) (e := 31) (size := 2) w #[] 0 (Nat.le_refl _) (by unfold maxLen; omega) rfl
  have HO := Lib.hid (And.intro ho0 hb0)
  clear hx hb0 ho0
  go_enter Try.func27, Try.ntmps27
  go_wp2_with fail
  go_loopw [3, 4, 5] (fun v i _ wr => ∃ m : Nat, m ≤ 1024 ∧ i = .int .i64 m ∧ wr.ownsRow w.heap.size 31 2 v (nl f m).length (svs (nl f m)) ∧ Below w.heap.size w wr) (fun _ i _ _ => 1024 - (intOf i).toNat)
  case atStart => exact ⟨0, by omega, rfl, HO.out.1, HO.out.2⟩
  case round =>
    clear HO
    obtain ⟨m, hm, rfl, hrow, hbw⟩ := hrel
    obtain ⟨A1, c1, rfl⟩ := own_form hrow
    have HR := Lib.hid hrow
    have HB := Lib.hid hbw
    clear hrow hbw
    by_cases hlt : m < 1024
    · have cp := (HX.out.below HB.out).cell m
      rw [show (bcells f)[m]? = some (.bool (f m)) from arr_get _ _ _ hlt] at cp
      have b1 : (0 : Int) ≤ (m : Int) ∧ (m : Int) < 1024 := by omega
      cases hf : f m
      · rw [hf] at cp
        have HE := Lib.hid (nl_no hf)
        go_wp2_with fail
        go_roundw
        case rel =>
          refine ⟨m + 1, by omega, by go_num, ?_, HB.out⟩
          rw [HE.out]
          exact HR.out
        case measure => simp [intOf]; omega
      · rw [hf] at cp
        have hlen := nl_length f m
        have hnl : (nl f m).length = (nlr f m).length := by unfold nl; rw [List.length_reverse]
        have hr := HR.out
        clear HR
        generalize hN : (nl f m).length = N at *
        generalize hX : svs (nl f m) = X at *
        have HN := Lib.hid (And.intro hN hX)
        clear hN hX
        have hsz := HB.out.size
        rcases hl : nlr f m with _ | ⟨⟨a, b⟩, r⟩
        · obtain ⟨e1, e2⟩ := nl_first hf hl
          rw [hl] at hnl
          simp only [List.length_nil] at hnl
          have HN0 := Lib.hid hnl
          have d0 : decide (0 < N) = false := decide_eq_false (by omega)
          have hN1 : N ≤ 1000 := by omega
          have HE := Lib.hid (show nl f (m + 1) = nl f m ++ [((m : Int), (m : Int) + 1)] by rw [e1, e2]; rfl)
          clear e1 e2 hl hlen hnl
          have ha := hr.alloc (.cells #[.int .i64 (m : Int), .int .i64 ((m : Int) + 1)] 31)
          clear hr
          go_wp2_with (at_builtin; refine wpList_append_own _ rfl (.tmp 39) (.tmp 44) 22 rfl w.heap.size 31 i0 (.agg #[.int .i64 0, .int .i64 0]) 2 16 Try.underlying22 hi hz0 hz1 hz2 rfl (by decide) _ N X rfl ha ⟨wr.heap.size, 0, none⟩ 1 1 [.int .i64 (m : Int), .int .i64 ((m : Int) + 1)] rfl rfl (two_new _ _ _ _) (by simp [Value.oneCell']) (le_maxLen (by omega)) (by omega) (by simp; omega) ?_; intro v1 w1 hown1 hg1 _; obtain ⟨A2, c2, rfl⟩ := own_form hown1; have hq := HB.out.alloc hsz (.cells #[.int .i64 (m : Int), .int .i64 ((m : Int) + 1)] 31); have hbw1 := hq.grown hg1 hq.size (fun i hi => (ha.lt i hi).1); clear ha hg1)
          go_roundw
          case rel =>
            refine ⟨m + 1, by omega, by go_num, ?_, hbw1⟩
            rw [HE.out, List.length_append, HN.out.1, svs_snoc, HN.out.2]
            exact hown1
          case measure => simp [intOf]; omega
        · rw [hl] at hnl
          rw [List.length_cons] at hnl
          generalize hL : r.length = L at *
          subst hnl
          obtain ⟨gr, cr, hv, hgb, hgl⟩ := hr.form (by omega)
          injection hv with hA _ _
          subst hA
          have hx1 : X = svs (r.reverse ++ [(a, b)]) := by
            rw [← HN.out.2]
            unfold nl
            rw [hl, List.reverse_cons]
          have hc := hr.cellAt (L * 2 + 1) (by omega)
          rw [show X[L * 2 + 1]? = some (.int .i64 b) by rw [hx1, ← hL, ← List.length_reverse]; exact svs_at _ _ _] at hc
          have hfz := hr.frozenAt (L * 2 + 1)
          have b2 : (0 : Int) ≤ (L : Int) ∧ L ≤ 1024 := by omega
          by_cases hbm : b = (m : Int)
          · subst hbm
            obtain ⟨e1, e2⟩ := nl_last hf hl
            have HE := Lib.hid e2
            have HS := Lib.hid (hr.stored (L * 2 + 1) (.int .i64 ((m : Int) + 1)))
            have HL := Lib.hid (And.intro hL hx1)
            clear e1 e2 hl hlen hr hL hx1
            go_wp2_with fail
            go_roundw
            case rel =>
              refine ⟨m + 1, by omega, by go_num, ?_, HB.out.setCell hgb _⟩
              rw [HE.out, List.length_append, List.length_reverse, HL.out.1]
              have := HS.out.1
              rw [HL.out.2, ← HL.out.1, ← List.length_reverse, svs_set, List.length_reverse, HL.out.1] at this
              exact this
            case measure => simp [intOf]; omega
          · obtain ⟨e1, e2⟩ := nl_more hf hl hbm
            have HE := Lib.hid e2
            have ha := hr.alloc (.cells #[.int .i64 (m : Int), .int .i64 ((m : Int) + 1)] 31)
            have HL := Lib.hid (And.intro hL hx1)
            clear e1 e2 hl hlen hr hL hx1
            go_wp2_with (at_builtin; refine wpList_append_own _ rfl (.tmp 39) (.tmp 44) 22 rfl w.heap.size 31 i0 (.agg #[.int .i64 0, .int .i64 0]) 2 16 Try.underlying22 hi hz0 hz1 hz2 rfl (by decide) _ (L + 1) X rfl ha ⟨wr.heap.size, 0, none⟩ 1 1 [.int .i64 (m : Int), .int .i64 ((m : Int) + 1)] rfl rfl (two_new _ _ _ _) (by simp [Value.oneCell']) (le_maxLen (by omega)) (by omega) (by simp; omega) ?_; intro v1 w1 hown1 hg1 _; obtain ⟨A2, c2, rfl⟩ := own_form hown1; have hq := HB.out.alloc hsz (.cells #[.int .i64 (m : Int), .int .i64 ((m : Int) + 1)] 31); have hbw1 := hq.grown hg1 hq.size (fun i hi => (ha.lt i hi).1); clear ha hg1)
            go_roundw
            case rel =>
              refine ⟨m + 1, by omega, by go_num, ?_, hbw1⟩
              rw [HE.out, List.length_append, HN.out.1, svs_snoc, HN.out.2]
              exact hown1
            case measure => simp [intOf]; omega
    · obtain rfl : m = 1024 := by omega
      obtain ⟨A2, c2, e2, hS⟩ := Sl.of_own HR.out
      injection e2 with eA eL eC
      subst eA eC
      have HS := Lib.hid hS
      clear hS eL
      go_wp2_with fail
      go_ret
      exact ⟨A1, c1, rfl, HS.out, HB.out⟩
end Go.Proofs.Ytnmlfdmlcpgaaaa
