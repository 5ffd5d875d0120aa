/- The reference's Text. -/
import Derived.Test.YtojlibeecpmbnaaDoorRDc
namespace Go.Proofs.YtojlibeecpmbnaaDoor
open Go.RowKit Go.Shelf
set_option linter.unusedVariables false
set_option linter.unusedSimpArgs false
theorem bs_sp1 : (⟨#[32]⟩ : ByteArray) = bs [32] := rfl
attribute [local go_sem] bs_append bs_e bs_sp1

theorem jn_step {l : List Tk} {j : Nat} {t : Tk} (h : l[j]? = some t) : Lib.join ((l.take (j + 1)).map txk) [32] = Lib.join ((l.take j).map txk) [32] ++ ((if 0 < j then [32] else []) ++ txk t) := by
  have hj := (List.getElem?_eq_some_iff.1 h).1
  have h1 : l.take (j + 1) = l.take j ++ [t] := by rw [List.take_add_one, h]; rfl
  rw [h1, List.map_append]
  cases j with
  | zero => simp [Lib.join]
  | succ j =>
    cases l with
    | nil => simp at hj
    | cons a r =>
      rw [List.take_succ_cons, List.map_cons, List.cons_append, Lib.join_cons, Lib.join_cons, if_pos (Nat.succ_pos _)]
      simp [Lib.joinTail]
set_option maxHeartbeats 4000000 in
set_option maxRecDepth 100000 in
theorem rText_any (l : List Tk) (A : Option Addr) (c : Nat) (w : World) (hA : TT w A l c) (hl : l.length ≤ 1000000) :
    Calls Tryd.prog 17 #[.slice A l.length c] w (TextP (txo l) w) := by
  obtain ⟨L, hL⟩ : ∃ L, l.length = L := ⟨_, rfl⟩
  have HA := Lib.hid hA
  have HL := Lib.hid hL
  obtain ⟨o, ho⟩ : ∃ o, txo l = o := ⟨_, rfl⟩
  have HO := Lib.hid ho
  rw [ho, hL]
  rw [hL] at hl
  clear hA ho hL
  unfold TextP
  go_enter Tryd.func17, Tryd.ntmps17
  go_wp2_with fail
  go_loopw [4, 5] (fun s i wr => ∃ (j : Nat) (x : List UInt8), j ≤ L ∧ i = .int .i64 (j : Int) ∧ s = .string (bs x) ∧ (∀ (k : Nat) t, k < j → l[k]? = some t → vtk t = true) ∧ x = Lib.join ((l.take j).map txk) [32] ∧ Below w.heap.size w wr) (fun _ i _ => L - (intOf i).toNat)
  case atStart => exact ⟨0, [], Nat.zero_le _, rfl, rfl, fun k _ h => absurd h (by omega), rfl, Below.refl _ _⟩
  case round =>
    obtain ⟨j, x, hj, rfl, rfl, hin, hx, hb⟩ := hrel
    have HIN := Lib.hid hin
    have HXJ := Lib.hid hx
    have HB := Lib.hid hb
    clear hin hx hb
    by_cases hlt : j < L
    case neg =>
      have hd : decide ((j : Int) < (L : Int)) = false := decide_eq_false (by omega)
      obtain rfl : j = L := by omega
      have hall : l.all vtk = true := List.all_eq_true.2 fun t htm => by
        obtain ⟨k, hk, e⟩ := List.getElem_of_mem htm
        exact HIN.out k t (by have := HL.out; omega) (by rw [List.getElem?_eq_getElem hk, e])
      have HE := Lib.hid (show o = (x, 0) from by
        rw [← HO.out, HXJ.out, List.take_of_length_le (by rw [HL.out]; exact Nat.le_refl _)]
        exact if_pos hall)
      clear hall
      go_wp2_with fail
      refine bodyPost_ret (results_tmp2 Tryd.results17 _ _ _) rfl ?_
      rw [HE.out]
      exact ⟨rfl, HB.out⟩
    have hd : decide ((j : Int) < (L : Int)) = true := decide_eq_true (by omega)
    have hj0 : (0 : Int) ≤ (j : Int) := by omega
    have hjL : (j : Int) < (L : Int) := by omega
    obtain ⟨t, ht⟩ : ∃ t, l[j]? = some t := ⟨_, List.getElem?_eq_getElem (by have := HL.out; omega)⟩
    obtain ⟨bA, oA, e1, hbA, x0, x1, x2, x3⟩ := HA.out.at_ ht
    subst e1
    have hbb := HB.out
    have z0 := (hbb.cell (p := ⟨bA, oA + j * 4, none⟩) hbA).trans x0
    have z1 := (hbb.cell (p := ⟨bA, oA + j * 4 + 1, none⟩) hbA).trans x1
    have z2 := (hbb.cell (p := ⟨bA, oA + j * 4 + 2, none⟩) hbA).trans x2
    have z3 := (hbb.cell (p := ⟨bA, oA + j * 4 + 3, none⟩) hbA).trans x3
    have HV := Lib.hid (rValid_any t wr)
    have HW1 := Lib.hid hbb
    have HTJ := Lib.hid ht
    have HJS := Lib.hid (jn_step ht)
    unfold tkv BoolPost at HV
    clear hbb ht
    cases hv : vtk t with
    | false =>
      rw [hv] at HV
      have HE := Lib.hid (show o = ([], 100) from by
        rw [← HO.out]
        refine if_neg (fun h => ?_)
        have := List.all_eq_true.1 h t (List.mem_of_getElem? HTJ.out)
        rw [hv] at this
        cases this)
      clear hv
      go_wp2_with fail
      refine HV.out.mono ?_
      rintro e w2 ⟨rfl, hb2⟩
      have HB2 := Lib.hid (HW1.out.trans (hb2.mono HW1.out.size))
      clear hb2 z0 z1 z2 z3
      go_wp2_with fail
      refine bodyPost_ret (results_tmp2 Tryd.results17 _ _ _) rfl ?_
      rw [HE.out]
      exact ⟨rfl, HB2.out⟩
    | true =>
    rw [hv] at HV
    have HVT := Lib.hid hv
    have hxl : x.length ≤ L * 33 := by
      have := join_le ((l.take j).map txk) (fun y hy => by
        obtain ⟨t', h1, rfl⟩ := List.mem_map.1 hy
        obtain ⟨k, hk, e⟩ := List.getElem_of_mem h1
        have hk2 : k < j := by rw [List.length_take] at hk; omega
        exact vtk_len (HIN.out k t' hk2 (by rw [List.getElem_take] at e; rw [← e]; exact List.getElem?_eq_getElem _)))
      rw [← HXJ.out, List.length_map, List.length_take] at this
      omega
    have hs1 := no_sum (a := x) (b := [32]) (by simp; omega)
    have htl := vtk_len hv
    have HIN2 := Lib.hid (show ∀ (k : Nat) t, k < j + 1 → l[k]? = some t → vtk t = true from fun k t' hk h1 => by
      rcases Nat.lt_or_ge k j with h | h
      · exact HIN.out k t' h h1
      · obtain rfl : k = j := by omega
        rw [HTJ.out] at h1
        cases h1
        exact HVT.out)
    clear hv
    obtain ⟨tk, tt, tn, tp⟩ := t
    simp only at z0 z1 z2 z3 x0 x1 x2 x3 HV
    by_cases h2 : tk = 2
    · subst h2
      obtain ⟨u, rfl, hu⟩ : ∃ u : Nat, tn = (u : Int) ∧ u ≤ 1099511627776 := by
        have h := HVT.out
        unfold vtk at h
        simp at h
        exact ⟨tn.toNat, by omega, by omega⟩
      have HTX := Lib.hid (show txk ⟨2, tt, (u : Int), tp⟩ = Lib.decDigits u from by unfold txk; rw [if_pos rfl, itoa_nat (show (0 : Int) ≤ (u : Int) by omega)]; rfl)
      by_cases hp : 0 < j
      · have hdp : decide ((0 : Int) < (j : Int)) = true := decide_eq_true (by omega)
        have hdq : (0 : Int) < (j : Int) := by omega
        have hs2 := no_sum (a := x ++ [32]) (b := Lib.decDigits u) (by rw [HTX.out] at htl; simp; omega)
        have HJN := Lib.hid (show x ++ 32 :: Lib.decDigits u = Lib.join ((l.take (j + 1)).map txk) [32] from by rw [HJS.out, if_pos hp, HTX.out, HXJ.out]; rfl)
        go_wp2_with fail
        refine HV.out.mono ?_
        rintro e w2 ⟨rfl, hb2⟩
        have hw2 := HW1.out.trans (hb2.mono HW1.out.size)
        have y0 := (hw2.cell (p := ⟨bA, oA + j * 4, none⟩) hbA).trans x0
        have y1 := (hw2.cell (p := ⟨bA, oA + j * 4 + 1, none⟩) hbA).trans x1
        have y2 := (hw2.cell (p := ⟨bA, oA + j * 4 + 2, none⟩) hbA).trans x2
        have HW2 := Lib.hid hw2
        have HDE := Lib.hid (rDecimal_any u hu w2)
        clear hb2 z0 z1 z2 z3 hw2 x0 x1 x2 x3
        go_wp2_with fail
        refine HDE.out.mono ?_
        rintro e w3 ⟨rfl, hb3⟩
        have HW2 := Lib.hid (HW2.out.trans (hb3.mono HW2.out.size))
        clear hb3
        go_wp2_with fail
        go_roundw
        case rel => exact ⟨j + 1, _, by omega, by go_num, rfl, HIN2.out, HJN.out, HW2.out⟩
        case measure => simp [intOf]; omega
      · have hdp : decide ((0 : Int) < (j : Int)) = false := decide_eq_false (by omega)
        have hdq : ¬ (0 : Int) < (j : Int) := by omega
        have hs2 := no_sum (a := x) (b := Lib.decDigits u) (by rw [HTX.out] at htl; omega)
        have HJN := Lib.hid (show x ++ Lib.decDigits u = Lib.join ((l.take (j + 1)).map txk) [32] from by rw [HJS.out, if_neg hp, HTX.out, HXJ.out]; rfl)
        go_wp2_with fail
        refine HV.out.mono ?_
        rintro e w2 ⟨rfl, hb2⟩
        have hw2 := HW1.out.trans (hb2.mono HW1.out.size)
        have y0 := (hw2.cell (p := ⟨bA, oA + j * 4, none⟩) hbA).trans x0
        have y1 := (hw2.cell (p := ⟨bA, oA + j * 4 + 1, none⟩) hbA).trans x1
        have y2 := (hw2.cell (p := ⟨bA, oA + j * 4 + 2, none⟩) hbA).trans x2
        have HW2 := Lib.hid hw2
        have HDE := Lib.hid (rDecimal_any u hu w2)
        clear hb2 z0 z1 z2 z3 hw2 x0 x1 x2 x3
        go_wp2_with fail
        refine HDE.out.mono ?_
        rintro e w3 ⟨rfl, hb3⟩
        have HW2 := Lib.hid (HW2.out.trans (hb3.mono HW2.out.size))
        clear hb3
        go_wp2_with fail
        go_roundw
        case rel => exact ⟨j + 1, _, by omega, by go_num, rfl, HIN2.out, HJN.out, HW2.out⟩
        case measure => simp [intOf]; omega
    · have h2b : (tk == 2) = false := by simpa using h2
      have HTX := Lib.hid (show txk ⟨tk, tt, tn, tp⟩ = tt from by unfold txk; rw [if_neg h2])
      by_cases hp : 0 < j
      · have hdp : decide ((0 : Int) < (j : Int)) = true := decide_eq_true (by omega)
        have hdq : (0 : Int) < (j : Int) := by omega
        have hs2 := no_sum (a := x ++ [32]) (b := tt) (by rw [HTX.out] at htl; simp; omega)
        have HJN := Lib.hid (show x ++ 32 :: tt = Lib.join ((l.take (j + 1)).map txk) [32] from by rw [HJS.out, if_pos hp, HTX.out, HXJ.out]; rfl)
        go_wp2_with fail
        refine HV.out.mono ?_
        rintro e w2 ⟨rfl, hb2⟩
        have hw2 := HW1.out.trans (hb2.mono HW1.out.size)
        have y0 := (hw2.cell (p := ⟨bA, oA + j * 4, none⟩) hbA).trans x0
        have y1 := (hw2.cell (p := ⟨bA, oA + j * 4 + 1, none⟩) hbA).trans x1
        have y2 := (hw2.cell (p := ⟨bA, oA + j * 4 + 2, none⟩) hbA).trans x2
        have HW2 := Lib.hid hw2
        clear hb2 z0 z1 z2 z3 hw2 x0 x1 x2 x3
        go_wp2_with fail
        go_roundw
        case rel => exact ⟨j + 1, _, by omega, by go_num, rfl, HIN2.out, HJN.out, HW2.out⟩
        case measure => simp [intOf]; omega
      · have hdp : decide ((0 : Int) < (j : Int)) = false := decide_eq_false (by omega)
        have hdq : ¬ (0 : Int) < (j : Int) := by omega
        have hs2 := no_sum (a := x) (b := tt) (by rw [HTX.out] at htl; omega)
        have HJN := Lib.hid (show x ++ tt = Lib.join ((l.take (j + 1)).map txk) [32] from by rw [HJS.out, if_neg hp, HTX.out, HXJ.out]; rfl)
        go_wp2_with fail
        refine HV.out.mono ?_
        rintro e w2 ⟨rfl, hb2⟩
        have hw2 := HW1.out.trans (hb2.mono HW1.out.size)
        have y0 := (hw2.cell (p := ⟨bA, oA + j * 4, none⟩) hbA).trans x0
        have y1 := (hw2.cell (p := ⟨bA, oA + j * 4 + 1, none⟩) hbA).trans x1
        have y2 := (hw2.cell (p := ⟨bA, oA + j * 4 + 2, none⟩) hbA).trans x2
        have HW2 := Lib.hid hw2
        clear hb2 z0 z1 z2 z3 hw2 x0 x1 x2 x3
        go_wp2_with fail
        go_roundw
        case rel => exact ⟨j + 1, _, by omega, by go_num, rfl, HIN2.out, HJN.out, HW2.out⟩
        case measure => simp [intOf]; omega
end Go.Proofs.YtojlibeecpmbnaaDoor
