/- The reference's Same and Equal. -/
import Derived.Test.YticepaljociefaaDoorSame
namespace Go.Proofs.YticepaljociefaaDoor
open Go.RowKit Go.Shelf
set_option linter.unusedVariables false
attribute [local go_sem] bs_toList bs_e

set_option maxHeartbeats 4000000 in
set_option maxRecDepth 100000 in
theorem rsame_any (a b : List Tk) (A B : Option Addr) (c d : Nat) (w : World) (hA : TT w A a c) (hB : TT w B b d) :
    Calls Tryd.prog 19 #[.slice A a.length c, .slice B b.length d] w (BoolPost (smt a b) w) := by
  obtain ⟨L, hL⟩ : ∃ L, a.length = L := ⟨_, rfl⟩
  obtain ⟨M, hM⟩ : ∃ M, b.length = M := ⟨_, rfl⟩
  have hL9 : L ≤ 9223372036854775807 := by rw [← hL]; have := Nat.le_trans hA.2.1 hA.2.2.1; unfold maxLen at this; omega
  have hM9 : M ≤ 9223372036854775807 := by rw [← hM]; have := Nat.le_trans hB.2.1 hB.2.2.1; unfold maxLen at this; omega
  have HA := Lib.hid (And.intro hA hB)
  have HL := Lib.hid (And.intro hL hM)
  rw [hL, hM]
  clear hA hB hL hM
  obtain ⟨q, hq⟩ : ∃ q, smt a b = q := ⟨_, rfl⟩
  rw [hq]
  have HQ := Lib.hid hq
  clear hq
  unfold BoolPost
  by_cases hlm : L = M
  case neg =>
    have hd : decide ((L : Int) = (M : Int)) = false := decide_eq_false (by omega)
    have hd2 : ¬ (L : Int) = (M : Int) := by omega
    have hd3 : ((L : Int) == (M : Int)) = false := by simpa using hd2
    have HE := Lib.hid (show q = false from by rw [← HQ.out]; exact smt_len a b (by rw [HL.out.1, HL.out.2]; exact hlm))
    go_enter Tryd.func19, Tryd.ntmps19
    go_wp2_with fail
    go_ret
    exact ⟨ret_b HE.out.symm, Below.refl _ _⟩
  subst hlm
  go_enter Tryd.func19, Tryd.ntmps19
  go_wp2_with fail
  go_loopw [5] (fun i wr => ∃ j : Nat, j ≤ L ∧ i = .int .i64 (j : Int) ∧ (∀ (k : Nat) x y, k < j → a[k]? = some x → b[k]? = some y → tkq x y = true) ∧ Below w.heap.size w wr) (fun i _ => L - (intOf i).toNat)
  case atStart => exact ⟨0, Nat.zero_le _, rfl, fun k _ _ h => absurd h (by omega), Below.refl _ _⟩
  case round =>
    obtain ⟨j, hj, rfl, hin, hb⟩ := hrel
    have HIN := Lib.hid hin
    have HB := Lib.hid hb
    clear hin hb
    by_cases hlt : j < L
    case neg =>
      have hd : decide ((j : Int) < (L : Int)) = false := decide_eq_false (by omega)
      have HE := Lib.hid (show q = true from by
        rw [← HQ.out]
        exact smt_all a b (by rw [HL.out.1, HL.out.2]) (fun i x y h1 h2 => HIN.out i x y (by have h3 := (List.getElem?_eq_some_iff.1 h1).1; have h4 := HL.out.1; omega) h1 h2))
      go_wp2_with fail
      go_ret
      exact ⟨ret_b HE.out.symm, HB.out⟩
    have hd : decide ((j : Int) < (L : Int)) = true := decide_eq_true (by omega)
    have hj0 : (0 : Int) ≤ (j : Int) := by omega
    have hjL : (j : Int) < (L : Int) := by omega
    obtain ⟨x, hx⟩ : ∃ x, a[j]? = some x := ⟨_, List.getElem?_eq_getElem (by have := HL.out.1; omega)⟩
    obtain ⟨y, hy⟩ : ∃ y, b[j]? = some y := ⟨_, List.getElem?_eq_getElem (by have := HL.out.2; omega)⟩
    obtain ⟨bA, oA, e1, hbA, x0, x1, x2, x3⟩ := HA.out.1.at_ hx
    obtain ⟨bB, oB, e2, hbB, y0, y1, y2, y3⟩ := HA.out.2.at_ hy
    subst e1 e2
    have hbb := HB.out
    have z0 := (hbb.cell (p := ⟨bA, oA + j * 4, none⟩) hbA).trans x0
    have z1 := (hbb.cell (p := ⟨bA, oA + j * 4 + 1, none⟩) hbA).trans x1
    have z2 := (hbb.cell (p := ⟨bA, oA + j * 4 + 2, none⟩) hbA).trans x2
    have z3 := (hbb.cell (p := ⟨bA, oA + j * 4 + 3, none⟩) hbA).trans x3
    have v0 := (hbb.cell (p := ⟨bB, oB + j * 4, none⟩) hbB).trans y0
    have v1 := (hbb.cell (p := ⟨bB, oB + j * 4 + 1, none⟩) hbB).trans y1
    have v2 := (hbb.cell (p := ⟨bB, oB + j * 4 + 2, none⟩) hbB).trans y2
    have v3 := (hbb.cell (p := ⟨bB, oB + j * 4 + 3, none⟩) hbB).trans y3
    have HXY := Lib.hid (And.intro hx hy)
    have HBN := Lib.hid (fun nq => HB.out.trans ((below_drewN wr nq).mono HB.out.size))
    clear hbb x0 x1 x2 x3 y0 y1 y2 y3 hbA hbB hx hy
    obtain ⟨xk, xt, xn, xp⟩ := x
    obtain ⟨yk, yt, yn, yp⟩ := y
    simp only at z0 z1 z2 z3 v0 v1 v2 v3
    by_cases h1 : xk = yk
    case neg =>
      have hb1 : (xk == yk) = false := by simpa using h1
      have hb2 : (xk != yk) = true := by simpa using h1
      have HE := Lib.hid (show q = false from by rw [← HQ.out]; exact smt_not a b j _ _ HXY.out.1 HXY.out.2 (by simp [tkq, h1]))
      go_upto_region 6 with fail
      go_big_quiet (fail)
      clear z0 z1 z2 z3 v0 v1 v2 v3
      go_wp2_with fail
      go_ret
      exact ⟨ret_b HE.out.symm, HBN.out nq⟩
    by_cases h2 : xt = yt
    case neg =>
      have hb1 : (xt == yt) = false := by simpa using h2
      have hb2 : (xt != yt) = true := by simpa using h2
      subst h1
      have HE := Lib.hid (show q = false from by rw [← HQ.out]; exact smt_not a b j _ _ HXY.out.1 HXY.out.2 (by simp [tkq, h2]))
      go_upto_region 6 with fail
      go_big_quiet (fail)
      clear z0 z1 z2 z3 v0 v1 v2 v3
      go_wp2_with fail
      go_ret
      exact ⟨ret_b HE.out.symm, HBN.out nq⟩
    by_cases h3 : xn = yn
    case neg =>
      have hb1 : (xn == yn) = false := by simpa using h3
      have hb2 : (xn != yn) = true := by simpa using h3
      subst h1 h2
      have HE := Lib.hid (show q = false from by rw [← HQ.out]; exact smt_not a b j _ _ HXY.out.1 HXY.out.2 (by simp [tkq, h3]))
      go_upto_region 6 with fail
      go_big_quiet (fail)
      clear z0 z1 z2 z3 v0 v1 v2 v3
      go_wp2_with fail
      go_ret
      exact ⟨ret_b HE.out.symm, HBN.out nq⟩
    subst h1 h2 h3
    go_upto_region 6 with fail
    go_big_quiet (fail)
    clear z0 z1 z2 z3 v0 v1 v2 v3
    go_wp2_with fail
    go_roundw
    case rel => exact ⟨j + 1, by omega, by go_num, fun k x' y' hk h1 h2 => by
      rcases Nat.lt_or_ge k j with h | h
      · exact HIN.out k x' y' h h1 h2
      · obtain rfl : k = j := by omega
        rw [HXY.out.1] at h1
        rw [HXY.out.2] at h2
        cases h1
        cases h2
        simp [tkq], HBN.out nq⟩
    case measure => simp [intOf]; omega

/-- Equal, places and all. -/
def pls : List Tk → List Tk → Bool
  | a :: l, b :: r => (a.p == b.p) && pls l r
  | _, _ => true
def eqt (a b : List Tk) : Bool := smt a b && pls a b
theorem pls_refl : ∀ l, pls l l = true
  | [] => rfl
  | a :: l => by simp [pls, pls_refl l]
theorem eqt_refl (l : List Tk) : eqt l l = true := by simp [eqt, smt_refl, pls_refl]
theorem pls_all : ∀ (a b : List Tk), (∀ (i : Nat) x y, a[i]? = some x → b[i]? = some y → x.p = y.p) → pls a b = true
  | [], _, _ => by unfold pls; rfl
  | _ :: _, [], _ => rfl
  | x :: a, y :: b, h => by
    unfold pls
    rw [h 0 x y rfl rfl, pls_all a b (fun i x' y' h1 h2 => h (i + 1) x' y' (by simpa using h1) (by simpa using h2))]
    simp
theorem pls_not : ∀ (a b : List Tk) (i : Nat) (x y : Tk), a[i]? = some x → b[i]? = some y → x.p ≠ y.p → pls a b = false
  | [], _, _, _, _, h, _, _ => by simp at h
  | _ :: _, [], _, _, _, _, h, _ => by simp at h
  | x :: a, y :: b, 0, x', y', h1, h2, hq => by
    simp at h1 h2
    subst h1 h2
    unfold pls
    simp [hq]
  | x :: a, y :: b, i + 1, x', y', h1, h2, hq => by
    unfold pls
    rw [pls_not a b i x' y' (by simpa using h1) (by simpa using h2) hq, Bool.and_false]
theorem smt_lens {a b : List Tk} (h : smt a b = true) : a.length = b.length := by
  rcases Nat.decEq a.length b.length with h1 | h1
  · rw [smt_len a b h1] at h; cases h
  · exact h1
set_option maxHeartbeats 4000000 in
set_option maxRecDepth 100000 in
theorem requal_any (a b : List Tk) (A B : Option Addr) (c d : Nat) (w : World) (hA : TT w A a c) (hB : TT w B b d) :
    Calls Tryd.prog 14 #[.slice A a.length c, .slice B b.length d] w (BoolPost (eqt a b) w) := by
  have HSM := Lib.hid (rsame_any a b A B c d w hA hB)
  obtain ⟨L, hL⟩ : ∃ L, a.length = L := ⟨_, rfl⟩
  obtain ⟨M, hM⟩ : ∃ M, b.length = M := ⟨_, rfl⟩
  have hL9 : L ≤ 9223372036854775807 := by rw [← hL]; have := Nat.le_trans hA.2.1 hA.2.2.1; unfold maxLen at this; omega
  have hM9 : M ≤ 9223372036854775807 := by rw [← hM]; have := Nat.le_trans hB.2.1 hB.2.2.1; unfold maxLen at this; omega
  have HA := Lib.hid (And.intro hA hB)
  have HL0 := Lib.hid (And.intro hL hM)
  rw [hL, hM] at HSM
  rw [hL, hM]
  clear hA hB hL hM
  obtain ⟨q, hq⟩ : ∃ q, eqt a b = q := ⟨_, rfl⟩
  rw [hq]
  have HQ := Lib.hid hq
  clear hq
  unfold BoolPost at HSM ⊢
  cases hs : smt a b with
  | false =>
    rw [hs] at HSM
    have HE := Lib.hid (show q = false from by rw [← HQ.out]; unfold eqt; rw [hs]; rfl)
    clear hs
    go_enter Tryd.func14, Tryd.ntmps14
    go_wp2_with fail
    refine HSM.out.mono ?_
    rintro e w1 ⟨rfl, hb⟩
    have HB := Lib.hid hb
    clear hb
    go_wp2_with fail
    go_ret
    exact ⟨ret_b HE.out.symm, HB.out⟩
  | true =>
  rw [hs] at HSM
  have HST := Lib.hid hs
  have hlm : L = M := by have := smt_lens hs; rw [HL0.out.1, HL0.out.2] at this; exact this
  subst hlm
  have HL := HL0
  clear hs
  go_enter Tryd.func14, Tryd.ntmps14
  go_wp2_with fail
  refine HSM.out.mono ?_
  rintro e w1 ⟨rfl, hb⟩
  have HB1 := Lib.hid hb
  clear hb
  go_wp2_with fail
  go_loopw [5] (fun i wr => ∃ j : Nat, j ≤ L ∧ i = .int .i64 (j : Int) ∧ (∀ (k : Nat) x y, k < j → a[k]? = some x → b[k]? = some y → x.p = y.p) ∧ Below w.heap.size w wr) (fun i _ => L - (intOf i).toNat)
  case atStart => exact ⟨0, Nat.zero_le _, rfl, fun k _ _ h => absurd h (by omega), HB1.out⟩
  case round =>
    obtain ⟨j, hj, rfl, hin, hb⟩ := hrel
    have HIN := Lib.hid hin
    have HB := Lib.hid hb
    clear hin hb
    by_cases hlt : j < L
    case neg =>
      have hd : decide ((j : Int) < (L : Int)) = false := decide_eq_false (by omega)
      have HE := Lib.hid (show q = true from by
        rw [← HQ.out]
        unfold eqt
        rw [HST.out, pls_all a b (fun i x y h1 h2 => HIN.out i x y (by have h3 := (List.getElem?_eq_some_iff.1 h1).1; have h4 := HL.out.1; omega) h1 h2)]
        rfl)
      go_wp2_with fail
      go_ret
      exact ⟨ret_b HE.out.symm, HB.out⟩
    have hd : decide ((j : Int) < (L : Int)) = true := decide_eq_true (by omega)
    have hj0 : (0 : Int) ≤ (j : Int) := by omega
    have hjL : (j : Int) < (L : Int) := by omega
    obtain ⟨x, hx⟩ : ∃ x, a[j]? = some x := ⟨_, List.getElem?_eq_getElem (by have := HL.out.1; omega)⟩
    obtain ⟨y, hy⟩ : ∃ y, b[j]? = some y := ⟨_, List.getElem?_eq_getElem (by have := HL.out.2; omega)⟩
    obtain ⟨bA, oA, e1, hbA, x0, x1, x2, x3⟩ := HA.out.1.at_ hx
    obtain ⟨bB, oB, e2, hbB, y0, y1, y2, y3⟩ := HA.out.2.at_ hy
    subst e1 e2
    have hbb := HB.out
    have z0 := (hbb.cell (p := ⟨bA, oA + j * 4, none⟩) hbA).trans x0
    have z1 := (hbb.cell (p := ⟨bA, oA + j * 4 + 1, none⟩) hbA).trans x1
    have z2 := (hbb.cell (p := ⟨bA, oA + j * 4 + 2, none⟩) hbA).trans x2
    have z3 := (hbb.cell (p := ⟨bA, oA + j * 4 + 3, none⟩) hbA).trans x3
    have v0 := (hbb.cell (p := ⟨bB, oB + j * 4, none⟩) hbB).trans y0
    have v1 := (hbb.cell (p := ⟨bB, oB + j * 4 + 1, none⟩) hbB).trans y1
    have v2 := (hbb.cell (p := ⟨bB, oB + j * 4 + 2, none⟩) hbB).trans y2
    have v3 := (hbb.cell (p := ⟨bB, oB + j * 4 + 3, none⟩) hbB).trans y3
    have HXY := Lib.hid (And.intro hx hy)
    have HBN := Lib.hid (fun nq => HB.out.trans ((below_drewN wr nq).mono HB.out.size))
    clear hbb x0 x1 x2 x3 y0 y1 y2 y3 hbA hbB hx hy
    by_cases h1 : x.p = y.p
    case neg =>
      have hb1 : (x.p == y.p) = false := by simpa using h1
      have hb2 : (x.p != y.p) = true := by simpa using h1
      have HE := Lib.hid (show q = false from by rw [← HQ.out]; exact by unfold eqt; rw [pls_not a b j _ _ HXY.out.1 HXY.out.2 h1, Bool.and_false])
      go_upto_region 6 with fail
      go_big_quiet (fail)
      clear z0 z1 z2 z3 v0 v1 v2 v3
      go_wp2_with fail
      go_ret
      exact ⟨ret_b HE.out.symm, HBN.out nq⟩
    have hb1 : (x.p == y.p) = true := by simpa using h1
    have hb2 : (x.p != y.p) = false := by simpa using h1
    go_upto_region 6 with fail
    go_big_quiet (fail)
    clear z0 z1 z2 z3 v0 v1 v2 v3
    go_wp2_with fail
    go_roundw
    case rel => exact ⟨j + 1, by omega, by go_num, fun k x' y' hk h1' h2' => by
      rcases Nat.lt_or_ge k j with h | h
      · exact HIN.out k x' y' h h1' h2'
      · obtain rfl : k = j := by omega
        rw [HXY.out.1] at h1'
        rw [HXY.out.2] at h2'
        cases h1'
        cases h2'
        exact h1, HBN.out nq⟩
    case measure => simp [intOf]; omega
end Go.Proofs.YticepaljociefaaDoor
