/- Lists of equal tokens. -/
import Derived.Test.YticepaljociefaaDoorSame
namespace Go.Proofs.YticepaljociefaaDoor
open Go.RowKit Go.Shelf
set_option linter.unusedVariables false

set_option maxHeartbeats 4000000 in
set_option maxRecDepth 100000 in
theorem eqf_any (a b : List Tk) (A B : Option Addr) (c d : Nat) (w : World) (hA : TT w A a c) (hB : TT w B b d) :
    Calls Tryd.prog 36 #[.slice A a.length c, .slice B b.length d, .func (.func 37) #[] #[]] w (BoolPost (smt a b) w) := by
  obtain ⟨L, hL⟩ : ∃ L, a.length = L := ⟨_, rfl⟩
  obtain ⟨M, hM⟩ : ∃ M, b.length = M := ⟨_, rfl⟩
  have hL9 : L ≤ 9223372036854775807 := by rw [← hL]; have := Nat.le_trans hA.2.1 hA.2.2.1; unfold maxLen at this; omega
  have hM9 : M ≤ 9223372036854775807 := by rw [← hM]; have := Nat.le_trans hB.2.1 hB.2.2.1; unfold maxLen at this; omega
  have HA := Lib.hid (And.intro hA hB)
  have HL := Lib.hid (And.intro hL hM)
  rw [hL, hM]
  clear hA hB hL hM
  have eg := enters_of (P := Tryd.prog) Tryd.func37 (by kernel_rfl) rfl
  obtain ⟨q, hq⟩ : ∃ q, smt a b = q := ⟨_, rfl⟩
  rw [hq]
  have HQ := Lib.hid hq
  clear hq
  unfold BoolPost
  by_cases hlm : L = M
  case neg =>
    have hd : decide ((L : Int) = (M : Int)) = false := decide_eq_false (by omega)
    have hd2 : ¬ (L : Int) = (M : Int) := by omega
    have hd3 : ((L : Int) == (M : Int)) = false := by simpa using hd2
    have HE := Lib.hid (show q = false from by rw [← HQ.out]; exact smt_len a b (by rw [HL.out.1, HL.out.2]; exact hlm))
    go_enter Tryd.func36, Tryd.ntmps36
    go_wp2_with fail
    go_ret
    exact ⟨ret_b HE.out.symm, Below.refl _ _⟩
  subst hlm
  go_enter Tryd.func36, Tryd.ntmps36
  go_wp2_with fail
  go_loopw [7, 17] (fun x i wr => ∃ j : Nat, j ≤ L ∧ i = .int .i64 (j : Int) ∧ (∀ (k : Nat) x y, k < j → a[k]? = some x → b[k]? = some y → tkq x y = true) ∧ Below w.heap.size w wr) (fun _ i _ => L - (intOf i).toNat)
  case atStart => exact ⟨0, Nat.zero_le _, rfl, fun k _ _ h => absurd h (by omega), Below.refl _ _⟩
  case round =>
    obtain ⟨j, hj, rfl, hin, hb⟩ := hrel
    have HIN := Lib.hid hin
    have HB := Lib.hid hb
    clear hin hb
    by_cases hlt : j < L
    case neg =>
      have hd : decide ((j : Int) < (L : Int)) = false := decide_eq_false (by omega)
      have HE := Lib.hid (show q = true from by
        rw [← HQ.out]
        exact smt_all a b (by rw [HL.out.1, HL.out.2]) (fun i x y h1 h2 => HIN.out i x y (by have h3 := (List.getElem?_eq_some_iff.1 h1).1; have h4 := HL.out.1; omega) h1 h2))
      go_wp2_with fail
      go_ret
      exact ⟨ret_b HE.out.symm, HB.out⟩
    have hd : decide ((j : Int) < (L : Int)) = true := decide_eq_true (by omega)
    have hj0 : (0 : Int) ≤ (j : Int) := by omega
    have hjL : (j : Int) < (L : Int) := by omega
    obtain ⟨x, hx⟩ : ∃ x, a[j]? = some x := ⟨_, List.getElem?_eq_getElem (by have := HL.out.1; omega)⟩
    obtain ⟨y, hy⟩ : ∃ y, b[j]? = some y := ⟨_, List.getElem?_eq_getElem (by have := HL.out.2; omega)⟩
    obtain ⟨bA, oA, e1, hbA, x0, x1, x2, x3⟩ := HA.out.1.at_ hx
    obtain ⟨bB, oB, e2, hbB, y0, y1, y2, y3⟩ := HA.out.2.at_ hy
    subst e1 e2
    have hbb := HB.out
    have hb1 := hbb.trans ((((Below.refl wr.heap.size wr).alloc (Nat.le_refl _) (.cells #[.int .i64 x.k, .string (bs x.t), .int .i64 x.n, .int .i64 x.p] 35))).mono hbb.size)
    have z0 := (hbb.cell (p := ⟨bA, oA + j * 4, none⟩) hbA).trans x0
    have z1 := (hbb.cell (p := ⟨bA, oA + j * 4 + 1, none⟩) hbA).trans x1
    have z2 := (hbb.cell (p := ⟨bA, oA + j * 4 + 2, none⟩) hbA).trans x2
    have z3 := (hbb.cell (p := ⟨bA, oA + j * 4 + 3, none⟩) hbA).trans x3
    have v0 := (hb1.cell (p := ⟨bB, oB + j * 4, none⟩) hbB).trans y0
    have v1 := (hb1.cell (p := ⟨bB, oB + j * 4 + 1, none⟩) hbB).trans y1
    have v2 := (hb1.cell (p := ⟨bB, oB + j * 4 + 2, none⟩) hbB).trans y2
    have v3 := (hb1.cell (p := ⟨bB, oB + j * 4 + 3, none⟩) hbB).trans y3
    have HB2 := Lib.hid (hb1.trans (((Below.refl (wr.alloc (.cells #[.int .i64 x.k, .string (bs x.t), .int .i64 x.n, .int .i64 x.p] 35)).heap.size _).alloc (Nat.le_refl _) (.cells #[.int .i64 y.k, .string (bs y.t), .int .i64 y.n, .int .i64 y.p] 35)).mono hb1.size))
    have HAL := Lib.hid (fun V => alike_any x y V)
    have HXY := Lib.hid (And.intro hx hy)
    unfold tkv BoolPost at HAL
    obtain ⟨t, ht⟩ : ∃ t, tkq x y = t := ⟨_, rfl⟩
    rw [ht] at HAL
    clear hbb hb1 x0 x1 x2 x3 y0 y1 y2 y3 hbA hbB hx hy
    cases t with
    | true =>
      have HT := Lib.hid ht
      clear ht
      go_wp2_with fail
      refine (HAL.out _).mono ?_
      rintro e w' ⟨rfl, hb4⟩
      have HB3 := Lib.hid (HB2.out.trans (hb4.mono HB2.out.size))
      clear hb4 z0 z1 z2 z3 v0 v1 v2 v3
      go_wp2_with fail
      go_roundw
      case rel => exact ⟨j + 1, by omega, by go_num, fun k x' y' hk h1 h2 => by
        rcases Nat.lt_or_ge k j with h | h
        · exact HIN.out k x' y' h h1 h2
        · obtain rfl : k = j := by omega
          rw [HXY.out.1] at h1
          rw [HXY.out.2] at h2
          cases h1
          cases h2
          exact HT.out, HB3.out⟩
      case measure => simp [intOf]; omega
    | false =>
      have HE := Lib.hid (show q = false from by rw [← HQ.out]; exact smt_not a b j x y HXY.out.1 HXY.out.2 ht)
      clear ht
      go_wp2_with fail
      refine (HAL.out _).mono ?_
      rintro e w' ⟨rfl, hb4⟩
      have HB3 := Lib.hid (HB2.out.trans (hb4.mono HB2.out.size))
      clear hb4 z0 z1 z2 z3 v0 v1 v2 v3
      go_wp2_with fail
      go_ret
      exact ⟨ret_b HE.out.symm, HB3.out⟩
theorem same_any (a b : List Tk) (A B : Option Addr) (c d : Nat) (w : World) (hA : TT w A a c) (hB : TT w B b d) :
    Calls Tryd.prog 18 #[.slice A a.length c, .slice B b.length d] w (BoolPost (smt a b) w) := by
  have HC := Lib.hid (eqf_any a b A B c d w hA hB)
  unfold BoolPost at HC ⊢
  clear hA hB
  go_enter Tryd.func18, Tryd.ntmps18
  go_wp2_with fail
  refine HC.out.mono ?_
  rintro e w1 ⟨rfl, hb⟩
  have HB := Lib.hid hb
  clear hb
  go_wp2_with fail
  go_ret
  exact ⟨rfl, HB.out⟩
end Go.Proofs.YticepaljociefaaDoor
