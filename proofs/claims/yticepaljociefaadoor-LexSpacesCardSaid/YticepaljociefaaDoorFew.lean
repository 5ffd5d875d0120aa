/- Few. -/
import Derived.Test.YticepaljociefaaDoorPlB
namespace Go.Proofs.YticepaljociefaaDoor
open Go.RowKit Go.Shelf
set_option linter.unusedVariables false
set_option linter.unusedSimpArgs false

/-- Few says no where there are many tokens. -/
def FewP (n : Nat) (w : World) (e : Ending) (w' : World) : Prop := ∃ b : Bool, e = .returned (.bool b) ∧ Below w.heap.size w w' ∧ (b = true → n ≤ 200)
theorem FewP.mk {n : Nat} {w w' : World} {b : Bool} (h1 : Below w.heap.size w w') (h2 : b = true → n ≤ 200) : FewP n w (.returned (.bool b)) w' := ⟨b, rfl, h1, h2⟩
set_option maxHeartbeats 2000000 in
set_option maxRecDepth 100000 in
theorem few_any (l : List Tk) (A : Option Addr) (c : Nat) (w : World) (hA : TT w A l c) :
    Calls Tryd.prog 15 #[.slice A l.length c] w (FewP l.length w) := by
  obtain ⟨L, hL⟩ : ∃ L, l.length = L := ⟨_, rfl⟩
  have hL9 : L ≤ 9223372036854775807 := by rw [← hL]; have := Nat.le_trans hA.2.1 hA.2.2.1; unfold maxLen at this; omega
  have HA := Lib.hid hA
  have HL := Lib.hid hL
  rw [hL]
  clear hA hL
  go_enter Tryd.func15, Tryd.ntmps15
  go_wp2_with fail
  go_loopw [3, 4] (fun v i wr => ∃ (j : Nat) (z : Int), j ≤ L ∧ v = .int .i64 z ∧ i = .int .i64 (j : Int) ∧ Below w.heap.size w wr) (fun _ i _ => L - (intOf i).toNat)
  case atStart => exact ⟨0, 0, Nat.zero_le _, rfl, rfl, Below.refl _ _⟩
  case round =>
    obtain ⟨j, z, hj, rfl, rfl, hb⟩ := hrel
    have HB := Lib.hid hb
    clear hb
    by_cases hlt : j < L
    case neg =>
      have hd : decide ((j : Int) < (L : Int)) = false := decide_eq_false (by omega)
      by_cases h2 : L ≤ 200
      · have hd2 : decide ((L : Int) ≤ 200) = true := decide_eq_true (by omega)
        have hd3 : (L : Int) ≤ 200 := by omega
        go_wp2_with fail
        go_ret
        exact FewP.mk HB.out (fun _ => h2)
      · have hd2 : decide ((L : Int) ≤ 200) = false := decide_eq_false (by omega)
        have hd3 : ¬ (L : Int) ≤ 200 := by omega
        go_wp2_with fail
        go_ret
        exact FewP.mk HB.out (fun h => by cases h)
    have hd : decide ((j : Int) < (L : Int)) = true := decide_eq_true (by omega)
    have hj0 : (0 : Int) ≤ (j : Int) := by omega
    have hjL : (j : Int) < (L : Int) := by omega
    obtain ⟨t, ht⟩ : ∃ t, l[j]? = some t := ⟨_, List.getElem?_eq_getElem (by have := HL.out; omega)⟩
    obtain ⟨bA, oA, e1, hbA, x0, x1, x2, x3⟩ := HA.out.at_ ht
    subst e1
    have z1 := (HB.out.cell (p := ⟨bA, oA + j * 4 + 1, none⟩) hbA).trans x1
    have hlen : ∀ wx, (Builtin.len_ #[9] 3 #[.string (bs t.t)]).run Tryd.prog wx = .ok (.int .i64 (t.t.length : Int)) wx := fun wx => by rw [bs_len t.t _ _ Tryd.underlying9]
    obtain ⟨q, hq⟩ : ∃ q, t.t.length = q := ⟨_, rfl⟩
    rw [hq] at hlen
    clear x0 x1 x2 x3 hbA ht hq
    go_wp2_with fail
    go_roundw
    case rel => exact ⟨j + 1, _, by omega, rfl, by go_num, HB.out⟩
    case measure => simp [intOf]; omega
end Go.Proofs.YticepaljociefaaDoor
