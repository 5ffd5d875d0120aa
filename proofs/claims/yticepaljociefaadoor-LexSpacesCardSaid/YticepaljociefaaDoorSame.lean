/- Equal tokens. -/
import Derived.Test.YticepaljociefaaDoorLex
import Derived.Test.YticepaljociefaaDoorSl
namespace Go.Proofs.YticepaljociefaaDoor
open Go.RowKit Go.Shelf
set_option linter.unusedVariables false
attribute [local go_sem] bs_toList bs_e

def tkv (t : Tk) : Value := .agg #[.int .i64 t.k, .string (bs t.t), .int .i64 t.n, .int .i64 t.p]
def tkq (a b : Tk) : Bool := (a.k == b.k) && (a.t == b.t) && (a.n == b.n)
theorem tkq_refl (a : Tk) : tkq a a = true := by simp [tkq]
/-- Equal as tokens. -/
def smt : List Tk → List Tk → Bool
  | [], [] => true
  | a :: l, b :: r => tkq a b && smt l r
  | _, _ => false
theorem smt_refl : ∀ l, smt l l = true
  | [] => rfl
  | a :: l => by simp [smt, tkq_refl, smt_refl l]
theorem smt_len : ∀ (a b : List Tk), a.length ≠ b.length → smt a b = false
  | [], [], h => absurd rfl h
  | [], _ :: _, _ => rfl
  | _ :: _, [], _ => rfl
  | x :: a, y :: b, h => by
    unfold smt
    rw [smt_len a b (by simpa using h), Bool.and_false]
theorem smt_all : ∀ (a b : List Tk), a.length = b.length → (∀ (i : Nat) x y, a[i]? = some x → b[i]? = some y → tkq x y = true) → smt a b = true
  | [], [], _, _ => rfl
  | [], _ :: _, h, _ => by simp at h
  | _ :: _, [], h, _ => by simp at h
  | x :: a, y :: b, h, hq => by
    unfold smt
    rw [hq 0 x y rfl rfl, Bool.true_and]
    exact smt_all a b (by simpa using h) (fun i x' y' h1 h2 => hq (i + 1) x' y' (by simpa using h1) (by simpa using h2))
theorem smt_not : ∀ (a b : List Tk) (i : Nat) (x y : Tk), a[i]? = some x → b[i]? = some y → tkq x y = false → smt a b = false
  | [], _, _, _, _, h, _, _ => by simp at h
  | _ :: _, [], _, _, _, _, h, _ => by simp at h
  | x :: a, y :: b, 0, x', y', h1, h2, hq => by
    simp at h1 h2
    subst h1 h2
    unfold smt
    rw [hq, Bool.false_and]
  | x :: a, y :: b, i + 1, x', y', h1, h2, hq => by
    unfold smt
    rw [smt_not a b i x' y' (by simpa using h1) (by simpa using h2) hq, Bool.and_false]

theorem tkcs_at : ∀ (l : List Tk) (i : Nat) (t : Tk), l[i]? = some t → ∀ j u, (tkc t)[j]? = some u → (tkcs l)[i * 4 + j]? = some u
  | [], i, t, h, _, _, _ => by simp at h
  | x :: l, 0, t, h, j, u, hj => by
    simp at h
    subst h
    show ((tkc x) ++ tkcs l)[0 * 4 + j]? = some u
    rw [Nat.zero_mul, Nat.zero_add, List.getElem?_append_left (List.getElem?_eq_some_iff.1 hj).1]
    exact hj
  | x :: l, i + 1, t, h, j, u, hj => by
    show ((tkc x) ++ tkcs l)[(i + 1) * 4 + j]? = some u
    rw [List.getElem?_append_right (by show 4 ≤ _; omega)]
    have : (i + 1) * 4 + j - (tkc x).length = i * 4 + j := by show _ - 4 = _; omega
    rw [this]
    exact tkcs_at l i t (by simpa using h) j u hj
theorem TT.at_ {w : World} {A : Option Addr} {l : List Tk} {c i : Nat} {t : Tk} (h : TT w A l c) (hi : l[i]? = some t) : ∃ b off, A = some ⟨b, off, none⟩ ∧ b < w.heap.size ∧ w.cell? ⟨b, off + i * 4, none⟩ = some (.int .i64 t.k) ∧ w.cell? ⟨b, off + i * 4 + 1, none⟩ = some (.string (bs t.t)) ∧ w.cell? ⟨b, off + i * 4 + 2, none⟩ = some (.int .i64 t.n) ∧ w.cell? ⟨b, off + i * 4 + 3, none⟩ = some (.int .i64 t.p) := by
  obtain ⟨b, off, e, hlt, hc⟩ := h.1 (by have := (List.getElem?_eq_some_iff.1 hi).1; omega)
  refine ⟨b, off, e, hlt, ?_, ?_, ?_, ?_⟩
  · exact hc _ _ (tkcs_at l i t hi 0 _ rfl)
  · have := hc _ _ (tkcs_at l i t hi 1 _ rfl); rwa [← Nat.add_assoc] at this
  · have := hc _ _ (tkcs_at l i t hi 2 _ rfl); rwa [← Nat.add_assoc] at this
  · have := hc _ _ (tkcs_at l i t hi 3 _ rfl); rwa [← Nat.add_assoc] at this

def BoolPost (b : Bool) (w : World) (e : Ending) (w' : World) : Prop := e = .returned (.bool b) ∧ Below w.heap.size w w'
theorem two_below (w : World) (o1 o2 : Obj) : Below w.heap.size w ((w.alloc o1).alloc o2) := ((Below.refl _ w).alloc (Nat.le_refl _) _).alloc (by simp) _
theorem ret_b {a b : Bool} (h : a = b) : Ending.returned (.bool a) = .returned (.bool b) := by rw [h]
set_option maxHeartbeats 1000000 in
set_option maxRecDepth 100000 in
theorem alike_any (a b : Tk) (w : World) : Calls Tryd.prog 37 #[tkv a, tkv b] w (BoolPost (tkq a b) w) := by
  unfold BoolPost tkq tkv
  obtain ⟨ak, at_, an, ap⟩ := a
  obtain ⟨bk, bt, bn, bp⟩ := b
  have HB := Lib.hid (two_below w)
  have HN : ∀ x y : Int, (x == y) = decide (x = y) := fun x y => by rw [Bool.eq_iff_iff]; simp
  simp only [HN]
  by_cases h1 : ak = bk
  · subst h1
    by_cases h2 : at_ = bt
    · subst h2
      by_cases h3 : an = bn
      · subst h3
        go_enter Tryd.func37, Tryd.ntmps37
        go_wp2_with fail
        go_ret
        exact ⟨ret_b (by simp), HB.out _ _⟩
      · have h3b : (an == bn) = false := by simpa using h3
        go_enter Tryd.func37, Tryd.ntmps37
        go_wp2_with fail
        go_ret
        exact ⟨ret_b (by simp [h3]), HB.out _ _⟩
    · have h2b : (at_ == bt) = false := by simpa using h2
      go_enter Tryd.func37, Tryd.ntmps37
      go_wp2_with fail
      go_ret
      exact ⟨ret_b (by simp [h2]), HB.out _ _⟩
  · have h1b : (ak == bk) = false := by simpa using h1
    go_enter Tryd.func37, Tryd.ntmps37
    go_wp2_with fail
    go_ret
    exact ⟨ret_b (by simp [h1]), HB.out _ _⟩
end Go.Proofs.YticepaljociefaaDoor
