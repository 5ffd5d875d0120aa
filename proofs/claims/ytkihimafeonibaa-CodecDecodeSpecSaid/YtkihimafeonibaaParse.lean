/- What the reader of encodings reads, as plain Lean. -/
import Derived.Test.YtkihimafeonibaaRNum
import Derived.Test.YtkihimafeonibaaWrite
namespace Go.Proofs.Ytkihimafeonibaa
open Go.RowKit
set_option linter.unusedVariables false

/-- u values, one after the other. -/
def ploop (p : List UInt8 → Option (T × List UInt8)) : Nat → List UInt8 → Option (List T × List UInt8)
  | 0, l => some ([], l)
  | u + 1, l => match p l with
    | none => none
    | some x => match ploop p u x.2 with
      | none => none
      | some y => some (x.1 :: y.1, y.2)
def tInt (n : Int) : T := .mk 1 n ⟨#[]⟩ 0 (fun _ => .nil)
def tText (s : List UInt8) : T := .mk 2 0 ⟨s.toArray⟩ 0 (fun _ => .nil)
def tList (ts : List T) : T := .mk 3 0 ⟨#[]⟩ ts.length (fun i => ts.getD i .nil)
/-- The text of u bytes behind its length. -/
def ptext : Option (Nat × List UInt8) → Option (T × List UInt8)
  | none => none
  | some x => if x.2.length < x.1 then none else some (tText (x.2.take x.1), x.2.drop x.1)
def pint : Option (Nat × List UInt8) → Option (T × List UInt8)
  | none => none
  | some x => some (tInt (sgn x.1), x.2)
def plist (p : List UInt8 → Option (T × List UInt8)) : Option (Nat × List UInt8) → Option (List T × List UInt8)
  | none => none
  | some x => ploop p x.1 x.2
def tlist : Option (List T × List UInt8) → Option (T × List UInt8)
  | none => none
  | some x => some (tList x.1, x.2)
/-- A value whose depth is at most room, and what is left. -/
def pval : Nat → List UInt8 → Option (T × List UInt8)
  | room, [] => none
  | 0, b :: r => if b.toNat = 1 then pint (pn 0 0 r) else if b.toNat = 2 then ptext (pn 0 0 r) else none
  | room + 1, b :: r => if b.toNat = 1 then pint (pn 0 0 r) else if b.toNat = 2 then ptext (pn 0 0 r) else if b.toNat = 3 then tlist (plist (pval room) (pn 0 0 r)) else none

theorem pn_spec : ∀ (l : List UInt8) (i u x : Nat) (r : List UInt8), pn i u l = some (x, r) → i ≤ 9 → u < 2 ^ (7 * i) → x < 18446744073709551616 ∧ r.length < l.length := by
  intro l
  induction l with
  | nil => intro i u x r h; simp [pn] at h
  | cons d l ih =>
    intro i u x r h hi hu
    simp only [pn] at h
    split at h
    · cases h
    · rename_i hn
      split at h
      · rename_i h128
        have hi8 : i ≤ 8 := by omega
        have := ih (i + 1) _ x r h (by omega) (shl_lt u d.toNat i hu)
        exact ⟨this.1, by simp only [List.length_cons]; omega⟩
      · split at h
        · cases h
        · injection h with h
          injection h with h1 h2
          subst h1 h2
          exact ⟨shl_64 u d.toNat i hu (by omega), by simp⟩
theorem pn_lt {l r : List UInt8} {x : Nat} (h : pn 0 0 l = some (x, r)) : x < 18446744073709551616 ∧ r.length < l.length := pn_spec l 0 0 x r h (by omega) (by simp)

theorem ploop_len {p : List UInt8 → Option (T × List UInt8)} (hp : ∀ l t r, p l = some (t, r) → r.length < l.length) : ∀ (u : Nat) (l : List UInt8) (ts : List T) (r : List UInt8), ploop p u l = some (ts, r) → ts.length = u ∧ r.length + u ≤ l.length := by
  intro u
  induction u with
  | zero => intro l ts r h; simp [ploop] at h; obtain ⟨rfl, rfl⟩ := h; simp
  | succ u ih =>
    intro l ts r h
    simp only [ploop] at h
    split at h
    · cases h
    · rename_i x hx
      split at h
      · cases h
      · rename_i y hy
        injection h with h
        injection h with h1 h2
        subst h1 h2
        have h1 := hp l x.1 x.2 hx
        have h2 := ih _ _ _ hy
        simp only [List.length_cons]
        omega
theorem pval_len : ∀ (room : Nat) (l : List UInt8) (t : T) (r : List UInt8), pval room l = some (t, r) → r.length < l.length := by
  have hint : ∀ (b : UInt8) (l : List UInt8) t r, pint (pn 0 0 l) = some (t, r) → r.length < (b :: l).length := by
    intro b l t r h
    cases hx : pn 0 0 l with
    | none => rw [hx] at h; cases h
    | some x =>
      rw [hx] at h
      simp [pint] at h
      have := pn_lt (x := x.1) (r := x.2) hx
      rw [← h.2, List.length_cons]
      omega
  have htext : ∀ (b : UInt8) (l : List UInt8) t r, ptext (pn 0 0 l) = some (t, r) → r.length < (b :: l).length := by
    intro b l t r h
    cases hx : pn 0 0 l with
    | none => rw [hx] at h; cases h
    | some x =>
      rw [hx] at h
      simp only [ptext] at h
      have := pn_lt (x := x.1) (r := x.2) hx
      split at h
      · cases h
      · injection h with h
        injection h with h1 h2
        rw [← h2, List.length_cons, List.length_drop]
        omega
  intro room
  induction room with
  | zero =>
    intro l t r h
    cases l with
    | nil => simp [pval] at h
    | cons b l =>
      simp only [pval] at h
      split at h
      · exact hint b l t r h
      · split at h
        · exact htext b l t r h
        · cases h
  | succ room ih =>
    intro l t r h
    cases l with
    | nil => simp [pval] at h
    | cons b l =>
      simp only [pval] at h
      split at h
      · exact hint b l t r h
      · split at h
        · exact htext b l t r h
        · split at h
          · cases hx : pn 0 0 l with
            | none => rw [hx] at h; cases h
            | some x =>
              rw [hx] at h
              simp only [plist] at h
              cases hy : ploop (pval room) x.1 x.2 with
              | none => rw [hy] at h; cases h
              | some y =>
                rw [hy] at h
                simp [tlist] at h
                have h1 := pn_lt (x := x.1) (r := x.2) hx
                have h2 := ploop_len ih _ _ _ _ hy
                rw [← h.2, List.length_cons]
                omega
          · cases h
end Go.Proofs.Ytkihimafeonibaa
