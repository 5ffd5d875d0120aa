/- Covering, plainly. -/
import Derived.Test.YtnmlfdmlcpgaaaaAlg
namespace Go.Proofs.Ytnmlfdmlcpgaaaa
open Go.RowKit
set_option linter.unusedVariables false

theorem cov_ge {l : List (Int × Int)} {a b : Int} (h : b ≤ a) : cov l (a, b) = true := by unfold cov; simp [h]
theorem cov_out {l : List (Int × Int)} {a b : Int} (h : a < b) (h2 : 1024 < b) : cov l (a, b) = false := by
  unfold cov
  simp only []
  rw [if_neg (by omega), if_pos (by simp [h2])]
theorem cov_iff {l : List (Int × Int)} {p q : Nat} (hq : q ≤ 1024) : cov l ((p : Int), (q : Int)) = true ↔ ∀ k, p ≤ k → k < q → hasB l k = true := by
  unfold cov
  simp only []
  by_cases h : (q : Int) ≤ (p : Int)
  · rw [if_pos h]
    constructor
    · intro _ k h1 h2; omega
    · intro _; rfl
  · rw [if_neg h, if_neg (by simp; omega), decide_eq_true_eq]
    constructor
    · intro H k h1 h2
      have := H (k - p) (by omega)
      rw [show (p : Int).toNat + (k - p) = k by omega] at this
      exact this
    · intro H j hj
      exact H _ (by omega) (by omega)
theorem cov_minus {l : List (Int × Int)} {p q : Nat} (hq : q ≤ 1024) : cov l ((p : Int), (q : Int)) = decide ((Mn [((p : Int), (q : Int))] l).length = 0) := by
  rw [Bool.eq_iff_iff, cov_iff hq, decide_eq_true_eq, List.length_eq_zero_iff]
  unfold Mn
  rw [nl_nil]
  have hb : ∀ k, hasB [((p : Int), (q : Int))] k = true ↔ p ≤ k ∧ k < q := by
    intro k
    rw [hasB_iff]
    simp
  constructor
  · intro H k hk
    by_cases e : hasB [((p : Int), (q : Int))] k = true
    · have := H k ((hb k).1 e).1 ((hb k).1 e).2
      rw [this]; simp
    · simp at e; simp [e]
  · intro H k h1 h2
    have := H k (by omega)
    rw [(hb k).2 ⟨h1, h2⟩] at this
    simpa using this
theorem cov_cut {l : List (Int × Int)} {p m q : Nat} (hq : q ≤ 1024) (h1 : p ≤ m) (h2 : m ≤ q) : cov l ((p : Int), (q : Int)) = (cov l ((p : Int), (m : Int)) && cov l ((m : Int), (q : Int))) := by
  rw [Bool.eq_iff_iff, Bool.and_eq_true, cov_iff hq, cov_iff hq, cov_iff (by omega)]
  constructor
  · intro H
    exact ⟨fun k k1 k2 => H k k1 (by omega), fun k k1 k2 => H k (by omega) k2⟩
  · rintro ⟨H1, H2⟩ k k1 k2
    by_cases e : k < m
    · exact H1 k k1 e
    · exact H2 k (by omega) k2

end Go.Proofs.Ytnmlfdmlcpgaaaa
