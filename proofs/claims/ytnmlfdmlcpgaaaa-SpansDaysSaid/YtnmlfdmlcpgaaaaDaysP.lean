/- Normal lists are in order; days of the operations. -/
import Derived.Test.YtnmlfdmlcpgaaaaRWrap
namespace Go.Proofs.Ytnmlfdmlcpgaaaa
open Go.RowKit
set_option linter.unusedVariables false

/-- A list is in order. -/
def Good (l : List (Int × Int)) : Prop :=
  (∀ (k : Nat) (s : Int × Int), l[k]? = some s → 0 ≤ s.1 ∧ s.1 < s.2 ∧ s.2 ≤ 1024) ∧ (∀ (k : Nat) (s t : Int × Int), l[k]? = some s → l[k + 1]? = some t → s.2 < t.1)
theorem good_snoc {l : List (Int × Int)} {a b : Int} (h : Good l) (ha : 0 ≤ a) (hb : a < b) (hm : b ≤ 1024) (hl : ∀ s ∈ l, s.2 < a) : Good (l ++ [(a, b)]) := by
  refine ⟨fun k s hs => ?_, fun k s t hs ht => ?_⟩
  · rw [List.getElem?_append] at hs
    split at hs
    · exact h.1 k s hs
    · rw [List.getElem?_singleton] at hs
      split at hs
      · injection hs with hs
        subst hs
        exact ⟨ha, hb, hm⟩
      · cases hs
  · rw [List.getElem?_append] at hs ht
    by_cases h1 : k + 1 < l.length
    · rw [if_pos h1] at ht
      rw [if_pos (by omega)] at hs
      exact h.2 k s t hs ht
    · rw [if_neg h1, List.getElem?_singleton] at ht
      split at ht
      · injection ht with ht
        subst ht
        rw [if_pos (by omega)] at hs
        exact hl s (List.mem_of_getElem? hs)
      · cases ht
theorem apart_good : ∀ (l : List (Int × Int)) (m : Int), Apart m l → m ≤ 1024 → Good l.reverse ∧ ∀ s ∈ l, s.2 ≤ m
  | [], m, _, _ => ⟨⟨fun k s h => by simp at h, fun k s t h => by simp at h⟩, fun s h => by simp at h⟩
  | (a, b) :: r, m, ⟨h1, h2, h3, h4⟩, hm => by
    obtain ⟨g, hs⟩ := apart_good r (a - 1) h4 (by omega)
    rw [List.reverse_cons]
    refine ⟨good_snoc g h3 h1 (by omega) fun s hm => by have := hs s (by simpa using hm); omega, fun s hm => ?_⟩
    rcases List.mem_cons.1 hm with h | h
    · rw [h]; exact h2
    · have := hs s h; omega
theorem good_nl (f : Nat → Bool) : Good (nl f 1024) := (apart_good _ 1024 (nlr_apart f 1024) (by omega)).1
theorem good_chk {l : List (Int × Int)} (h : Good l) : chk l = 0 := by
  unfold chk
  rw [if_pos]
  rw [List.all_eq_true]
  intro s hs
  obtain ⟨k, hk⟩ := List.getElem?_of_mem hs
  have := h.1 k s hk
  unfold okS
  simp
  omega
theorem hasD_eq (l : List (Int × Int)) (d : Int) : hasD l d = (decide (0 ≤ d ∧ d < 1024) && hasB l d.toNat) := by
  by_cases h : 0 ≤ d ∧ d < 1024
  · obtain ⟨k, rfl⟩ : ∃ k : Nat, d = (k : Int) := ⟨d.toNat, by omega⟩
    rw [hasD_nat l k (by omega)]
    simp [h]
  · unfold hasD
    have : (decide (0 ≤ d) && decide (d < 1024)) = false := by
      rw [← Bool.not_eq_true]
      simp only [Bool.and_eq_true, decide_eq_true_eq]
      exact h
    rw [this, decide_eq_false h]
    simp
theorem hasD_nl (f : Nat → Bool) (d : Int) : hasD (nl f 1024) d = (decide (0 ≤ d ∧ d < 1024) && f d.toNat) := by
  rw [hasD_eq]
  by_cases h : 0 ≤ d ∧ d < 1024
  · rw [nl_has]
    have : decide (d.toNat < 1024) = true := decide_eq_true (by omega)
    rw [this, Bool.and_true]
  · rw [decide_eq_false h]
    simp
theorem hasD_U (a b : List (Int × Int)) (d : Int) : hasD (U a b) d = (hasD a d || hasD b d) := by
  unfold U
  rw [hasD_nl, hasD_eq a, hasD_eq b]
  cases decide (0 ≤ d ∧ d < 1024) <;> simp
theorem hasD_Mt (a b : List (Int × Int)) (d : Int) : hasD (Mt a b) d = (hasD a d && hasD b d) := by
  unfold Mt
  rw [hasD_nl, hasD_eq a, hasD_eq b]
  cases decide (0 ≤ d ∧ d < 1024) <;> simp
theorem hasD_Mn (a b : List (Int × Int)) (d : Int) : hasD (Mn a b) d = (hasD a d && !hasD b d) := by
  unfold Mn
  rw [hasD_nl, hasD_eq a, hasD_eq b]
  cases decide (0 ≤ d ∧ d < 1024) <;> simp
theorem hasD_Nm (a : List (Int × Int)) (d : Int) : hasD (Nm a) d = hasD a d := by
  unfold Nm
  rw [hasD_nl, hasD_eq a]
end Go.Proofs.Ytnmlfdmlcpgaaaa
