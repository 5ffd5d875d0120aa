/- Plain facts for FieldUnique and FieldValues. -/
import Derived.Test.YthfnimmfgmpdfaaDoorThru
namespace Go.Proofs.YthfnimmfgmpdfaaDoor
set_option linter.unusedVariables false

/-- Points. -/
def isP (xs ys : List UInt8) : Prop := xs.length = ys.length ∧ xs.Nodup
theorem co_ok {xs ys : List UInt8} (h : isP xs ys) : co xs ys = lk xs ys xs.length ∧ coe xs ys = 0 := ⟨if_pos h, if_pos h⟩
theorem co_no {xs ys : List UInt8} (h : ¬ isP xs ys) : co xs ys = [] ∧ coe xs ys = 1 := ⟨if_neg h, if_neg h⟩
theorem co_len {xs ys : List UInt8} (h : isP xs ys) : (co xs ys).length = xs.length := by rw [(co_ok h).1, lk_length]
theorem co_at {xs ys : List UInt8} (h : isP xs ys) (i : Nat) (hi : i < xs.length) : hv (co xs ys) (xs.getD i 0) = ys.getD i 0 := by
  rw [(co_ok h).1]
  exact lk_hv xs ys h.2 xs.length (Nat.le_refl _) i hi
/-- A polynomial with at most as many coefficients that has these values is this one. -/
theorem co_only {xs ys m : List UInt8} (h : isP xs ys) (hm : m.length ≤ xs.length) (hv' : ∀ i, i < xs.length → hv m (xs.getD i 0) = ys.getD i 0) (i : Nat) (hi : i < xs.length) : (co xs ys).getD i 0 = m.getD i 0 := by
  refine unique (xs := xs) (co_len h) hm h.2 (fun x hx => ?_) i (by rw [co_len h]; exact hi)
  obtain ⟨j, hj, rfl⟩ := List.mem_iff_getElem.1 hx
  have e : xs[j] = xs.getD j 0 := by rw [List.getD_eq_getElem?_getD, List.getElem?_eq_getElem hj]; rfl
  rw [e, co_at h j hj, hv' j hj]
/-- Whether the first k values are those of a polynomial. -/
def smk (xs ys m : List UInt8) : Nat → Bool
  | 0 => decide (m.length ≤ xs.length)
  | k + 1 => smk xs ys m k && decide (hv m (xs.getD k 0) = ys.getD k 0)
theorem smk_all {xs ys m : List UInt8} : ∀ {k}, smk xs ys m k = true → m.length ≤ xs.length ∧ ∀ i, i < k → hv m (xs.getD i 0) = ys.getD i 0
  | 0, h => ⟨by simpa [smk] using h, fun i hi => by omega⟩
  | k + 1, h => by
    simp only [smk, Bool.and_eq_true, decide_eq_true_eq] at h
    have ih := smk_all h.1
    refine ⟨ih.1, fun i hi => ?_⟩
    by_cases e : i = k
    · subst e; exact h.2
    · exact ih.2 i (by omega)
/-- The first k values. -/
def vals (l xs : List UInt8) (k : Nat) : List UInt8 := (xs.take k).map (hv l)
theorem vals_succ {l xs : List UInt8} {k : Nat} (h : k < xs.length) : vals l xs (k + 1) = vals l xs k ++ [hv l (xs.getD k 0)] := by
  unfold vals
  rw [List.take_succ_eq_append_getElem h, List.map_append, List.getD_eq_getElem?_getD, List.getElem?_eq_getElem h]
  rfl
theorem vals_length {l xs : List UInt8} {k : Nat} (h : k ≤ xs.length) : (vals l xs k).length = k := by
  unfold vals
  rw [List.length_map, List.length_take]
  omega
theorem vals_at {l xs : List UInt8} {i : Nat} (h : i < xs.length) : (vals l xs xs.length).getD i 0 = hv l (xs.getD i 0) := by
  unfold vals
  rw [List.take_length, List.getD_eq_getElem?_getD, List.getD_eq_getElem?_getD, List.getElem?_map, List.getElem?_eq_getElem h]
  rfl
end Go.Proofs.YthfnimmfgmpdfaaDoor
