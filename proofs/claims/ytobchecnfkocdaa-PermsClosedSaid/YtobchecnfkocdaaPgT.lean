/- The orbits' numbers as the law counts them. Plain. -/
import Derived.Test.YtobchecnfkocdaaPgS
namespace Go.Proofs.Ytobchecnfkocdaa
set_option linter.unusedVariables false

/-- The first i orbits are numbered, and k elements of the next one. -/
def AtR (os : List (List Nat)) (n i k : Nat) (F : Nat → Int) : Prop :=
  ∀ x, x < n → (F x ≠ 0 → ∃ (j : Nat) (o : List Nat), os[j]? = some o ∧ x ∈ o ∧ F x = (j : Int) + 1 ∧ (j < i ∨ (j = i ∧ x ∈ o.take k))) ∧
    (∀ (j : Nat) (o : List Nat), os[j]? = some o → x ∈ o → (j < i ∨ (j = i ∧ x ∈ o.take k)) → F x = (j : Int) + 1)
theorem AtR.start (os : List (List Nat)) (n : Nat) : AtR os n 0 0 (fun _ => 0) := fun x _ => ⟨fun h => absurd rfl h, fun j o _ _ h => by
  rcases h with h | ⟨_, h⟩
  · omega
  · exact absurd h (by simp)⟩
section
variable {n : Nat} {gens : List (List Nat)}
theorem AtR.zero (hg : ∀ g ∈ gens, Pm n g) {i k : Nat} {F : Nat → Int} {o : List Nat} {x : Nat} (h : AtR (orbs n gens n) n i k F) (ho : (orbs n gens n)[i]? = some o) (hx : o[k]? = some x) (hxn : x < n) : F x = 0 := by
  apply Classical.byContradiction
  intro hne
  obtain ⟨j, o', h1, h2, _, h3⟩ := (h x hxn).1 hne
  have hxo := List.mem_of_getElem? hx
  have hj := orbs_apart hg h1 ho h2 hxo
  subst hj
  rw [ho] at h1
  injection h1 with h1
  subst h1
  rcases h3 with h3 | ⟨_, h3⟩
  · omega
  · obtain ⟨z, _, rfl, _, _⟩ := orbs_at ho
    obtain ⟨q, hq, e⟩ := List.getElem_of_mem h3
    rw [List.getElem_take] at e
    obtain ⟨hk, e2⟩ := List.getElem?_eq_some_iff.1 hx
    rw [List.length_take] at hq
    have := List.pairwise_iff_getElem.1 (orb_inc n gens z) q k (by omega) hk (by omega)
    omega
theorem AtR.next (hg : ∀ g ∈ gens, Pm n g) {i k : Nat} {F : Nat → Int} {o : List Nat} {x : Nat} (h : AtR (orbs n gens n) n i k F) (ho : (orbs n gens n)[i]? = some o) (hx : o[k]? = some x) : AtR (orbs n gens n) n i (k + 1) (fun z => if z = x then (i : Int) + 1 else F z) := by
  have htk : o.take (k + 1) = o.take k ++ [x] := by
    rw [List.take_add_one, hx]
    rfl
  have hxo := List.mem_of_getElem? hx
  intro z hz
  by_cases e : z = x
  · subst e
    simp only [if_true]
    refine ⟨fun _ => ⟨i, o, ho, hxo, rfl, .inr ⟨rfl, by rw [htk]; simp⟩⟩, fun j o' h1 h2 _ => ?_⟩
    rw [orbs_apart hg h1 ho h2 hxo]
  · simp only [if_neg e]
    obtain ⟨h1, h2⟩ := h z hz
    refine ⟨fun hne => ?_, fun j o' h3 h4 h5 => ?_⟩
    · obtain ⟨j, o', a1, a2, a3, a4⟩ := h1 hne
      refine ⟨j, o', a1, a2, a3, ?_⟩
      rcases a4 with a4 | ⟨a4, a5⟩
      · exact .inl a4
      · subst a4
        rw [ho] at a1
        injection a1 with a1
        subst a1
        exact .inr ⟨rfl, by rw [htk]; exact List.mem_append_left _ a5⟩
    · refine h2 j o' h3 h4 ?_
      rcases h5 with h5 | ⟨h5, h6⟩
      · exact .inl h5
      · subst h5
        rw [ho] at h3
        injection h3 with h3
        subst h3
        rw [htk] at h6
        rcases List.mem_append.1 h6 with h6 | h6
        · exact .inr ⟨rfl, h6⟩
        · exact absurd (List.mem_singleton.1 h6) e
theorem AtR.row (hg : ∀ g ∈ gens, Pm n g) {i : Nat} {F : Nat → Int} {o : List Nat} (h : AtR (orbs n gens n) n i o.length F) (ho : (orbs n gens n)[i]? = some o) : AtR (orbs n gens n) n (i + 1) 0 F := by
  intro z hz
  obtain ⟨h1, h2⟩ := h z hz
  refine ⟨fun hne => ?_, fun j o' h3 h4 h5 => ?_⟩
  · obtain ⟨j, o', a1, a2, a3, a4⟩ := h1 hne
    refine ⟨j, o', a1, a2, a3, .inl ?_⟩
    rcases a4 with a4 | ⟨a4, _⟩ <;> omega
  · refine h2 j o' h3 h4 ?_
    rcases h5 with h5 | ⟨_, h5⟩
    · by_cases e : j = i
      · subst e
        rw [ho] at h3
        injection h3 with h3
        subst h3
        exact .inr ⟨rfl, by rw [List.take_of_length_le (Nat.le_refl _)]; exact h4⟩
      · exact .inl (by omega)
    · exact absurd h5 (by simp)
/-- All are numbered: the number of a number's orbit. -/
theorem AtR.done {F : Nat → Int} (h : AtR (orbs n gens n) n (orbs n gens n).length 0 F) {x : Nat} (hx : x < n) : ∃ (j : Nat) (o : List Nat), (orbs n gens n)[j]? = some o ∧ x ∈ o ∧ F x = (j : Int) + 1 := by
  obtain ⟨j, o, h1, h2⟩ := orbs_has (n := n) (gens := gens) hx
  exact ⟨j, o, h1, h2, (h x hx).2 j o h1 h2 (.inl (List.getElem?_eq_some_iff.1 h1).1)⟩
theorem AtR.same (hg : ∀ g ∈ gens, Pm n g) {F : Nat → Int} (h : AtR (orbs n gens n) n (orbs n gens n).length 0 F) {x y : Nat} (hx : x < n) (hr : Rch gens x y) : F y = F x := by
  obtain ⟨j, o, h1, h2, h3⟩ := h.done hx
  have hy := hr.lt hg hx
  obtain ⟨z, _, rfl, _, _⟩ := orbs_at h1
  rw [h3]
  exact (h y hy).2 j _ h1 (mem_orb.2 ⟨hy, ((mem_orb.1 h2).2).trans hr⟩) (.inl (List.getElem?_eq_some_iff.1 h1).1)
end
end Go.Proofs.Ytobchecnfkocdaa
