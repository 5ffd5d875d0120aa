/- A group's part divides it. Plain. -/
import Derived.Test.YtobchecnfkocdaaPgS
namespace Go.Proofs.Ytobchecnfkocdaa
set_option linter.unusedVariables false

theorem filter_two {α : Type} (f : α → Bool) : ∀ l : List α, (l.filter f).length + (l.filter (fun x => !f x)).length = l.length
  | [] => rfl
  | x :: l => by
    have ih := filter_two f l
    cases h : f x with
    | true =>
      rw [List.filter_cons_of_pos h, List.filter_cons_of_neg (by simp [h]), List.length_cons, List.length_cons]
      omega
    | false =>
      rw [List.filter_cons_of_neg (by simp [h]), List.filter_cons_of_pos (by simp [h]), List.length_cons, List.length_cons]
      omega
/-- What is closed under a group from the right is divided by it. -/
theorem lagrange_aux {n : Nat} {a ms : List (List Nat)} (hg : ∀ g ∈ a, Pm n g) (hm : ∀ p, p ∈ ms ↔ Gen n a p) (hn : ms.Nodup) : ∀ (k : Nat) (L : List (List Nat)), L.length ≤ k → L.Nodup → (∀ p ∈ L, Pm n p) → (∀ p ∈ L, ∀ h ∈ ms, mu p h ∈ L) → L.length % ms.length = 0 := by
  intro k
  induction k with
  | zero =>
    intro L hl _ _ _
    have : L.length = 0 := by omega
    rw [this]
    exact Nat.zero_mod _
  | succ k ih =>
    intro L hl hnd hpm hcl
    cases L with
    | nil => exact Nat.zero_mod _
    | cons p L' =>
      obtain ⟨L, hL⟩ : ∃ L, p :: L' = L := ⟨_, rfl⟩
      rw [hL] at hl hnd hpm hcl ⊢
      have hp : p ∈ L := by rw [← hL]; exact List.mem_cons_self ..
      have pp := hpm p hp
      have hmp : ∀ h ∈ ms, Pm n h := fun h hh => ((hm h).1 hh).pm hg
      have hC : (ms.map (mu p)).Nodup := by
        unfold List.Nodup
        rw [List.pairwise_map]
        exact List.Pairwise.imp_of_mem (fun {a b} ha hb hab e => hab (mu_left pp (hmp _ ha) (hmp _ hb) e)) hn
      have h1 := filter_two (fun q => decide (q ∈ ms.map (mu p))) L
      have h2 : (L.filter (fun q => decide (q ∈ ms.map (mu p)))).length = ms.length := by
        have := nd_len (List.Pairwise.filter (fun q => decide (q ∈ ms.map (mu p))) hnd) hC (fun x => by
          rw [List.mem_filter, decide_eq_true_eq]
          constructor
          · exact fun h => h.2
          · intro h
            refine ⟨?_, h⟩
            obtain ⟨z, hz, rfl⟩ := List.mem_map.1 h
            exact hcl p hp z hz)
        rwa [List.length_map] at this
      have hpos : 0 < ms.length := List.length_pos_of_mem ((hm _).2 Gen.id)
      have h3 := ih (L.filter (fun q => !decide (q ∈ ms.map (mu p)))) (by omega) (List.Pairwise.filter _ hnd) (fun q hq => hpm q (List.mem_filter.1 hq).1) (fun q hq h hh => by
        obtain ⟨hq1, hq2⟩ := List.mem_filter.1 hq
        refine List.mem_filter.2 ⟨hcl q hq1 h hh, ?_⟩
        have hq3 : q ∉ ms.map (mu p) := by simpa using hq2
        have : ¬ mu q h ∈ ms.map (mu p) := fun hc => by
          obtain ⟨z, hz, e⟩ := List.mem_map.1 hc
          refine hq3 (List.mem_map.2 ⟨mu z (vi h), (hm _).2 (Gen.prod hg ((hm z).1 hz) (Gen.inv hg hn hm ((hm h).1 hh))), ?_⟩)
          have hv := (hmp h hh).vi
          rw [← mu_assoc (hmp z hz) hv, e, mu_assoc (hmp h hh) hv, mu_vi (hmp h hh), mu_id (hpm q hq1)]
        simpa using this)
      have h4 : L.length = (L.filter (fun q => !decide (q ∈ ms.map (mu p)))).length + ms.length := by omega
      rw [h4, Nat.add_mod_right]
      exact h3
theorem lagrange {n : Nat} {a b ms ls : List (List Nat)} (ha : ∀ g ∈ a, Pm n g) (hb : ∀ g ∈ b, Pm n g) (hab : ∀ g ∈ a, g ∈ b) (hm : ∀ p, p ∈ ms ↔ Gen n a p) (hmn : ms.Nodup) (hl : ∀ p, p ∈ ls ↔ Gen n b p) (hln : ls.Nodup) : ls.length % ms.length = 0 :=
  lagrange_aux ha hm hmn ls.length ls (Nat.le_refl _) hln (fun p hp => ((hl p).1 hp).pm hb) (fun p hp h hh => (hl _).2 (Gen.prod hb ((hl p).1 hp) (Gen.sub hab ((hm h).1 hh))))
end Go.Proofs.Ytobchecnfkocdaa
