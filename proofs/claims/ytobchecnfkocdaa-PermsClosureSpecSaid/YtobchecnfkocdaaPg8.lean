/- A list that has the identity of n numbers and is closed under the exchange of the first two and the rotation has all n! permutations. Plain. -/
import Derived.Test.YtobchecnfkocdaaPg
namespace Go.Proofs.Ytobchecnfkocdaa
set_option linter.unusedVariables false

/-- All lists of the elements of a list, by their heads. -/
def pe : Nat → List Nat → List (List Nat)
  | 0, _ => [[]]
  | k + 1, rest => rest.flatMap fun x => (pe k (rest.erase x)).map (x :: ·)
def fac : Nat → Nat
  | 0 => 1
  | k + 1 => (k + 1) * fac k
theorem sum_const {α : Type} (f : α → Nat) (c : Nat) : ∀ l : List α, (∀ x ∈ l, f x = c) → (l.map f).sum = l.length * c
  | [], _ => by simp
  | x :: l, h => by
    rw [List.map_cons, List.sum_cons, h x (List.mem_cons_self ..), sum_const f c l (fun y hy => h y (List.mem_cons_of_mem _ hy)), List.length_cons, Nat.succ_mul]
    omega
theorem pe_length : ∀ (k : Nat) (rest : List Nat), rest.length = k → (pe k rest).length = fac k
  | 0, _, _ => rfl
  | k + 1, rest, h => by
    unfold pe fac
    rw [List.length_flatMap, sum_const _ (fac k) rest (fun x hx => ?_), h]
    rw [List.length_map, pe_length k _ (by rw [List.length_erase_of_mem hx, h]; rfl)]
theorem pe_perm : ∀ (k : Nat) (rest p : List Nat), rest.length = k → p ∈ pe k rest → p.Perm rest
  | 0, rest, p, h, hp => by
    unfold pe at hp
    rw [List.mem_singleton.1 hp, List.eq_nil_of_length_eq_zero h]
  | k + 1, rest, p, h, hp => by
    unfold pe at hp
    obtain ⟨x, hx, hp⟩ := List.mem_flatMap.1 hp
    obtain ⟨q, hq, rfl⟩ := List.mem_map.1 hp
    have := pe_perm k _ q (by rw [List.length_erase_of_mem hx, h]; rfl) hq
    exact (this.cons x).trans (List.perm_cons_erase hx).symm
theorem pe_nodup : ∀ (k : Nat) (rest : List Nat), rest.Nodup → (pe k rest).Nodup
  | 0, _, _ => by simp [pe]
  | k + 1, rest, h => by
    unfold pe List.Nodup
    rw [List.pairwise_flatMap]
    refine ⟨fun x hx => ?_, ?_⟩
    · rw [List.pairwise_map]
      refine List.Pairwise.imp (fun {a b} hab e => hab (by injection e)) (pe_nodup k _ (h.erase x))
    · refine List.Pairwise.imp (fun {a b} hab x hx y hy e => ?_) h
      obtain ⟨q, _, rfl⟩ := List.mem_map.1 hx
      obtain ⟨q2, _, rfl⟩ := List.mem_map.1 hy
      injection e with e _
      exact hab e

/-- The exchange of two neighbours. -/
def nx (n i : Nat) : List Nat := (List.range n).map fun j => if j = i then i + 1 else if j = i + 1 then i else j
theorem nx_length (n i : Nat) : (nx n i).length = n := by simp [nx]
theorem nx_at {n i j : Nat} (h : j < n) : (nx n i).getD j 0 = if j = i then i + 1 else if j = i + 1 then i else j := by
  rw [getD_get (by rw [nx_length]; exact h)]
  unfold nx
  rw [List.getElem_map, List.getElem_range]
theorem nx_swap (pre t : List Nat) (x y : Nat) : mu (pre ++ y :: x :: t) (nx (pre ++ y :: x :: t).length pre.length) = pre ++ x :: y :: t := by
  have hl : (pre ++ y :: x :: t).length = pre.length + (t.length + 2) := by simp
  refine ext_getD (by rw [mu_length, nx_length]; simp) (fun j hj => ?_)
  rw [mu_length, nx_length] at hj
  rw [mu_at (by rw [nx_length]; exact hj), nx_at hj]
  rw [List.getD_eq_getElem?_getD, List.getD_eq_getElem?_getD]
  by_cases h1 : j = pre.length
  · subst h1
    rw [if_pos rfl, List.getElem?_append_right (by omega), List.getElem?_append_right (by omega), show pre.length + 1 - pre.length = 1 by omega, Nat.sub_self]
    rfl
  · rw [if_neg h1]
    by_cases h2 : j = pre.length + 1
    · subst h2
      rw [if_pos rfl, List.getElem?_append_right (by omega), List.getElem?_append_right (by omega), show pre.length + 1 - pre.length = 1 by omega, Nat.sub_self]
      rfl
    · rw [if_neg h2]
      by_cases h3 : j < pre.length
      · rw [List.getElem?_append_left h3, List.getElem?_append_left h3]
      · rw [List.getElem?_append_right (by omega), List.getElem?_append_right (by omega)]
        obtain ⟨m, hm⟩ : ∃ m, j - pre.length = m + 2 := ⟨j - pre.length - 2, by omega⟩
        rw [hm]
        rfl
theorem all_perms {L : List (List Nat)} {n : Nat} (hnx : ∀ i, i + 1 < n → ∀ x ∈ L, mu x (nx n i) ∈ L) {a b : List Nat} (h : a.Perm b) : ∀ pre : List Nat, (pre ++ a).length = n → pre ++ a ∈ L → pre ++ b ∈ L := by
  induction h with
  | nil => exact fun pre _ h => h
  | cons x _ ih =>
    intro pre hl hm
    have := ih (pre ++ [x]) (by simpa using hl) (by simpa using hm)
    simpa using this
  | swap x y t =>
    intro pre hl hm
    have h1 := hnx pre.length (by simp at hl; omega) _ hm
    rw [← hl, nx_swap pre t x y] at h1
    exact h1
  | trans h1 h2 ih1 ih2 =>
    intro pre hl hm
    exact ih2 pre (by rw [List.length_append, ← h1.length_eq, ← List.length_append]; exact hl) (ih1 pre hl hm)
theorem many_perms {L : List (List Nat)} {n : Nat} (hid : List.range n ∈ L) (hnx : ∀ i, i + 1 < n → ∀ x ∈ L, mu x (nx n i) ∈ L) : fac n ≤ L.length := by
  rw [← pe_length n (List.range n) List.length_range]
  refine nd_sub _ _ (pe_nodup n _ List.nodup_range) (fun p hp => ?_)
  have := all_perms hnx (pe_perm n _ p List.length_range hp).symm [] (by simp) (by simpa using hid)
  simpa using this
/-- Words. -/
theorem word_mul {L : List (List Nat)} {n : Nat} {a b : List Nat} (ha : ∀ x ∈ L, mu x a ∈ L) (hb : ∀ x ∈ L, mu x b ∈ L) (pa : Pm n a) (pb : Pm n b) : ∀ x ∈ L, mu x (mu a b) ∈ L := fun x hx => by
  rw [← mu_assoc pa pb]
  exact hb _ (ha x hx)
def pwr (n : Nat) (r : List Nat) : Nat → List Nat
  | 0 => List.range n
  | k + 1 => mu (pwr n r k) r
theorem pwr_pm {n : Nat} {r : List Nat} (h : Pm n r) : ∀ k, Pm n (pwr n r k)
  | 0 => Pm.id n
  | k + 1 => (pwr_pm h k).mul h
theorem word_pwr {L : List (List Nat)} {n : Nat} {r : List Nat} (hL : ∀ x ∈ L, Pm n x) (hr : ∀ x ∈ L, mu x r ∈ L) (pr : Pm n r) : ∀ k, ∀ x ∈ L, mu x (pwr n r k) ∈ L
  | 0, x, hx => by
    show mu x (List.range n) ∈ L
    rw [mu_id (hL x hx)]
    exact hx
  | k + 1, x, hx => word_mul (word_pwr hL hr pr k) hr (pwr_pm pr k) pr x hx
/-- Eight numbers: the example of the chapter. -/
theorem pm_dec {n : Nat} {p : List Nat} (h : (decide (p.length = n) && p.all (fun x => decide (x < n)) && decide p.Nodup) = true) : Pm n p := by
  rw [Bool.and_eq_true, Bool.and_eq_true, decide_eq_true_eq, decide_eq_true_eq] at h
  exact ⟨h.1.1, fun x hx => by have := List.all_eq_true.1 h.1.2 x hx; simpa using this, h.2⟩
theorem nx8 : ∀ i, i < 7 → nx 8 i = mu (mu (pwr 8 [1, 2, 3, 4, 5, 6, 7, 0] i) [1, 0, 2, 3, 4, 5, 6, 7]) (pwr 8 [1, 2, 3, 4, 5, 6, 7, 0] (8 - i)) ∨ nx 8 i = mu (mu (pwr 8 [1, 2, 3, 4, 5, 6, 7, 0] (8 - i)) [1, 0, 2, 3, 4, 5, 6, 7]) (pwr 8 [1, 2, 3, 4, 5, 6, 7, 0] i) := by decide +kernel
theorem big8 {L : List (List Nat)} (hL : ∀ x ∈ L, Pm 8 x) (hid : List.range 8 ∈ L) (hs : ∀ x ∈ L, mu x [1, 0, 2, 3, 4, 5, 6, 7] ∈ L) (hr : ∀ x ∈ L, mu x [1, 2, 3, 4, 5, 6, 7, 0] ∈ L) : 4096 < L.length := by
  have ps : Pm 8 [1, 0, 2, 3, 4, 5, 6, 7] := pm_dec (by decide)
  have pr : Pm 8 [1, 2, 3, 4, 5, 6, 7, 0] := pm_dec (by decide)
  have h := many_perms hid (fun i hi x hx => by
    rcases nx8 i (by omega) with e | e
    · rw [e]
      exact word_mul (word_mul (word_pwr hL hr pr i) hs (pwr_pm pr i) ps) (word_pwr hL hr pr (8 - i)) ((pwr_pm pr i).mul ps) (pwr_pm pr (8 - i)) x hx
    · rw [e]
      exact word_mul (word_mul (word_pwr hL hr pr (8 - i)) hs (pwr_pm pr (8 - i)) ps) (word_pwr hL hr pr i) ((pwr_pm pr (8 - i)).mul ps) (pwr_pm pr i) x hx)
  have : fac 8 = 40320 := by decide
  omega
end Go.Proofs.Ytobchecnfkocdaa
