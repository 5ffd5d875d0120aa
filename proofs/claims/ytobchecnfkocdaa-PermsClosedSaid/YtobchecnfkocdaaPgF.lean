/- The rotation, and the rotation with an exchange. Plain. -/
import Derived.Test.YtobchecnfkocdaaPgO
namespace Go.Proofs.Ytobchecnfkocdaa
set_option linter.unusedVariables false

theorem pe_mem : ∀ (k : Nat) (rest p : List Nat), rest.length = k → p.Perm rest → p ∈ pe k rest
  | 0, rest, p, h, hp => by
    rw [List.eq_nil_of_length_eq_zero h] at hp
    rw [hp.eq_nil]
    unfold pe
    simp
  | k + 1, rest, [], h, hp => by
    have := hp.length_eq
    rw [h] at this
    simp at this
  | k + 1, rest, x :: q, h, hp => by
    have hx : x ∈ rest := hp.mem_iff.1 (List.mem_cons_self ..)
    have hq : q.Perm (rest.erase x) := ((hp.trans (List.perm_cons_erase hx))).cons_inv
    unfold pe
    exact List.mem_flatMap.2 ⟨x, hx, List.mem_map.2 ⟨q, pe_mem k _ q (by rw [List.length_erase_of_mem hx, h]; rfl) hq, rfl⟩⟩
theorem pm_perm {n : Nat} {p : List Nat} (h : Pm n p) : p.Perm (List.range n) := by
  refine (List.perm_ext_iff_of_nodup h.2.2 List.nodup_range).2 fun x => ?_
  constructor
  · exact fun hx => List.mem_range.2 (h.2.1 x hx)
  · exact nd_all h.2.2 (fun x hx => List.mem_range.2 (h.2.1 x hx)) (by rw [List.length_range, h.1]; exact Nat.le_refl _) x
/-- There are n! permutations. -/
theorem pm_few {n : Nat} {M : List (List Nat)} (hn : M.Nodup) (h : ∀ q ∈ M, Pm n q) : M.length ≤ fac n := by
  rw [← pe_length n (List.range n) List.length_range]
  exact nd_sub _ _ hn fun q hq => pe_mem n _ q List.length_range (pm_perm (h q hq))

def tn (k : Nat) : List Nat := (List.range k).map fun i => (i + 1) % k
def sw (k : Nat) : List Nat := (List.range k).map fun i => if i = 0 then 1 else if i = 1 then 0 else i
def pmb (n : Nat) (p : List Nat) : Bool := decide (p.length = n) && p.all (fun x => decide (x < n)) && decide p.Nodup
theorem tn_pm : ∀ k, k < 17 → 2 ≤ k → Pm k (tn k) := by
  have h : ∀ k, k < 17 → 2 ≤ k → pmb k (tn k) = true := by decide +kernel
  exact fun k h1 h2 => pm_dec (h k h1 h2)
theorem sw_pm : ∀ k, k < 17 → 2 ≤ k → Pm k (sw k) := by
  have h : ∀ k, k < 17 → 2 ≤ k → pmb k (sw k) = true := by decide +kernel
  exact fun k h1 h2 => pm_dec (h k h1 h2)
theorem tn_end : ∀ k, k < 17 → 2 ≤ k → pwr k (tn k) k = List.range k := by decide +kernel
theorem tn_nd : ∀ k, k < 17 → 2 ≤ k → ((List.range k).map (pwr k (tn k))).Nodup := by decide +kernel
theorem nxk : ∀ k, k < 17 → 2 ≤ k → ∀ i, i < k - 1 → nx k i = mu (mu (pwr k (tn k) i) (sw k)) (pwr k (tn k) (k - i)) ∨ nx k i = mu (mu (pwr k (tn k) (k - i)) (sw k)) (pwr k (tn k) i) := by decide +kernel
/-- The rotations. -/
theorem gen_tn {k : Nat} (h1 : k < 17) (h2 : 2 ≤ k) (q : List Nat) : Gen k [tn k] q ↔ q ∈ (List.range k).map (pwr k (tn k)) := by
  constructor
  · intro h
    induction h with
    | id => exact List.mem_map.2 ⟨0, List.mem_range.2 (by omega), rfl⟩
    | mul _ hm ih =>
      rw [List.mem_singleton.1 hm]
      obtain ⟨i, hi, rfl⟩ := List.mem_map.1 ih
      have hi := List.mem_range.1 hi
      by_cases e : i + 1 = k
      · have h3 := tn_end k h1 h2
        rw [← e] at h3 ⊢
        exact List.mem_map.2 ⟨0, List.mem_range.2 (by omega), h3.symm⟩
      · exact List.mem_map.2 ⟨i + 1, List.mem_range.2 (by omega), rfl⟩
  · intro h
    obtain ⟨i, hi, rfl⟩ := List.mem_map.1 h
    clear h hi
    induction i with
    | zero => exact Gen.id
    | succ i ih => exact Gen.mul ih (List.mem_singleton.2 rfl)
/-- Both generators: all permutations. -/
theorem gen_both {k : Nat} (h1 : k < 17) (h2 : 2 ≤ k) {L : List (List Nat)} (hL : ∀ q, q ∈ L ↔ Gen k [tn k, sw k] q) : fac k ≤ L.length := by
  have pt := tn_pm k h1 h2
  have ps := sw_pm k h1 h2
  have hg : ∀ g ∈ [tn k, sw k], Pm k g := fun g hg => by
    simp only [List.mem_cons, List.not_mem_nil, or_false] at hg
    rcases hg with rfl | rfl
    · exact pt
    · exact ps
  have hr : ∀ x ∈ L, mu x (tn k) ∈ L := fun x hx => (hL _).2 (Gen.mul ((hL x).1 hx) (by simp))
  have hs : ∀ x ∈ L, mu x (sw k) ∈ L := fun x hx => (hL _).2 (Gen.mul ((hL x).1 hx) (by simp))
  have hp : ∀ x ∈ L, Pm k x := fun x hx => ((hL x).1 hx).pm hg
  refine many_perms ((hL _).2 Gen.id) fun i hi x hx => ?_
  rcases nxk k h1 h2 i (by omega) with e | e
  · rw [e]
    exact word_mul (word_mul (word_pwr hp hr pt i) hs (pwr_pm pt i) ps) (word_pwr hp hr pt (k - i)) ((pwr_pm pt i).mul ps) (pwr_pm pt (k - i)) x hx
  · rw [e]
    exact word_mul (word_mul (word_pwr hp hr pt (k - i)) hs (pwr_pm pt (k - i)) ps) (word_pwr hp hr pt i) ((pwr_pm pt (k - i)).mul ps) (pwr_pm pt i) x hx
theorem fac_big : ∀ k, k < 17 → 7 ≤ k → 4096 < fac k := by decide +kernel
theorem fac_small : ∀ k, k < 7 → fac k ≤ 720 := by decide
/-- The rotation has one orbit. -/
theorem tn_at {k i : Nat} (h : i + 1 < k) : (tn k).getD i 0 = i + 1 := by
  unfold tn
  rw [getD_get (by rw [List.length_map, List.length_range]; omega), List.getElem_map, List.getElem_range]
  exact Nat.mod_eq_of_lt h
theorem tn_rch {k : Nat} : ∀ y, y < k → Rch [tn k] 0 y
  | 0, _ => Rch.refl
  | y + 1, h => by
    have := Rch.step (tn_rch y (by omega)) (List.mem_singleton.2 (rfl : tn k = tn k))
    rwa [tn_at h] at this
open Classical in
theorem tn_orb (k : Nat) : orb k [tn k] 0 = List.range k := by
  unfold orb
  rw [List.filter_eq_self]
  intro x hx
  exact decide_eq_true (tn_rch x (List.mem_range.1 hx))
theorem tn_orbs {k : Nat} : ∀ t, 0 < t → t ≤ k → orbs k [tn k] t = [List.range k]
  | 1, _, h => by
    rw [orbs_yes (fun y hy => absurd hy (by omega)), orbs_zero, tn_orb]
    rfl
  | t + 2, _, h => by
    rw [orbs_no (fun hl => hl 0 (by omega) (tn_rch (t + 1) (by omega)))]
    exact tn_orbs (t + 1) (by omega) (by omega)
end Go.Proofs.Ytobchecnfkocdaa
