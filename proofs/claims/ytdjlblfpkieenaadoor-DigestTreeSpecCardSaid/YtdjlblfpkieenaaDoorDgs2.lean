/- Digests of a script: as a list that lies in memory. -/
import Derived.Test.YtdjlblfpkieenaaDoorDgs
namespace Go.Proofs.YtdjlblfpkieenaaDoor
open Go.RowKit Go.Sort
set_option linter.unusedVariables false

theorem flat_get : ∀ (ds : List (List UInt8)) (i j : Nat) (d : List UInt8), (∀ x, x ∈ ds → x.length = 32) → ds[i]? = some d → j < 32 → (flat ds)[i * 32 + j]? = (d.map bv)[j]?
  | [], i, j, d, _, h, _ => by simp at h
  | x :: xs, 0, j, d, hl, h, hj => by
    simp at h
    subst h
    have hx := hl x (by simp)
    unfold flat
    rw [List.flatMap_cons, Nat.zero_mul, Nat.zero_add, List.getElem?_append_left (by rw [List.length_map, hx]; exact hj)]
  | x :: xs, i + 1, j, d, hl, h, hj => by
    have hx := hl x (by simp)
    have ih := flat_get xs i j d (fun y hy => hl y (by simp [hy])) (by simpa using h) hj
    unfold flat at ih ⊢
    rw [List.flatMap_cons, List.getElem?_append_right (by rw [List.length_map, hx]; omega), List.length_map, hx, show (i + 1) * 32 + j - 32 = i * 32 + j by omega]
    exact ih
theorem Ds.of_own {w : World} {B n c : Nat} {A : Option Addr} {ds : List (List UInt8)} (h : w.ownsRow B 26 32 (.slice A n c) n (flat ds)) (hn : ds.length = n) (hd : ∀ d, d ∈ ds → d.length = 32) :
    Ds w.heap.size w A ds ∧ n ≤ c ∧ c ≤ maxLen := by
  subst hn
  rcases h.2 with ⟨hv, h0⟩ | ⟨g, cap, cur, hv, hbg, hg, h1, h2, _⟩
  · injection hv with hA hl hc
    exact ⟨⟨hd, fun hp => absurd hp (by omega)⟩, by omega, by subst hc; exact Nat.zero_le _⟩
  · injection hv with hA hl hc
    subst hA hc
    refine ⟨⟨hd, fun _ => ⟨g, 0, rfl, heap_lt hg, fun i d hi j v hv => ?_⟩⟩, h1, h2⟩
    have hi' := (List.getElem?_eq_some_iff.1 hi).1
    have hdl := hd d (List.mem_of_getElem? hi)
    have hj : j < 32 := by
      have := (List.getElem?_eq_some_iff.1 hv).1
      rw [List.length_map, hdl] at this
      exact this
    rw [show 0 + i * 32 + j = i * 32 + j by omega, h.cellAt (i * 32 + j) (by omega), flat_get ds i j d hd hi hj]
    exact hv
theorem dgk_len32 (l : List UInt8) (k : Nat) : ∀ d, d ∈ dgk l k → d.length = 32 := by
  intro d hd
  unfold dgk at hd
  obtain ⟨i, _, rfl⟩ := List.mem_map.1 hd
  exact dg_length l i
end Go.Proofs.YtdjlblfpkieenaaDoor
