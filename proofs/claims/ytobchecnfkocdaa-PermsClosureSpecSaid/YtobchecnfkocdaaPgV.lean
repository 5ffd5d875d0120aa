/- Plain: the least numbers of the orbits, by lowering until nothing changes. -/
import Derived.Test.YtobchecnfkocdaaPgO
import Derived.Test.YtobchecnfkocdaaIn
namespace Go.Proofs.Ytobchecnfkocdaa
set_option linter.unusedVariables false

def fsum (F : Nat → Nat) : Nat → Nat
  | 0 => 0
  | n + 1 => fsum F n + F n
theorem fsum_le {F G : Nat → Nat} : ∀ {n : Nat}, (∀ i, i < n → G i ≤ F i) → fsum G n ≤ fsum F n
  | 0, _ => Nat.le_refl _
  | n + 1, h => Nat.add_le_add (fsum_le fun i hi => h i (by omega)) (h n (by omega))
theorem fsum_lt {F G : Nat → Nat} : ∀ {n i : Nat}, (∀ i, i < n → G i ≤ F i) → i < n → G i < F i → fsum G n < fsum F n
  | 0, i, _, hi, _ => by omega
  | n + 1, i, h, hi, hl => by
    show fsum G n + G n < fsum F n + F n
    by_cases e : i = n
    · subst e
      exact Nat.add_lt_add_of_le_of_lt (fsum_le fun j hj => h j (by omega)) hl
    · exact Nat.add_lt_add_of_lt_of_le (fsum_lt (fun j hj => h j (by omega)) (show i < n by omega) hl) (h n (by omega))
structure Lea (N : Nat) (gs : List (List Nat)) (F : Nat → Nat) : Prop where
  le : ∀ i, i < N → F i ≤ i
  rch : ∀ i, i < N → Rch gs (F i) i
def upd (F : Nat → Nat) (i m : Nat) : Nat → Nat := fun x => if x = i then m else F x
theorem upd_ris (F : Nat → Nat) (N k m : Nat) : ((ris (fun x => (F x : Int)) N).map iv).set k (.int .i64 (m : Int)) = (ris (fun x => (upd F k m x : Int)) N).map iv := by
  rw [ris_set]
  have : (fun i => if i = k then (m : Int) else (F i : Int)) = fun x => (upd F k m x : Int) := by
    funext x
    unfold upd
    split <;> rfl
  rw [this]
theorem Lea.upd2 {N i j m : Nat} {gs : List (List Nat)} {F : Nat → Nat} (h : Lea N gs F) (hg : ∀ g ∈ gs, Pm N g) (hi : i < N) (hj : j < N) (hij : Rch gs i j) (hm : m = min (F i) (F j)) : Lea N gs (upd (upd F i m) j m) := by
  have hor : (m = F i ∨ m = F j) ∧ m ≤ F i ∧ m ≤ F j := by omega
  have hji := hij.symm hg hi
  have hmi : Rch gs m i := by
    rcases hor.1 with e | e
    · rw [e]; exact h.rch i hi
    · rw [e]; exact (h.rch j hj).trans hji
  refine ⟨fun x hx => ?_, fun x hx => ?_⟩
  · unfold upd
    have h1 := h.le i hi
    have h2 := h.le j hj
    have h3 := h.le x hx
    split
    · omega
    · split <;> omega
  · unfold upd
    split
    · rename_i e
      rw [e]
      exact hmi.trans hij
    · split
      · rename_i e
        rw [e]
        exact hmi
      · exact h.rch x hx
theorem fsum_upd2 {N i j m : Nat} {F : Nat → Nat} (hi : i < N) (hj : j < N) (hm : m = min (F i) (F j)) (hne : ¬ (F i = m ∧ F j = m)) : fsum (upd (upd F i m) j m) N < fsum F N := by
  have hle : ∀ x, x < N → upd (upd F i m) j m x ≤ F x := fun x _ => by
    unfold upd
    split
    · rename_i e; rw [e]; omega
    · split
      · rename_i e; rw [e]; omega
      · exact Nat.le_refl _
  by_cases h1 : F i = m
  · refine fsum_lt (i := j) hle hj ?_
    unfold upd
    rw [if_pos rfl]
    omega
  · refine fsum_lt (i := i) hle hi ?_
    unfold upd
    split
    · omega
    · rw [if_pos rfl]; omega
def flt (F : Nat → Nat) (t i : Nat) : List Nat := (List.range t).filter fun j => F j == i
theorem flt_yes {F : Nat → Nat} {t i : Nat} (h : F t = i) : flt F (t + 1) i = flt F t i ++ [t] := by
  unfold flt
  rw [List.range_succ, List.filter_append, List.filter_cons_of_pos (by simpa using h)]
  rfl
theorem flt_no {F : Nat → Nat} {t i : Nat} (h : F t ≠ i) : flt F (t + 1) i = flt F t i := by
  unfold flt
  rw [List.range_succ, List.filter_append, List.filter_cons_of_neg (by simpa using h)]
  simp
theorem flt_len (F : Nat → Nat) (t i : Nat) : (flt F t i).length ≤ t := by
  unfold flt
  have := List.length_filter_le (fun j => F j == i) (List.range t)
  rwa [List.length_range] at this
theorem Lea.const {N : Nat} {gs : List (List Nat)} {F : Nat → Nat} (hg : ∀ g ∈ gs, Pm N g) (hf : ∀ g ∈ gs, ∀ i, i < N → F i = F (g.getD i 0)) {x y : Nat} (hx : x < N) (h : Rch gs x y) : F x = F y := by
  induction h with
  | refl => rfl
  | step hy hm ih => exact ih.trans (hf _ hm _ (hy.lt hg hx))
theorem Lea.yes {N i : Nat} {gs : List (List Nat)} {F : Nat → Nat} (h : Lea N gs F) (hg : ∀ g ∈ gs, Pm N g) (hf : ∀ g ∈ gs, ∀ i, i < N → F i = F (g.getD i 0)) (hi : i < N) (hl : Lst gs i) : flt F N i = orb N gs i := by
  classical
  have hii : F i = i := by
    rcases Nat.lt_or_ge (F i) i with h1 | h1
    · exact absurd (h.rch i hi) (hl _ h1)
    · have := h.le i hi
      omega
  unfold flt orb
  refine List.filter_congr fun j hj => ?_
  have hjN := List.mem_range.1 hj
  by_cases hr : Rch gs i j
  · have := Lea.const hg hf hi hr
    rw [decide_eq_true hr, beq_iff_eq]
    omega
  · rw [decide_eq_false hr, beq_eq_false_iff_ne]
    intro e
    have := h.rch j hjN
    rw [e] at this
    exact hr this
theorem Lea.no {N i : Nat} {gs : List (List Nat)} {F : Nat → Nat} (h : Lea N gs F) (hg : ∀ g ∈ gs, Pm N g) (hf : ∀ g ∈ gs, ∀ i, i < N → F i = F (g.getD i 0)) (hi : i < N) (hl : ¬ Lst gs i) : flt F N i = [] := by
  classical
  unfold flt
  rw [List.filter_eq_nil_iff]
  intro j hj e
  have hjN := List.mem_range.1 hj
  have e : F j = i := by simpa using e
  apply hl
  intro y hy hr
  have h1 := h.rch j hjN
  rw [e] at h1
  have h2 := Lea.const hg hf hi h1
  have h3 := Lea.const hg hf (show y < N by omega) hr
  have h4 := h.le y (by omega)
  omega
theorem Lea.start (N : Nat) (gs : List (List Nat)) : Lea N gs (fun i => i) := ⟨fun i _ => Nat.le_refl _, fun i _ => Rch.refl⟩
theorem mem_flt_self {N i : Nat} {gs : List (List Nat)} (hi : i < N) : orb N gs i ≠ [] := fun e => by
  have h : i ∈ orb N gs i := mem_orb.2 ⟨hi, Rch.refl⟩
  rw [e] at h
  cases h
end Go.Proofs.Ytobchecnfkocdaa
