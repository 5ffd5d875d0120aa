/- Orbits: what generators lead to. Plain. -/
import Derived.Test.YtobchecnfkocdaaPgC
namespace Go.Proofs.Ytobchecnfkocdaa
set_option linter.unusedVariables false

/-- What generators lead to. -/
inductive Rch (gens : List (List Nat)) (x : Nat) : Nat → Prop
  | refl : Rch gens x x
  | step {y : Nat} {g : List Nat} : Rch gens x y → g ∈ gens → Rch gens x (g.getD y 0)
theorem Rch.lt {gens : List (List Nat)} {n x y : Nat} (hg : ∀ g ∈ gens, Pm n g) (hx : x < n) (h : Rch gens x y) : y < n := by
  induction h with
  | refl => exact hx
  | step _ hm ih => exact (hg _ hm).lt ih
theorem Rch.trans {gens : List (List Nat)} {x y z : Nat} (h : Rch gens x y) (k : Rch gens y z) : Rch gens x z := by
  induction k with
  | refl => exact h
  | step _ hm ih => exact Rch.step ih hm
theorem Rch.closed {gens : List (List Nat)} {x y : Nat} {S : Nat → Prop} (hS : ∀ y g, S y → g ∈ gens → S (g.getD y 0)) (hx : S x) (h : Rch gens x y) : S y := by
  induction h with
  | refl => exact hx
  | step _ hm ih => exact hS _ _ ih hm
open Classical in
/-- A permutation that maps a set into itself: nothing else comes into it. -/
theorem Pm.back {n : Nat} {p : List Nat} (hp : Pm n p) {S : Nat → Prop} (hS : ∀ y, y < n → S y → S (p.getD y 0)) {y : Nat} (hy : y < n) (h : S (p.getD y 0)) : S y := by
  obtain ⟨l, hl⟩ : ∃ l, (List.range n).filter (fun y => decide (S y)) = l := ⟨_, rfl⟩
  have hm : ∀ x, x ∈ l ↔ x < n ∧ S x := fun x => by rw [← hl, List.mem_filter, List.mem_range, decide_eq_true_eq]
  have hn : l.Nodup := by rw [← hl]; exact List.Pairwise.filter _ List.nodup_range
  have h1 : (l.map fun y => p.getD y 0).Nodup := by
    unfold List.Nodup
    rw [List.pairwise_map]
    refine List.Pairwise.imp_of_mem (fun {a b} ha hb hab e => ?_) hn
    exact hab (hp.inj ((hm a).1 ha).1 ((hm b).1 hb).1 e)
  have h2 := nd_all h1 (fun x hx => by
    obtain ⟨q, hq, rfl⟩ := List.mem_map.1 hx
    have := (hm q).1 hq
    exact (hm _).2 ⟨hp.lt this.1, hS q this.1 this.2⟩) (by rw [List.length_map]; exact Nat.le_refl _) (p.getD y 0) ((hm _).2 ⟨hp.lt hy, h⟩)
  obtain ⟨q, hq, e⟩ := List.mem_map.1 h2
  have hq := (hm q).1 hq
  have := hp.inj hq.1 hy e
  rw [← this]
  exact hq.2
theorem Rch.symm {gens : List (List Nat)} {n x y : Nat} (hg : ∀ g ∈ gens, Pm n g) (hx : x < n) (h : Rch gens x y) : Rch gens y x := by
  induction h with
  | refl => exact Rch.refl
  | step hy hm ih =>
    refine Rch.trans ?_ ih
    exact (hg _ hm).back (S := fun z => Rch gens _ z) (fun z _ hz => Rch.step hz hm) (hy.lt hg hx) Rch.refl

open Classical in
/-- The orbit of a number, increasing. -/
noncomputable def orb (n : Nat) (gens : List (List Nat)) (x : Nat) : List Nat := (List.range n).filter (fun y => decide (Rch gens x y))
open Classical in
theorem mem_orb {n : Nat} {gens : List (List Nat)} {x y : Nat} : y ∈ orb n gens x ↔ y < n ∧ Rch gens x y := by
  unfold orb
  rw [List.mem_filter, List.mem_range, decide_eq_true_eq]
theorem orb_inc (n : Nat) (gens : List (List Nat)) (x : Nat) : (orb n gens x).Pairwise (· < ·) := List.Pairwise.filter _ List.pairwise_lt_range
/-- The least number of its orbit. -/
def Lst (gens : List (List Nat)) (x : Nat) : Prop := ∀ y, y < x → ¬ Rch gens y x
open Classical in
/-- The orbits whose least numbers are below a bound. -/
noncomputable def orbs (n : Nat) (gens : List (List Nat)) (t : Nat) : List (List Nat) := ((List.range t).filter (fun x => decide (Lst gens x))).map (orb n gens)
theorem orbs_zero (n : Nat) (gens : List (List Nat)) : orbs n gens 0 = [] := rfl
open Classical in
theorem orbs_yes {n : Nat} {gens : List (List Nat)} {t : Nat} (h : Lst gens t) : orbs n gens (t + 1) = orbs n gens t ++ [orb n gens t] := by
  unfold orbs
  rw [List.range_succ, List.filter_append, List.map_append, List.filter_cons_of_pos (by simpa using h)]
  rfl
open Classical in
theorem orbs_no {n : Nat} {gens : List (List Nat)} {t : Nat} (h : ¬ Lst gens t) : orbs n gens (t + 1) = orbs n gens t := by
  unfold orbs
  rw [List.range_succ, List.filter_append, List.filter_cons_of_neg (by simpa using h)]
  simp
theorem orbs_len (n : Nat) (gens : List (List Nat)) (t : Nat) : (orbs n gens t).length ≤ t := by
  unfold orbs
  rw [List.length_map]
  exact Nat.le_trans (List.length_filter_le _ _) (by rw [List.length_range]; exact Nat.le_refl _)
/-- What the numbers below a bound lead to. -/
def rdp (gens : List (List Nat)) (t i : Nat) : Prop := ∃ x, x < t ∧ Rch gens x i
open Classical in
noncomputable def rd (gens : List (List Nat)) (t i : Nat) : Bool := decide (rdp gens t i)
open Classical in
theorem rd_iff {gens : List (List Nat)} {t i : Nat} : rd gens t i = true ↔ rdp gens t i := decide_eq_true_iff
theorem rd_lst {gens : List (List Nat)} {t : Nat} (h : rd gens t t = false) : Lst gens t := fun y hy hr => by
  have := rd_iff.2 (show rdp gens t t from ⟨y, hy, hr⟩)
  rw [h] at this
  cases this
theorem rd_not {gens : List (List Nat)} {t : Nat} (h : rd gens t t = true) : ¬ Lst gens t := fun hl => by
  obtain ⟨y, hy, hr⟩ := rd_iff.1 h
  exact hl y hy hr
theorem bool_ext {a b : Bool} (h : a = true ↔ b = true) : a = b := by
  cases a <;> cases b <;> simp_all
theorem rd_same {gens : List (List Nat)} {t : Nat} (h : rd gens t t = true) (i : Nat) : rd gens (t + 1) i = rd gens t i := by
  apply bool_ext
  rw [rd_iff, rd_iff]
  constructor
  · rintro ⟨x, hx, hr⟩
    by_cases e : x = t
    · subst e
      obtain ⟨y, hy, hr2⟩ := rd_iff.1 h
      exact ⟨y, hy, hr2.trans hr⟩
    · exact ⟨x, by omega, hr⟩
  · rintro ⟨x, hx, hr⟩
    exact ⟨x, by omega, hr⟩
/-- In the middle of an orbit: what is found, and what is in the list. -/
structure Orb (n : Nat) (gens : List (List Nat)) (t : Nat) (ob : List Nat) : Prop where
  nd : ob.Nodup
  rch : ∀ x ∈ ob, Rch gens t x
  has : t ∈ ob
theorem Orb.start (n : Nat) (gens : List (List Nat)) (t : Nat) : Orb n gens t [t] := ⟨by simp, fun x hx => by rw [List.mem_singleton.1 hx]; exact Rch.refl, by simp⟩
theorem Orb.lt {n : Nat} {gens : List (List Nat)} {t : Nat} {ob : List Nat} (h : Orb n gens t ob) (hg : ∀ g ∈ gens, Pm n g) (ht : t < n) : ∀ x ∈ ob, x < n := fun x hx => (h.rch x hx).lt hg ht
theorem Orb.len {n : Nat} {gens : List (List Nat)} {t : Nat} {ob : List Nat} (h : Orb n gens t ob) (hg : ∀ g ∈ gens, Pm n g) (ht : t < n) : ob.length ≤ n := by
  have := nd_sub ob (List.range n) h.nd (fun x hx => List.mem_range.2 (h.lt hg ht x hx))
  rwa [List.length_range] at this
/-- What is reached, with a list. -/
noncomputable def rdo (gens : List (List Nat)) (t : Nat) (ob : List Nat) (i : Nat) : Bool := rd gens t i || decide (i ∈ ob)
theorem rdo_start (gens : List (List Nat)) (t : Nat) (i : Nat) : (if i = t then true else rd gens t i) = rdo gens t [t] i := by
  unfold rdo
  by_cases e : i = t
  · simp [e]
  · simp [e]
theorem rdo_add (gens : List (List Nat)) (t : Nat) (ob : List Nat) (x i : Nat) : (if i = x then true else rdo gens t ob i) = rdo gens t (ob ++ [x]) i := by
  unfold rdo
  by_cases e : i = x
  · simp [e]
  · simp [e]
/-- What the orbit's numbers lead to was not reached before. -/
theorem rdo_in {n : Nat} {gens : List (List Nat)} {t : Nat} {ob : List Nat} (h : Orb n gens t ob) (hg : ∀ g ∈ gens, Pm n g) (ht : t < n) (hf : rd gens t t = false) {x : Nat} (hx : Rch gens t x) : rdo gens t ob x = decide (x ∈ ob) := by
  unfold rdo
  have : rd gens t x = false := by
    cases e : rd gens t x with
    | false => rfl
    | true =>
      obtain ⟨z, hz, hr⟩ := rd_iff.1 e
      exact absurd (hr.trans (hx.symm hg ht)) (rd_lst hf z hz)
  rw [this, Bool.false_or]
theorem Orb.add {n : Nat} {gens : List (List Nat)} {t : Nat} {ob : List Nat} (h : Orb n gens t ob) {x : Nat} (hx : Rch gens t x) (hn : x ∉ ob) : Orb n gens t (ob ++ [x]) := by
  refine ⟨?_, fun y hy => ?_, List.mem_append_left _ h.has⟩
  · rw [List.nodup_append]
    refine ⟨h.nd, by simp, fun a ha b hb e => ?_⟩
    rw [List.mem_singleton.1 hb] at e
    exact hn (e ▸ ha)
  · rcases List.mem_append.1 hy with h1 | h1
    · exact h.rch y h1
    · rw [List.mem_singleton.1 h1]; exact hx
/-- The whole orbit. -/
theorem Orb.all {n : Nat} {gens : List (List Nat)} {t : Nat} {ob : List Nat} (h : Orb n gens t ob) (hg : ∀ g ∈ gens, Pm n g) (ht : t < n) (hc : ∀ x ∈ ob, ∀ g ∈ gens, g.getD x 0 ∈ ob) (y : Nat) : y ∈ ob ↔ y ∈ orb n gens t := by
  rw [mem_orb]
  constructor
  · exact fun hy => ⟨h.lt hg ht y hy, h.rch y hy⟩
  · exact fun hy => hy.2.closed (S := fun y => y ∈ ob) (fun z g hz hm => hc z hz g hm) h.has
theorem Orb.rd {n : Nat} {gens : List (List Nat)} {t : Nat} {ob : List Nat} (h : Orb n gens t ob) (hg : ∀ g ∈ gens, Pm n g) (ht : t < n) (hc : ∀ x ∈ ob, ∀ g ∈ gens, g.getD x 0 ∈ ob) (i : Nat) : rdo gens t ob i = Go.Proofs.Ytobchecnfkocdaa.rd gens (t + 1) i := by
  apply bool_ext
  unfold rdo
  rw [Bool.or_eq_true, rd_iff, rd_iff, decide_eq_true_eq, h.all hg ht hc, mem_orb]
  constructor
  · rintro (⟨x, hx, hr⟩ | ⟨_, hr⟩)
    · exact ⟨x, by omega, hr⟩
    · exact ⟨t, by omega, hr⟩
  · rintro ⟨x, hx, hr⟩
    by_cases e : x = t
    · subst e
      exact .inr ⟨hr.lt hg ht, hr⟩
    · exact .inl ⟨x, by omega, hr⟩
/-- The list of an orbit, sorted, is the orbit. -/
theorem Orb.sorted {n : Nat} {gens : List (List Nat)} {t : Nat} {ob : List Nat} (h : Orb n gens t ob) (hg : ∀ g ∈ gens, Pm n g) (ht : t < n) (hc : ∀ x ∈ ob, ∀ g ∈ gens, g.getD x 0 ∈ ob) : (ints ob).mergeSort (fun x y => decide (x ≤ y)) = ints (orb n gens t) := by
  have hp : List.Perm ob (orb n gens t) := by
    refine (List.perm_ext_iff_of_nodup h.nd ?_).2 (h.all hg ht hc)
    exact (orb_inc n gens t).imp (fun {a b} hab => by omega)
  refine List.Perm.eq_of_pairwise (le := fun a b => decide (a ≤ b) = true) (fun a b _ _ h1 h2 => by simp only [decide_eq_true_eq] at h1 h2; omega) (List.pairwise_mergeSort (fun a b c h1 h2 => by simp only [decide_eq_true_eq] at *; omega) (fun a b => by simp only [Bool.or_eq_true, decide_eq_true_eq]; omega) _) ?_ ((List.mergeSort_perm _ _).trans (hp.map _))
  unfold ints
  rw [List.pairwise_map]
  exact (orb_inc n gens t).imp (fun {a b} hab => by simp only [decide_eq_true_eq]; omega)
end Go.Proofs.Ytobchecnfkocdaa
