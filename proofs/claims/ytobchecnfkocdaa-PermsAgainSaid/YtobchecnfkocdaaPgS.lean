/- Orbits and stabilizers; cosets. Plain. -/
import Derived.Test.YtobchecnfkocdaaPgO
namespace Go.Proofs.Ytobchecnfkocdaa
set_option linter.unusedVariables false

theorem sum_one (a : Nat) (g : Nat → Nat) : ∀ ys : List Nat, ys.Nodup → (ys.map fun y => (if a = y then 1 else 0) + g y).sum = (if a ∈ ys then 1 else 0) + (ys.map g).sum
  | [], _ => by simp
  | y :: ys, h => by
    rw [List.nodup_cons] at h
    rw [List.map_cons, List.sum_cons, List.map_cons, List.sum_cons, sum_one a g ys h.2]
    by_cases e : a = y
    · subst e
      simp [h.1]
      omega
    · simp [e]
      omega
/-- A list, divided by a number for each element. -/
theorem fibers {α : Type} (f : α → Nat) (ys : List Nat) (hn : ys.Nodup) : ∀ ls : List α, (∀ p ∈ ls, f p ∈ ys) → (ys.map fun y => (ls.filter (fun p => f p == y)).length).sum = ls.length
  | [], _ => by
    have := sum_const (fun _ : Nat => 0) 0 ys (fun _ _ => rfl)
    simpa using this
  | p :: ls, h => by
    have ih := fibers f ys hn ls (fun q hq => h q (List.mem_cons_of_mem _ hq))
    have e : (ys.map fun y => ((p :: ls).filter (fun p => f p == y)).length) = ys.map fun y => (if f p = y then 1 else 0) + (ls.filter (fun p => f p == y)).length := by
      refine List.map_congr_left fun y _ => ?_
      by_cases e : f p = y
      · rw [List.filter_cons_of_pos (by simpa using e), if_pos e, List.length_cons]
        omega
      · rw [List.filter_cons_of_neg (by simpa using e), if_neg e]
        omega
    rw [e, sum_one (f p) _ ys hn, if_pos (h p (List.mem_cons_self ..)), ih, List.length_cons]
    omega
theorem gen_rch {n : Nat} {gens : List (List Nat)} (hg : ∀ g ∈ gens, Pm n g) {p : List Nat} (hp : Gen n gens p) : ∀ x, x < n → Rch gens x (p.getD x 0) := by
  induction hp with
  | id => intro x hx; rw [range_at hx]; exact Rch.refl
  | mul hp hm ih =>
    intro x hx
    have hgm := hg _ hm
    rw [mu_at (by rw [hgm.1]; exact hx)]
    exact (Rch.step Rch.refl hm).trans (ih _ (hgm.lt hx))
theorem rch_gen {n : Nat} {gens : List (List Nat)} (hg : ∀ g ∈ gens, Pm n g) {x y : Nat} (hx : x < n) (h : Rch gens x y) : ∃ p, Gen n gens p ∧ p.getD x 0 = y := by
  induction h with
  | refl => exact ⟨_, Gen.id, range_at hx⟩
  | step hr hm ih =>
    obtain ⟨p, hp, e⟩ := ih
    refine ⟨_, Gen.prod hg (Gen.one hg hm) hp, ?_⟩
    rw [mu_at (by rw [(hp.pm hg).1]; exact hx), e]
/-- The orbit of a number has as many elements as the group, divided by those that map it to itself. -/
theorem orbit_stab {n : Nat} {gens ls : List (List Nat)} {x : Nat} (hg : ∀ g ∈ gens, Pm n g) (hL : ∀ p, p ∈ ls ↔ Gen n gens p) (hn : ls.Nodup) (hx : x < n) :
    (ls.filter (fun p => p.getD x 0 == x)).length * (orb n gens x).length = ls.length := by
  have hno : (orb n gens x).Nodup := (orb_inc n gens x).imp (fun {a b} h => by omega)
  have h1 := fibers (fun p => p.getD x 0) (orb n gens x) hno ls (fun p hp => by
    have := (hL p).1 hp
    exact mem_orb.2 ⟨(this.pm hg).lt hx, gen_rch hg this x hx⟩)
  rw [sum_const _ (ls.filter (fun p => p.getD x 0 == x)).length _ (fun y hy => ?_)] at h1
  · rw [Nat.mul_comm]
    exact h1
  · obtain ⟨hyn, hr⟩ := mem_orb.1 hy
    obtain ⟨t, ht, e⟩ := rch_gen hg hx hr
    have htp := ht.pm hg
    have hst : ((ls.filter (fun p => p.getD x 0 == x)).map (mu t)).Nodup := by
      unfold List.Nodup
      rw [List.pairwise_map]
      refine List.Pairwise.imp_of_mem (fun {a b} ha hb hab e2 => ?_) (List.Pairwise.filter _ hn)
      exact hab (mu_left htp (((hL _).1 (List.mem_filter.1 ha).1).pm hg) (((hL _).1 (List.mem_filter.1 hb).1).pm hg) e2)
    have h2 := nd_len hst (List.Pairwise.filter (fun p => p.getD x 0 == y) hn) (fun q => by
      constructor
      · intro hq
        obtain ⟨p, hp, rfl⟩ := List.mem_map.1 hq
        obtain ⟨hp1, hp2⟩ := List.mem_filter.1 hp
        have hp3 := (hL p).1 hp1
        have hp2 : p.getD x 0 = x := by simpa using hp2
        refine List.mem_filter.2 ⟨(hL _).2 (ht.prod hg hp3), ?_⟩
        rw [mu_at (by rw [(hp3.pm hg).1]; exact hx), hp2, e]
        simp
      · intro hq
        obtain ⟨hq1, hq2⟩ := List.mem_filter.1 hq
        have hq3 := (hL q).1 hq1
        have hq2 : q.getD x 0 = y := by simpa using hq2
        have hv := Gen.inv hg hn hL ht
        refine List.mem_map.2 ⟨mu (vi t) q, List.mem_filter.2 ⟨(hL _).2 (hv.prod hg hq3), ?_⟩, ?_⟩
        · rw [mu_at (by rw [(hq3.pm hg).1]; exact hx), hq2, ← e, vi_at htp hx]
          simp
        · rw [← mu_assoc htp.vi (hq3.pm hg), mu_vi htp, id_mu (hq3.pm hg)])
    rw [List.length_map] at h2
    exact h2.symm

/-! ### The list of the orbits -/
open Classical in
/-- The least numbers of the orbits. -/
noncomputable def lsts (gens : List (List Nat)) (n : Nat) : List Nat := (List.range n).filter (fun x => decide (Lst gens x))
open Classical in
theorem mem_lsts {gens : List (List Nat)} {n x : Nat} : x ∈ lsts gens n ↔ x < n ∧ Lst gens x := by
  unfold lsts
  rw [List.mem_filter, List.mem_range, decide_eq_true_eq]
theorem lsts_inc (gens : List (List Nat)) (n : Nat) : (lsts gens n).Pairwise (· < ·) := List.Pairwise.filter _ List.pairwise_lt_range
theorem orbs_lsts (n : Nat) (gens : List (List Nat)) (t : Nat) : orbs n gens t = (lsts gens t).map (orb n gens) := rfl
theorem orbs_at {n : Nat} {gens : List (List Nat)} {i : Nat} {o : List Nat} (h : (orbs n gens n)[i]? = some o) : ∃ x, (lsts gens n)[i]? = some x ∧ o = orb n gens x ∧ x < n ∧ Lst gens x := by
  rw [orbs_lsts, List.getElem?_map] at h
  cases hx : (lsts gens n)[i]? with
  | none => rw [hx] at h; cases h
  | some x =>
    rw [hx] at h
    injection h with h
    exact ⟨x, rfl, h.symm, mem_lsts.1 (List.mem_of_getElem? hx)⟩
theorem lsts_lt {n : Nat} {gens : List (List Nat)} {i j x y : Nat} (hij : i < j) (hx : (lsts gens n)[i]? = some x) (hy : (lsts gens n)[j]? = some y) : x < y := by
  obtain ⟨h1, rfl⟩ := List.getElem?_eq_some_iff.1 hx
  obtain ⟨h2, rfl⟩ := List.getElem?_eq_some_iff.1 hy
  exact List.pairwise_iff_getElem.1 (lsts_inc gens n) i j h1 h2 hij
/-- Two orbits have nothing in common. -/
theorem orbs_apart {n : Nat} {gens : List (List Nat)} (hg : ∀ g ∈ gens, Pm n g) {i j : Nat} {a b : List Nat} {z : Nat} (ha : (orbs n gens n)[i]? = some a) (hb : (orbs n gens n)[j]? = some b) (h1 : z ∈ a) (h2 : z ∈ b) : i = j := by
  obtain ⟨x, hx, rfl, hxn, hxl⟩ := orbs_at ha
  obtain ⟨y, hy, rfl, hyn, hyl⟩ := orbs_at hb
  have r1 := (mem_orb.1 h1).2
  have r2 := (mem_orb.1 h2).2
  rcases Nat.lt_trichotomy i j with h | h | h
  · exact absurd (r1.trans (r2.symm hg hyn)) (hyl x (lsts_lt h hx hy))
  · exact h
  · exact absurd (r2.trans (r1.symm hg hxn)) (hxl y (lsts_lt h hy hx))
/-- Each number is in an orbit. -/
theorem orbs_has {n : Nat} {gens : List (List Nat)} {z : Nat} (hz : z < n) : ∃ (i : Nat) (o : List Nat), (orbs n gens n)[i]? = some o ∧ z ∈ o := by
  have hle : ∀ k, ∀ y, y ≤ k → Rch gens y z → ∃ x, x ≤ y ∧ Lst gens x ∧ Rch gens x z := by
    intro k
    induction k with
    | zero =>
      intro y hy hr
      exact ⟨y, Nat.le_refl _, fun w hw => absurd hw (by omega), hr⟩
    | succ k ih =>
      intro y hy hr
      by_cases hl : Lst gens y
      · exact ⟨y, Nat.le_refl _, hl, hr⟩
      · have : ∃ w, w < y ∧ Rch gens w y := by
          apply Classical.byContradiction
          intro hno
          exact hl fun w hw hrw => hno ⟨w, hw, hrw⟩
        obtain ⟨w, hw, hrw⟩ := this
        obtain ⟨x, h1, h2, h3⟩ := ih w (by omega) (hrw.trans hr)
        exact ⟨x, by omega, h2, h3⟩
  obtain ⟨x, h1, h2, h3⟩ := hle z z (Nat.le_refl _) Rch.refl
  have hm : x ∈ lsts gens n := mem_lsts.2 ⟨by omega, h2⟩
  obtain ⟨i, hi, e⟩ := List.getElem_of_mem hm
  refine ⟨i, orb n gens x, ?_, mem_orb.2 ⟨hz, h3⟩⟩
  rw [orbs_lsts, List.getElem?_map, List.getElem?_eq_getElem hi, e]
  rfl
/-- The first number of an orbit is its least one. -/
theorem orb_head {n : Nat} {gens : List (List Nat)} (hg : ∀ g ∈ gens, Pm n g) {x : Nat} (hx : x < n) (hl : Lst gens x) : (orb n gens x)[0]? = some x := by
  have hm : x ∈ orb n gens x := mem_orb.2 ⟨hx, Rch.refl⟩
  have hpos := List.length_pos_of_mem hm
  have h0 : (orb n gens x)[0]? = some (orb n gens x)[0] := List.getElem?_eq_getElem hpos
  rw [h0]
  congr 1
  have hy := List.getElem_mem hpos
  obtain ⟨hyn, hr⟩ := mem_orb.1 hy
  obtain ⟨i, hi, e⟩ := List.getElem_of_mem hm
  have hge : ¬ (orb n gens x)[0] < x := fun h => hl _ h (hr.symm hg hx)
  have hle : (orb n gens x)[0] ≤ x := by
    by_cases e0 : i = 0
    · subst e0; omega
    · have := List.pairwise_iff_getElem.1 (orb_inc n gens x) 0 i hpos hi (by omega)
      omega
  omega
theorem orb_same {n : Nat} {gens : List (List Nat)} (hg : ∀ g ∈ gens, Pm n g) {x z : Nat} (hx : x < n) (hz : z ∈ orb n gens x) : orb n gens x = orb n gens z := by
  obtain ⟨hzn, hr⟩ := mem_orb.1 hz
  refine List.Perm.eq_of_pairwise (le := fun a b => a < b) (fun a b _ _ h1 h2 => by omega) (orb_inc n gens x) (orb_inc n gens z) ?_
  refine (List.perm_ext_iff_of_nodup ((orb_inc n gens x).imp (fun {a b} h => by omega)) ((orb_inc n gens z).imp (fun {a b} h => by omega))).2 fun y => ?_
  rw [mem_orb, mem_orb]
  exact ⟨fun h => ⟨h.1, (hr.symm hg hx).trans h.2⟩, fun h => ⟨h.1, hr.trans h.2⟩⟩
end Go.Proofs.Ytobchecnfkocdaa
