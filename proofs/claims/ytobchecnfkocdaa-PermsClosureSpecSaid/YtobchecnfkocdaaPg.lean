/- Permutations and the groups that they generate. Plain. -/
import Derived.Test.YtobchecnfkocdaaProg
namespace Go.Proofs.Ytobchecnfkocdaa
set_option linter.unusedVariables false

/-- A list of different elements, all of another list, is no longer. -/
theorem nd_sub {α : Type} [DecidableEq α] : ∀ (a b : List α), a.Nodup → (∀ x ∈ a, x ∈ b) → a.length ≤ b.length
  | [], b, _, _ => Nat.zero_le _
  | x :: r, b, hn, hs => by
    rw [List.nodup_cons] at hn
    have hx : x ∈ b := hs x (List.mem_cons_self ..)
    have h := nd_sub r (b.erase x) hn.2 (fun y hy => by
      have hne : y ≠ x := fun e => hn.1 (e ▸ hy)
      exact (List.mem_erase_of_ne hne).2 (hs y (List.mem_cons_of_mem _ hy)))
    rw [List.length_erase_of_mem hx] at h
    have := List.length_pos_of_mem hx
    rw [List.length_cons]
    omega
/-- .. and where it is as long, it has all of them. -/
theorem nd_all {α : Type} [DecidableEq α] {a b : List α} (hn : a.Nodup) (hs : ∀ x ∈ a, x ∈ b) (hl : b.length ≤ a.length) : ∀ x ∈ b, x ∈ a := by
  intro x hx
  by_cases h : x ∈ a
  · exact h
  · have := nd_sub (x :: a) b (List.nodup_cons.2 ⟨h, hn⟩) (fun y hy => by
      rcases List.mem_cons.1 hy with rfl | hy
      · exact hx
      · exact hs y hy)
    rw [List.length_cons] at this
    omega
theorem nd_len {α : Type} [DecidableEq α] {a b : List α} (ha : a.Nodup) (hb : b.Nodup) (h : ∀ x, x ∈ a ↔ x ∈ b) : a.length = b.length :=
  Nat.le_antisymm (nd_sub a b ha (fun x hx => (h x).1 hx)) (nd_sub b a hb (fun x hx => (h x).2 hx))

/-- A permutation of n numbers. -/
def Pm (n : Nat) (p : List Nat) : Prop := p.length = n ∧ (∀ x ∈ p, x < n) ∧ p.Nodup
/-- What maps i to a[b[i]]. -/
def mu (a b : List Nat) : List Nat := b.map fun i => a.getD i 0
theorem getD_get {l : List Nat} {i : Nat} (h : i < l.length) : l.getD i 0 = l[i] := by
  rw [List.getD_eq_getElem?_getD, List.getElem?_eq_getElem h]
  rfl
theorem getD_mem {l : List Nat} {i : Nat} (h : i < l.length) : l.getD i 0 ∈ l := by
  rw [getD_get h]
  exact List.getElem_mem h
theorem mu_length (a b : List Nat) : (mu a b).length = b.length := List.length_map _
theorem mu_at {a b : List Nat} {i : Nat} (h : i < b.length) : (mu a b).getD i 0 = a.getD (b.getD i 0) 0 := by
  rw [getD_get (by rw [mu_length]; exact h), getD_get h]
  unfold mu
  rw [List.getElem_map]
theorem ext_getD {a b : List Nat} (hl : a.length = b.length) (h : ∀ i, i < a.length → a.getD i 0 = b.getD i 0) : a = b := by
  apply List.ext_getElem hl
  intro i h1 h2
  have := h i h1
  rwa [getD_get h1, getD_get h2] at this
theorem nodup_getD {l : List Nat} : l.Nodup ↔ ∀ i j, i < j → j < l.length → l.getD i 0 ≠ l.getD j 0 := by
  unfold List.Nodup
  rw [List.pairwise_iff_getElem]
  constructor
  · intro h i j hij hj e
    rw [getD_get (by omega), getD_get hj] at e
    exact h i j (by omega) hj hij e
  · intro h i j hi hj hij e
    refine h i j hij hj ?_
    rw [getD_get hi, getD_get hj]
    exact e
theorem Pm.lt {n : Nat} {p : List Nat} (h : Pm n p) {i : Nat} (hi : i < n) : p.getD i 0 < n := h.2.1 _ (getD_mem (by rw [h.1]; exact hi))
theorem Pm.inj {n : Nat} {p : List Nat} (h : Pm n p) {i j : Nat} (hi : i < n) (hj : j < n) (e : p.getD i 0 = p.getD j 0) : i = j := by
  rcases Nat.lt_trichotomy i j with h1 | h1 | h1
  · exact absurd e (nodup_getD.1 h.2.2 i j h1 (by rw [h.1]; exact hj))
  · exact h1
  · exact absurd e.symm (nodup_getD.1 h.2.2 j i h1 (by rw [h.1]; exact hi))
theorem Pm.mk_ {n : Nat} {p : List Nat} (hl : p.length = n) (h1 : ∀ i, i < n → p.getD i 0 < n) (h2 : ∀ i j, i < n → j < n → p.getD i 0 = p.getD j 0 → i = j) : Pm n p := by
  refine ⟨hl, fun x hx => ?_, nodup_getD.2 fun i j hij hj e => ?_⟩
  · obtain ⟨i, hi, e⟩ := List.getElem_of_mem hx
    rw [← e, ← getD_get hi]
    exact h1 i (by omega)
  · have := h2 i j (by omega) (by omega) e
    omega
theorem Pm.sur {n : Nat} {p : List Nat} (h : Pm n p) {y : Nat} (hy : y < n) : ∃ i, i < n ∧ p.getD i 0 = y := by
  have := nd_all (a := p) (b := List.range n) h.2.2 (fun x hx => List.mem_range.2 (h.2.1 x hx)) (by rw [List.length_range, h.1]; exact Nat.le_refl _) y (List.mem_range.2 hy)
  obtain ⟨i, hi, e⟩ := List.getElem_of_mem this
  exact ⟨i, by rw [← h.1]; exact hi, by rw [getD_get hi, e]⟩
theorem Pm.mul {n : Nat} {a b : List Nat} (ha : Pm n a) (hb : Pm n b) : Pm n (mu a b) := by
  refine Pm.mk_ (by rw [mu_length, hb.1]) (fun i hi => ?_) (fun i j hi hj e => ?_)
  · rw [mu_at (by rw [hb.1]; exact hi)]
    exact ha.lt (hb.lt hi)
  · rw [mu_at (by rw [hb.1]; exact hi), mu_at (by rw [hb.1]; exact hj)] at e
    exact hb.inj hi hj (ha.inj (hb.lt hi) (hb.lt hj) e)
theorem range_at {n i : Nat} (h : i < n) : (List.range n).getD i 0 = i := by
  rw [getD_get (by rw [List.length_range]; exact h), List.getElem_range]
theorem Pm.id (n : Nat) : Pm n (List.range n) :=
  Pm.mk_ List.length_range (fun i hi => by rw [range_at hi]; exact hi) (fun i j hi hj e => by rwa [range_at hi, range_at hj] at e)
theorem mu_assoc {n : Nat} {a b c : List Nat} (hb : Pm n b) (hc : Pm n c) : mu (mu a b) c = mu a (mu b c) := by
  refine ext_getD (by rw [mu_length, mu_length, mu_length]) (fun i hi => ?_)
  rw [mu_length] at hi
  rw [mu_at hi, mu_at (by rw [hb.1]; exact hc.lt (by rw [← hc.1]; exact hi)), mu_at (by rw [mu_length]; exact hi), mu_at hi]
theorem mu_id {n : Nat} {p : List Nat} (h : Pm n p) : mu p (List.range n) = p := by
  refine ext_getD (by rw [mu_length, List.length_range, h.1]) (fun i hi => ?_)
  rw [mu_length, List.length_range] at hi
  rw [mu_at (by rw [List.length_range]; exact hi), range_at hi]
theorem id_mu {n : Nat} {p : List Nat} (h : Pm n p) : mu (List.range n) p = p := by
  refine ext_getD (by rw [mu_length]) (fun i hi => ?_)
  rw [mu_length] at hi
  rw [mu_at hi, range_at (h.lt (by rw [← h.1]; exact hi))]
/-- The inverse. -/
def vi (p : List Nat) : List Nat := (List.range p.length).map fun y => p.idxOf y
theorem vi_at {n : Nat} {p : List Nat} (h : Pm n p) {i : Nat} (hi : i < n) : (vi p).getD (p.getD i 0) 0 = i := by
  have hy := h.lt hi
  have hl : (vi p).length = n := by unfold vi; rw [List.length_map, List.length_range, h.1]
  rw [getD_get (by rw [hl]; exact hy)]
  unfold vi
  rw [List.getElem_map, List.getElem_range]
  have hm : p.getD i 0 ∈ p := getD_mem (by rw [h.1]; exact hi)
  have h1 := List.idxOf_lt_length_of_mem hm
  have h2 : p[p.idxOf (p.getD i 0)]'h1 = p.getD i 0 := List.getElem_idxOf h1
  rw [← getD_get h1] at h2
  exact h.inj (by rw [← h.1]; exact h1) hi h2
theorem vi_length {n : Nat} {p : List Nat} (h : Pm n p) : (vi p).length = n := by unfold vi; rw [List.length_map, List.length_range, h.1]
theorem at_vi {n : Nat} {p : List Nat} (h : Pm n p) {y : Nat} (hy : y < n) : p.getD ((vi p).getD y 0) 0 = y := by
  obtain ⟨i, hi, rfl⟩ := h.sur hy
  rw [vi_at h hi]
theorem Pm.vi {n : Nat} {p : List Nat} (h : Pm n p) : Pm n (vi p) := by
  refine Pm.mk_ (vi_length h) (fun y hy => ?_) (fun y z hy hz e => ?_)
  · obtain ⟨i, hi, rfl⟩ := h.sur hy
    rw [vi_at h hi]
    exact hi
  · rw [← at_vi h hy, e, at_vi h hz]
theorem vi_mu {n : Nat} {p : List Nat} (h : Pm n p) : mu (Go.Proofs.Ytobchecnfkocdaa.vi p) p = List.range n := by
  refine ext_getD (by rw [mu_length, List.length_range, h.1]) (fun i hi => ?_)
  rw [mu_length, h.1] at hi
  rw [mu_at (by rw [h.1]; exact hi), vi_at h hi, range_at hi]
theorem mu_vi {n : Nat} {p : List Nat} (h : Pm n p) : mu p (Go.Proofs.Ytobchecnfkocdaa.vi p) = List.range n := by
  refine ext_getD (by rw [mu_length, List.length_range, vi_length h]) (fun i hi => ?_)
  rw [mu_length, vi_length h] at hi
  rw [mu_at (by rw [vi_length h]; exact hi), at_vi h hi, range_at hi]
theorem mu_left {n : Nat} {a b c : List Nat} (ha : Pm n a) (hb : Pm n b) (hc : Pm n c) (e : mu a b = mu a c) : b = c := by
  have h1 := congrArg (mu (vi a)) e
  rwa [← mu_assoc ha hb, ← mu_assoc ha hc, vi_mu ha, id_mu hb, id_mu hc] at h1
theorem mu_right {n : Nat} {a b c : List Nat} (ha : Pm n a) (hb : Pm n b) (hc : Pm n c) (e : mu b a = mu c a) : b = c := by
  have h1 : mu (mu b a) (vi a) = mu (mu c a) (vi a) := by rw [e]
  rwa [mu_assoc ha ha.vi, mu_assoc ha ha.vi, mu_vi ha, mu_id hb, mu_id hc] at h1
theorem vi_uniq {n : Nat} {a b : List Nat} (ha : Pm n a) (hb : Pm n b) (e : mu a b = List.range n) : b = vi a :=
  mu_left ha hb ha.vi (by rw [e, mu_vi ha])
theorem vi_vi {n : Nat} {a : List Nat} (ha : Pm n a) : vi (vi a) = a := (vi_uniq ha.vi ha (vi_mu ha)).symm
theorem vi_mul {n : Nat} {a b : List Nat} (ha : Pm n a) (hb : Pm n b) : vi (mu a b) = mu (vi b) (vi a) := by
  refine (vi_uniq (ha.mul hb) (hb.vi.mul ha.vi) ?_).symm
  rw [mu_assoc hb (hb.vi.mul ha.vi), ← mu_assoc hb.vi ha.vi, mu_vi hb, id_mu ha.vi, mu_vi ha]

/-- The group that generators generate. -/
inductive Gen (n : Nat) (gens : List (List Nat)) : List Nat → Prop
  | id : Gen n gens (List.range n)
  | mul {p g : List Nat} : Gen n gens p → g ∈ gens → Gen n gens (mu p g)
theorem Gen.pm {n : Nat} {gens : List (List Nat)} (hg : ∀ g ∈ gens, Pm n g) {p : List Nat} (h : Gen n gens p) : Pm n p := by
  induction h with
  | id => exact Pm.id n
  | mul _ hm ih => exact ih.mul (hg _ hm)
theorem Gen.one {n : Nat} {gens : List (List Nat)} (hg : ∀ g ∈ gens, Pm n g) {g : List Nat} (h : g ∈ gens) : Gen n gens g := by
  have := Gen.mul (Gen.id (n := n) (gens := gens)) h
  rwa [id_mu (hg g h)] at this
theorem Gen.prod {n : Nat} {gens : List (List Nat)} (hg : ∀ g ∈ gens, Pm n g) {p q : List Nat} (hp : Gen n gens p) (hq : Gen n gens q) : Gen n gens (mu p q) := by
  induction hq with
  | id => rw [mu_id (hp.pm hg)]; exact hp
  | mul hq hm ih =>
    rw [← mu_assoc (hq.pm hg) (hg _ hm)]
    exact Gen.mul ih hm
/-- What is closed under the generators from the left has the group. -/
theorem Gen.left {n : Nat} {gens : List (List Nat)} (hg : ∀ g ∈ gens, Pm n g) {S : List Nat → Prop} (h0 : S (List.range n)) (hS : ∀ p g, S p → Pm n p → g ∈ gens → S (mu g p)) {p : List Nat} (hp : Gen n gens p) : S p := by
  have h : ∀ q, S q → Pm n q → S (mu p q) := by
    induction hp with
    | id => intro q hq hpq; rwa [id_mu hpq]
    | mul hp hm ih =>
      intro q hq hpq
      rw [mu_assoc (hg _ hm) hpq]
      exact ih _ (hS q _ hq hpq hm) ((hg _ hm).mul hpq)
  have := h _ h0 (Pm.id n)
  rwa [mu_id (hp.pm hg)] at this
theorem Gen.mono {n : Nat} {a b : List (List Nat)} (h : ∀ g ∈ a, Gen n b g) (hb : ∀ g ∈ b, Pm n g) {p : List Nat} (hp : Gen n a p) : Gen n b p := by
  induction hp with
  | id => exact Gen.id
  | mul _ hm ih => exact Gen.prod hb ih (h _ hm)
/-- A finite group has the inverses. -/
theorem Gen.inv {n : Nat} {gens L : List (List Nat)} (hg : ∀ g ∈ gens, Pm n g) (hn : L.Nodup) (hL : ∀ p, p ∈ L ↔ Gen n gens p) {p : List Nat} (hp : Gen n gens p) : Gen n gens (vi p) := by
  have hpm := hp.pm hg
  have h1 : (L.map (mu p)).Nodup := by
    unfold List.Nodup
    rw [List.pairwise_map]
    refine List.Pairwise.imp_of_mem (fun {a b} ha hb hab e => ?_) hn
    exact hab (mu_left hpm (((hL _).1 ha).pm hg) (((hL _).1 hb).pm hg) e)
  have h2 := nd_all h1 (fun x hx => by
    obtain ⟨q, hq, rfl⟩ := List.mem_map.1 hx
    exact (hL _).2 (hp.prod hg ((hL _).1 hq))) (by rw [List.length_map]; exact Nat.le_refl _) (List.range n) ((hL _).2 Gen.id)
  obtain ⟨q, hq, e⟩ := List.mem_map.1 h2
  have hq := (hL _).1 hq
  rwa [← vi_uniq hpm (hq.pm hg) e]
end Go.Proofs.Ytobchecnfkocdaa
