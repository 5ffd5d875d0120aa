/- Regions that draw their order: what each of the first n operations leaves is said by a property that lasts, not by one value (memory that is made lies elsewhere in every order); the rest comes last, in one order. -/
import Derived.StillTail
import Derived.Lib.QuietBelow
import Derived.Test.YtjkojjimlebmjaaDoorMem
namespace Go.Proofs.YtjkojjimlebmjaaDoor
open Go.RowKit Go.Sort
set_option linter.unusedVariables false

/-- How many of the first n are still to come. -/
def unl (s : Array Bool) (n : Nat) : Nat := ((List.range n).filter fun i => !s.getD i true).length
theorem unl_set {s : Array Bool} {i : Nat} (hs : i < s.size) (h : s.getD i true = false) : ∀ n, i < n → unl (s.setIfInBounds i true) n + 1 = unl s n
  | 0, hi => absurd hi (by omega)
  | n + 1, hi => by
    have last : ∀ t : Array Bool, unl t (n + 1) = unl t n + (if t.getD n true = false then 1 else 0) := fun t => by
      unfold unl
      rw [List.range_succ, List.filter_append, List.length_append]
      cases hv : t.getD n true with
      | false => rw [List.filter_cons_of_pos (by rw [hv]; rfl)]; rfl
      | true => rw [List.filter_cons_of_neg (by rw [hv]; decide)]; rfl
    rw [last, last]
    by_cases hin : i = n
    · subst hin
      have same : unl (s.setIfInBounds i true) i = unl s i := by
        unfold unl
        congr 1
        apply List.filter_congr
        intro j hj
        have := List.mem_range.1 hj
        rw [getD_set_ne true (by omega)]
      have ht : (s.setIfInBounds i true).getD i true = true := by simp [hs]
      rw [same, ht, h]
      simp
    · have := unl_set hs h n (by omega)
      rw [getD_set_ne true hin]
      omega
theorem unl_zero {s : Array Bool} : ∀ n, unl s n = 0 → ∀ i, i < n → s.getD i true = true := by
  intro n h i hi
  unfold unl at h
  have := List.length_eq_zero_iff.1 h
  have hm := List.filter_eq_nil_iff.1 this i (List.mem_range.2 hi)
  simpa using hm
theorem unl_first {s : Array Bool} : ∀ n, unl s n ≠ 0 → ∃ i, i < n ∧ s.getD i true = false ∧ ∀ j, j < i → s.getD j true = true := by
  intro n
  induction n with
  | zero => intro h; exact absurd rfl h
  | succ n ih =>
    intro h
    by_cases h0 : unl s n = 0
    · refine ⟨n, by omega, ?_, unl_zero n h0⟩
      cases hn : s.getD n true with
      | false => rfl
      | true =>
        exfalso
        apply h
        unfold unl at h0 ⊢
        rw [List.range_succ, List.filter_append, List.length_append, h0, List.filter_cons_of_neg (by rw [hn]; decide)]
        rfl
    · obtain ⟨i, h1, h2, h3⟩ := ih h0
      exact ⟨i, by omega, h2, h3⟩

def upd (vs : Nat → Value) (i : Nat) (v : Value) : Nat → Value := fun j => if j = i then v else vs j
theorem upd_same (vs : Nat → Value) (i : Nat) (v : Value) : upd vs i v i = v := if_pos rfl
theorem upd_other (vs : Nat → Value) {i j : Nat} (v : Value) (h : j ≠ i) : upd vs i v j = vs j := if_neg h

/-- What an operation waits for. -/
def depsOf (o : Oper) : List Nat := o.after.toList.filterMap fun e => if Region.binds .any e then some e.on else none
theorem mem_depsOf {o : Oper} {j : Nat} : j ∈ depsOf o ↔ ∃ e, e ∈ o.after ∧ Region.binds .any e = true ∧ e.on = j := by
  unfold depsOf
  rw [List.mem_filterMap]
  constructor
  · rintro ⟨e, he, h⟩
    by_cases hb : Region.binds .any e = true
    · rw [if_pos hb] at h
      exact ⟨e, by simpa using he, hb, Option.some.inj h⟩
    · rw [if_neg hb] at h
      cases h
  · rintro ⟨e, he, hb, rfl⟩
    exact ⟨e, by simpa using he, by rw [if_pos hb]⟩

section
variable {P : Program} (frame : (Nat → Value) → Act) (C : World → Prop) (φ : Nat → Value → World → Prop) (ψ : Nat → Nat → Value → Value → Prop) (Q : Exit → Act → World → Prop)

/-- What an operation must leave. -/
def Left (i : Nat) (vs : Nat → Value) (w : World) (a' : Act) (w' : World) : Prop := ∃ v, a' = frame (upd vs i v) ∧ Below w.heap.size w w' ∧ C w' ∧ φ i v w' ∧ ∀ j u, j ≠ i → φ j u w → ψ i j v u ∧ ψ j i u v
/-- One operation: from whatever frame and world where what it waits for is done. -/
structure StepAt (P : Program) (o : Oper) (i : Nat) : Prop where
  out : ∀ vs w, C w → (∀ j, j ∈ depsOf o → φ j (vs j) w) → o.wp P (frame vs) w (Left frame C φ ψ i vs w) Q
def Steps (P : Program) : List Oper → Nat → Prop
  | [], _ => True
  | o :: r, k => StepAt frame C φ ψ Q P o k ∧ Steps P r (k + 1)
variable {frame C φ ψ Q}
/-- One operation that wants the values of two others that it waits for. -/
theorem step_two {o : Oper} {i : Nat} (a b : Nat) (x y : Value) (ha : List.elem a (depsOf o) = true) (hb : List.elem b (depsOf o) = true) (hx : ∀ v w, φ a v w → v = x) (hy : ∀ v w, φ b v w → v = y)
    (h : ∀ vs w, C w → o.wp P (frame (upd (upd vs a x) b y)) w (Left frame C φ ψ i (upd (upd vs a x) b y) w) Q) : StepAt frame C φ ψ Q P o i := by
  constructor
  intro vs w hC hd
  have h1 := hx _ _ (hd a (List.elem_iff.1 ha))
  have h2 := hy _ _ (hd b (List.elem_iff.1 hb))
  have hv : vs = upd (upd vs a x) b y := by
    funext m
    unfold upd
    split
    · rename_i h; rw [h, h2]
    · split
      · rename_i h; rw [h, h1]
      · rfl
  rw [hv]
  exact h vs w hC
theorem step_one {o : Oper} {i : Nat} (a : Nat) (x : Value) (ha : List.elem a (depsOf o) = true) (hx : ∀ v w, φ a v w → v = x)
    (h : ∀ vs w, C w → o.wp P (frame (upd vs a x)) w (Left frame C φ ψ i (upd vs a x) w) Q) : StepAt frame C φ ψ Q P o i := by
  constructor
  intro vs w hC hd
  have h1 := hx _ _ (hd a (List.elem_iff.1 ha))
  have hv : vs = upd vs a x := by
    funext m
    unfold upd
    split
    · rename_i h; rw [h, h1]
    · rfl
  rw [hv]
  exact h vs w hC
theorem Left.intro {i : Nat} {vs : Nat → Value} {w w' : World} {a' : Act} (v : Value) (h1 : a' = frame (upd vs i v)) (h2 : Below w.heap.size w w') (h3 : C w') (h4 : φ i v w') (h5 : ∀ j u, j ≠ i → φ j u w → ψ i j v u ∧ ψ j i u v) : Left frame C φ ψ i vs w a' w' :=
  ⟨v, h1, h2, h3, h4, h5⟩
theorem Steps.at : ∀ (l : List Oper) (k i : Nat) (o : Oper), Steps frame C φ ψ Q P l k → l[i]? = some o → StepAt frame C φ ψ Q P o (k + i)
  | [], _, i, o, _, h => by simp at h
  | x :: r, k, 0, o, hs, h => by
    simp at h
    subst h
    exact hs.1
  | x :: r, k, i + 1, o, hs, h => by
    have := Steps.at r (k + 1) i o hs.2 (by simpa using h)
    rwa [show k + 1 + i = k + (i + 1) by omega] at this

/-- The first n carried out. -/
def firstDone (N n : Nat) : Array Bool := ((List.range N).map fun i => decide (i < n)).toArray
/-- The first n operations: no guard, and each waits for earlier ones alone. -/
def headsB (l : List Oper) (n : Nat) : Bool := (List.range n).all fun i => match l[i]? with
  | some o => o.guard.isNone && (depsOf o).all fun j => decide (j < i)
  | none => false

theorem rel_any {l : List Oper} (n : Nat) (hn : n < l.length) (hs : Region.sinkB .any l.toArray n = true) (hc : Region.chainB .any l.toArray n = true) (hh : headsB l n = true)
    (hq : Region.seqB .any l.toArray (l.length - n) n (firstDone l.length n) = true) (hφ : ∀ i v w w', φ i v w → Below w.heap.size w w' → φ i v w') (step : Steps frame C φ ψ Q P (l.take n) 0)
    (fin : ∀ vs w, C w → (∀ i, i < n → φ i (vs i) w) → (∀ i j, i < n → j < n → i ≠ j → ψ i j (vs i) (vs j)) → wpList P l.toArray Q (l.drop n) (frame vs) w) :
    ∀ f s vs w, HeadInv .any l.toArray n s → unl s n = f → C w → (∀ i, i < n → s.getD i false = true → φ i (vs i) w) → (∀ i j, i < n → j < n → s.getD i false = true → s.getD j false = true → i ≠ j → ψ i j (vs i) (vs j)) →
      wpAny P .any l.toArray Q (f + (l.length - n)) s (frame vs) w := by
  have hns : n < l.toArray.size := by simpa using hn
  have headAt : ∀ i, i < n → ∃ o, l[i]? = some o ∧ o.guard = none ∧ (∀ j, j ∈ depsOf o → j < i) := fun i hi => by
    have h := List.all_eq_true.1 hh i (List.mem_range.2 hi)
    cases ho : l[i]? with
    | none => rw [ho] at h; cases h
    | some o =>
      rw [ho] at h
      simp only [Bool.and_eq_true, Option.isNone_iff_eq_none, List.all_eq_true, decide_eq_true_eq] at h
      exact ⟨o, rfl, h.1, h.2⟩
  intro f
  induction f with
  | zero =>
    intro s vs w inv hu hC hv hp
    have hall := unl_zero n hu
    have hsz : s.size = l.length := by rw [inv.size]; simp
    have hlist : ∀ i, i < n → s.getD i false = true := fun i hi => by
      have := hall i hi
      have hi' : i < s.size := by omega
      simp [hi'] at this ⊢
      exact this
    have hdone : s = firstDone l.length n := by
      apply Array.ext
      · simp [firstDone, hsz]
      · intro i h1 h2
        have : (firstDone l.length n)[i] = decide (i < n) := by simp [firstDone]
        rw [this]
        by_cases hi : i < n
        · have := hlist i hi
          simp [h1] at this
          simp [this, hi]
        · have := inv.tail i (by omega) (by rw [← inv.size]; exact h1)
          simp [h1] at this
          simp [this, hi]
    rw [Nat.zero_add]
    have hd : (l.drop n).length = l.length - n := by simp
    have := wpAny_of_seq (P := P) (md := .any) (ops := l.toArray) (Q' := Q) (l.drop n) n s (frame vs) w (fun j => by simp [List.getElem?_drop]) (by rw [hd, hdone]; exact hq)
      (fin vs w hC (fun i hi => hv i hi (hlist i hi)) (fun i j hi hj hne => hp i j hi hj (hlist i hi) (hlist j hj) hne))
    rwa [hd] at this
  | succ f ih =>
    intro s vs w inv hu hC hv hp
    have hsz : s.size = l.length := by rw [inv.size]; simp
    obtain ⟨m, hmn, hmf, hml⟩ := unl_first (s := s) n (by rw [hu]; omega)
    have hlow : ∀ j, j ∈ Region.ready .any l.toArray s → j < n := fun j hj => Nat.lt_of_not_le fun h => tail_waits hs hc hns inv _ m rfl hmn hmf j h hj
    have hready : m ∈ Region.ready .any l.toArray s := by
      obtain ⟨o, ho, _, hdep⟩ := headAt m hmn
      refine mem_ready.2 ⟨hmf, o, by simpa using ho, fun e he hb => ?_⟩
      have hlt := hdep e.on (mem_depsOf.2 ⟨e, he, hb, rfl⟩)
      have := hml e.on hlt
      have hi' : e.on < s.size := by omega
      simp [hi'] at this ⊢
      exact this
    rw [Nat.succ_add]
    refine ⟨fun h => (by rw [h] at hready; cases hready), fun i hi => ?_⟩
    have hin := hlow i hi
    obtain ⟨o, ho, hgd, _⟩ := headAt i hin
    obtain ⟨hun, o', ho', hdone⟩ := mem_ready.1 hi
    have hoa : l.toArray[i]? = some o := by simpa using ho
    obtain rfl : o' = o := Option.some.inj (ho'.symm.trans hoa)
    have hst := Steps.at (P := P) (l.take n) 0 i o' step (by rw [List.getElem?_take_of_lt hin]; exact ho)
    rw [Nat.zero_add] at hst
    have hwant : Region.wanted o' (yielded l.toArray (frame vs).tmps) = true := by simp [Region.wanted, hgd]
    have hdl : ∀ j, j ∈ depsOf o' → j < n ∧ s.getD j false = true := fun j hj => by
      obtain ⟨e, he, hb, rfl⟩ := mem_depsOf.1 hj
      have h1 := hdone e he hb
      refine ⟨?_, h1⟩
      apply Nat.lt_of_not_le
      intro hge
      by_cases hlt : e.on < l.toArray.size
      · have := getD_both (inv.tail e.on hge hlt)
        rw [this] at h1
        cases h1
      · have : s.getD e.on false = false := by
          have : s.size ≤ e.on := by rw [inv.size]; omega
          simp [Array.getElem?_eq_none this]
        rw [this] at h1
        cases h1
    have hwp := hst.out vs w hC (fun j hj => hv j (hdl j hj).1 (hdl j hj).2)
    unfold wpOp
    simp only [ho', hwant, if_true]
    refine .inl (Oper.wp_mono ?_ hwp)
    rintro a' w' ⟨v, rfl, hbw, hC', hvi, hpi⟩
    refine ih (s.setIfInBounds i true) (upd vs i v) w' (inv.set hi hin) ?_ hC' ?_ ?_
    · have := unl_set (s := s) (i := i) (by omega) hun n hin
      omega
    · intro j hj hl
      by_cases hji : j = i
      · subst hji
        rw [upd_same]
        exact hvi
      · rw [getD_set_ne false (fun h => hji h.symm)] at hl
        rw [upd_other vs v hji]
        exact hφ _ _ _ _ (hv j hj hl) hbw
    · intro j k hj hk hlj hlk hne
      by_cases hji : j = i
      · subst hji
        rw [getD_set_ne false hne] at hlk
        rw [upd_same, upd_other vs v (fun h => hne h.symm)]
        exact (hpi k (vs k) (fun h => hne h.symm) (hv k hk hlk)).1
      · rw [getD_set_ne false (fun h => hji h.symm)] at hlj
        by_cases hki : k = i
        · subst hki
          rw [upd_same, upd_other vs v hji]
          exact (hpi j (vs j) hji (hv j hj hlj)).2
        · rw [getD_set_ne false (fun h => hki h.symm)] at hlk
          rw [upd_other vs v hji, upd_other vs v hki]
          exact hp j k hj hk hlj hlk hne

/-- A region that draws its order: n operations in whatever order, each with a property that lasts; then the rest, in one order. -/
theorem region_rel {id : Nat} {a : Act} {w : World} {l : List Oper} (n : Nat) (hm : P.follows .mixedOrders = true)
    (hB : (decide (n < l.length) && Region.sinkB .any l.toArray n && Region.chainB .any l.toArray n && headsB l n && Region.seqB .any l.toArray (l.length - n) n (firstDone l.length n)) = true)
    (vs0 : Nat → Value) (hfr : frame vs0 = a) (hC : C w.drew) (hφ : ∀ i v w w', φ i v w → Below w.heap.size w w' → φ i v w') (step : Steps frame C φ ψ Q P (l.take n) 0)
    (fin : ∀ vs w, C w → (∀ i, i < n → φ i (vs i) w) → (∀ i j, i < n → j < n → i ≠ j → ψ i j (vs i) (vs j)) → wpList P l.toArray Q (l.drop n) (frame vs) w) :
    (Code.region id l.toArray true).wp P Q a w := by
  simp only [Bool.and_eq_true, decide_eq_true_eq] at hB
  obtain ⟨⟨⟨⟨hn, hs⟩, hc⟩, hh⟩, hq⟩ := hB
  subst hfr
  refine wp_region_any hm ?_
  have inv : HeadInv .any l.toArray n (Array.replicate l.toArray.size false) := by
    refine ⟨by simp, fun j oj _ hj => ?_, fun t _ hlt => getD_in (by simpa using hlt) (getD_replicate_false _ _)⟩
    rw [getD_replicate_false] at hj
    cases hj
  have hu : unl (Array.replicate l.toArray.size false) n = n := by
    unfold unl
    rw [List.filter_eq_self.2, List.length_range]
    intro i hi
    have := List.mem_range.1 hi
    rw [getD_in (by simp; omega) (getD_replicate_false _ _)]
    rfl
  have := rel_any (P := P) (frame := frame) (C := C) (φ := φ) (ψ := ψ) (Q := Q) n hn hs hc hh hq hφ step fin n _ vs0 w.drew inv hu hC (fun i _ h => by rw [getD_replicate_false] at h; cases h) (fun i j _ _ h => by rw [getD_replicate_false] at h; cases h)
  rw [Nat.add_sub_cancel' (Nat.le_of_lt hn)] at this
  simpa using this
end

/-- Values put into slots. -/
def putAll (a : Act) : List Nat → Nat → (Nat → Value) → Act
  | [], _, _ => a
  | t :: r, k, vs => putAll (a.put (some t) (vs k)) r (k + 1) vs
/-- .. with the slots named. -/
theorem region_put {P : Program} {id : Nat} {a : Act} {w : World} {l : List Oper} {Q : Exit → Act → World → Prop} (n : Nat) (slots : List Nat) (C : World → Prop) (φ : Nat → Value → World → Prop) (ψ : Nat → Nat → Value → Value → Prop) (hm : P.follows .mixedOrders = true)
    (hB : (decide (n < l.length) && Region.sinkB .any l.toArray n && Region.chainB .any l.toArray n && headsB l n && Region.seqB .any l.toArray (l.length - n) n (firstDone l.length n)) = true)
    (vs0 : Nat → Value) (hfr : putAll a slots 0 vs0 = a) (hC : C w.drew) (hφ : ∀ i v w w', φ i v w → Below w.heap.size w w' → φ i v w') (step : Steps (putAll a slots 0) C φ ψ Q P (l.take n) 0)
    (fin : ∀ vs w, C w → (∀ i, i < n → φ i (vs i) w) → (∀ i j, i < n → j < n → i ≠ j → ψ i j (vs i) (vs j)) → wpList P l.toArray Q (l.drop n) (putAll a slots 0 vs) w) :
    (Code.region id l.toArray true).wp P Q a w :=
  region_rel n hm hB vs0 hfr hC hφ step fin
end Go.Proofs.YtjkojjimlebmjaaDoor
