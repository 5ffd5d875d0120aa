/- Regions that draw their order, in general: guards, and operations that use up what an earlier one left (an append into the row of an earlier append). -/
import Derived.Test.YtdjlblfpkieenaaDoorRel
namespace Go.Proofs.YtdjlblfpkieenaaDoor
open Go.RowKit Go.Sort
set_option linter.unusedVariables false

/-- Operation i' waits for operation i. -/
def waitsB (l : List Oper) (i' i : Nat) : Bool := match l[i']? with
  | some o => (depsOf o).elem i
  | none => false
/-- Operation i waits for operation j, and finds what j has left: who uses that up is i itself, or comes later. -/
def usable (eats : Nat → Nat → Bool) (l : List Oper) (n i j : Nat) : Bool := waitsB l i j && (List.range n).all fun i' => !(eats i' j) || decide (i' = i) || waitsB l i' i
section
variable {P : Program} (frame : (Nat → Value) → Act) (C : World → Prop) (φ : Nat → Value → World → Prop) (ψ : Nat → Nat → Value → Value → Prop) (eats : Nat → Nat → Bool) (l : List Oper) (n : Nat) (Q : Exit → Act → World → Prop)

/-- What an operation must leave: its own property; those of the others that it does not use up; and how it stands to them. -/
def LeftG (use : Nat → Bool) (i : Nat) (vs : Nat → Value) (w : World) (a' : Act) (w' : World) : Prop := ∃ v, a' = frame (upd vs i v) ∧ C w' ∧ φ i v w' ∧
  (∀ j u, j ≠ i → eats i j = false → φ j u w → (∀ k, use k = true → k ≠ j → ψ k j (vs k) u) → φ j u w') ∧
  (∀ j u, j ≠ i → eats i j = false → φ j u w → (∀ k, use k = true → k ≠ j → ψ k j (vs k) u) → ψ i j v u ∧ ψ j i u v)
structure StepG (P : Program) (o : Oper) (i : Nat) : Prop where
  out : ∀ vs w, C w → (∀ j, usable eats l n i j = true → φ j (vs j) w) → Region.wanted o (yielded l.toArray (frame vs).tmps) = true ∧ ∀ K : Act → World → Prop, (∀ a' w', LeftG frame C φ ψ eats (usable eats l n i) i vs w a' w' → K a' w') → o.wp P (frame vs) w K Q
def StepsG (P : Program) : List Oper → Nat → Prop
  | [], _ => True
  | o :: r, k => StepG frame C φ ψ eats l n Q P o k ∧ StepsG P r (k + 1)
variable {frame C φ ψ eats l n Q}
theorem StepsG.at : ∀ (r : List Oper) (k i : Nat) (o : Oper), StepsG frame C φ ψ eats l n Q P r k → r[i]? = some o → StepG frame C φ ψ eats l n Q P o (k + i)
  | [], _, i, o, _, h => by simp at h
  | x :: r, k, 0, o, hs, h => by
    simp at h
    subst h
    exact hs.1
  | x :: r, k, i + 1, o, hs, h => by
    have := StepsG.at r (k + 1) i o hs.2 (by simpa using h)
    rwa [show k + 1 + i = k + (i + 1) by omega] at this

/-- The first n operations: each waits for earlier ones alone. -/
def headsG (l : List Oper) (n : Nat) : Bool := (List.range n).all fun i => match l[i]? with
  | some o => (depsOf o).all fun j => decide (j < i)
  | none => false
/-- Done, and not used up. -/
def liveG (eats : Nat → Nat → Bool) (n : Nat) (s : Array Bool) (j : Nat) : Prop := s.getD j false = true ∧ ∀ i, i < n → s.getD i false = true → eats i j = false

theorem gen_any (hn : n < l.length) (hs : Region.sinkB .any l.toArray n = true) (hc : Region.chainB .any l.toArray n = true) (hh : headsG l n = true)
    (hq : Region.seqB .any l.toArray (l.length - n) n (firstDone l.length n) = true) (step : StepsG frame C φ ψ eats l n Q P (l.take n) 0)
    (fin : ∀ vs w, C w → (∀ i, i < n → (∀ k, k < n → eats k i = false) → φ i (vs i) w) → (∀ i j, i < n → j < n → (∀ k, k < n → eats k i = false) → (∀ k, k < n → eats k j = false) → i ≠ j → ψ i j (vs i) (vs j)) → wpList P l.toArray Q (l.drop n) (frame vs) w) :
    ∀ f s vs w, HeadInv .any l.toArray n s → unl s n = f → C w → (∀ i, i < n → liveG eats n s i → φ i (vs i) w) → (∀ i j, i < n → j < n → liveG eats n s i → liveG eats n s j → i ≠ j → ψ i j (vs i) (vs j)) →
      wpAny P .any l.toArray Q (f + (l.length - n)) s (frame vs) w := by
  have hns : n < l.toArray.size := by simpa using hn
  have headAt : ∀ i, i < n → ∃ o, l[i]? = some o ∧ (∀ j, j ∈ depsOf o → j < i) := fun i hi => by
    have h := List.all_eq_true.1 hh i (List.mem_range.2 hi)
    cases ho : l[i]? with
    | none => rw [ho] at h; cases h
    | some o =>
      rw [ho] at h
      simp only [List.all_eq_true, decide_eq_true_eq] at h
      exact ⟨o, rfl, h⟩
  intro f
  induction f with
  | zero =>
    intro s vs w inv hu hC hv hp
    have hall := unl_zero n hu
    have hsz : s.size = l.length := by rw [inv.size]; simp
    have hlist : ∀ i, i < n → s.getD i false = true := fun i hi => by
      have := hall i hi
      have hi' : i < s.size := by omega
      simp [hi'] at this ⊢
      exact this
    have hdone : s = firstDone l.length n := by
      apply Array.ext
      · simp [firstDone, hsz]
      · intro i h1 h2
        have : (firstDone l.length n)[i] = decide (i < n) := by simp [firstDone]
        rw [this]
        by_cases hi : i < n
        · have := hlist i hi
          simp [h1] at this
          simp [this, hi]
        · have := inv.tail i (by omega) (by rw [← inv.size]; exact h1)
          simp [h1] at this
          simp [this, hi]
    rw [Nat.zero_add]
    have hd : (l.drop n).length = l.length - n := by simp
    have := wpAny_of_seq (P := P) (md := .any) (ops := l.toArray) (Q' := Q) (l.drop n) n s (frame vs) w (fun j => by simp [List.getElem?_drop]) (by rw [hd, hdone]; exact hq)
      (fin vs w hC (fun i hi he => hv i hi ⟨hlist i hi, fun k hk _ => he k hk⟩) (fun i j hi hj he1 he2 hne => hp i j hi hj ⟨hlist i hi, fun k hk _ => he1 k hk⟩ ⟨hlist j hj, fun k hk _ => he2 k hk⟩ hne))
    rwa [hd] at this
  | succ f ih =>
    intro s vs w inv hu hC hv hp
    have hsz : s.size = l.length := by rw [inv.size]; simp
    obtain ⟨m, hmn, hmf, hml⟩ := unl_first (s := s) n (by rw [hu]; omega)
    have hlow : ∀ j, j ∈ Region.ready .any l.toArray s → j < n := fun j hj => Nat.lt_of_not_le fun h => tail_waits hs hc hns inv _ m rfl hmn hmf j h hj
    have hready : m ∈ Region.ready .any l.toArray s := by
      obtain ⟨o, ho, hdep⟩ := headAt m hmn
      refine mem_ready.2 ⟨hmf, o, by simpa using ho, fun e he hb => ?_⟩
      have hlt := hdep e.on (mem_depsOf.2 ⟨e, he, hb, rfl⟩)
      have := hml e.on hlt
      have hi' : e.on < s.size := by omega
      simp [hi'] at this ⊢
      exact this
    rw [Nat.succ_add]
    refine ⟨fun h => (by rw [h] at hready; cases hready), fun i hi => ?_⟩
    have hin := hlow i hi
    obtain ⟨o, ho, _⟩ := headAt i hin
    obtain ⟨hun, o', ho', hdone⟩ := mem_ready.1 hi
    have hoa : l.toArray[i]? = some o := by simpa using ho
    obtain rfl : o' = o := Option.some.inj (ho'.symm.trans hoa)
    have hst := StepsG.at (P := P) (l.take n) 0 i o' step (by rw [List.getElem?_take_of_lt hin]; exact ho)
    rw [Nat.zero_add] at hst
    have hdl : ∀ j, j ∈ depsOf o' → j < n ∧ s.getD j false = true := fun j hj => by
      obtain ⟨e, he, hb, rfl⟩ := mem_depsOf.1 hj
      have h1 := hdone e he hb
      refine ⟨?_, h1⟩
      apply Nat.lt_of_not_le
      intro hge
      by_cases hlt : e.on < l.toArray.size
      · have := getD_both (inv.tail e.on hge hlt)
        rw [this] at h1
        cases h1
      · have : s.getD e.on false = false := by
          have : s.size ≤ e.on := by rw [inv.size]; omega
          simp [Array.getElem?_eq_none this]
        rw [this] at h1
        cases h1
    have hlive : ∀ j, usable eats l n i j = true → j < n ∧ liveG eats n s j := fun j hu => by
      unfold usable at hu
      rw [Bool.and_eq_true] at hu
      obtain ⟨hw, hall⟩ := hu
      have hj : j ∈ depsOf o' := by
        unfold waitsB at hw
        rw [ho] at hw
        exact List.elem_iff.1 hw
      refine ⟨(hdl j hj).1, (hdl j hj).2, fun i' hi' hs' => ?_⟩
      cases he : eats i' j with
      | false => rfl
      | true =>
        have h1 : i < s.size := by omega
        have hun' : s.getD i false = false := by
          simp [h1] at hun ⊢
          exact hun
        have h2 := List.all_eq_true.1 hall i' (List.mem_range.2 hi')
        simp only [Bool.or_eq_true, Bool.not_eq_true', decide_eq_true_eq] at h2
        rcases h2 with (h2 | h2) | h2
        · rw [he] at h2; cases h2
        · subst h2
          rw [hun'] at hs'
          cases hs'
        · unfold waitsB at h2
          cases hl : l[i']? with
          | none => rw [hl] at h2; cases h2
          | some o2 =>
            rw [hl] at h2
            obtain ⟨e, he2, hb2, hon⟩ := mem_depsOf.1 (List.elem_iff.1 h2)
            have := inv.closed i' o2 (by simpa using hl) hs' e he2 hb2
            rw [hon, hun'] at this
            cases this
    obtain ⟨hwant, hwp0⟩ := hst.out vs w hC (fun j hj => hv j (hlive j hj).1 (hlive j hj).2)
    have hwp := hwp0 _ fun _ _ h => h
    unfold wpOp
    simp only [ho', hwant, if_true]
    refine .inl (Oper.wp_mono ?_ hwp)
    rintro a' w' ⟨v, rfl, hC', hvi, hkeep, hpi⟩
    have hold : ∀ j, j < n → j ≠ i → liveG eats n (s.setIfInBounds i true) j → liveG eats n s j ∧ eats i j = false := fun j hj hji hl => by
      refine ⟨⟨?_, fun i' hi' hs' => ?_⟩, ?_⟩
      · have := hl.1
        rwa [getD_set_ne false (fun h => hji h.symm)] at this
      · refine hl.2 i' hi' ?_
        by_cases e : i' = i
        · subst e
          have h1 : i' < s.size := by omega
          simp [h1]
        · rw [getD_set_ne false (fun h => e h.symm)]
          exact hs'
      · refine hl.2 i hin ?_
        have h1 : i < s.size := by omega
        simp [h1]
    refine ih (s.setIfInBounds i true) (upd vs i v) w' (inv.set hi hin) ?_ hC' ?_ ?_
    · have := unl_set (s := s) (i := i) (by omega) hun n hin
      omega
    · intro j hj hl
      by_cases hji : j = i
      · subst hji
        rw [upd_same]
        exact hvi
      · obtain ⟨hl0, he⟩ := hold j hj hji hl
        rw [upd_other vs v hji]
        exact hkeep j (vs j) hji he (hv j hj hl0) fun k hk hkj => hp k j (hlive k hk).1 hj (hlive k hk).2 hl0 hkj
    · intro j k hj hk hlj hlk hne
      by_cases hji : j = i
      · subst hji
        obtain ⟨hl0, he⟩ := hold k hk (fun h => hne h.symm) hlk
        rw [upd_same, upd_other vs v (fun h => hne h.symm)]
        exact (hpi k (vs k) (fun h => hne h.symm) he (hv k hk hl0) fun q hq hqk => hp q k (hlive q hq).1 hk (hlive q hq).2 hl0 hqk).1
      · obtain ⟨hl0, he⟩ := hold j hj hji hlj
        by_cases hki : k = i
        · subst hki
          rw [upd_same, upd_other vs v hji]
          exact (hpi j (vs j) hji he (hv j hj hl0) fun q hq hqk => hp q j (hlive q hq).1 hj (hlive q hq).2 hl0 hqk).2
        · obtain ⟨hk0, _⟩ := hold k hk hki hlk
          rw [upd_other vs v hji, upd_other vs v hki]
          exact hp j k hj hk hl0 hk0 hne

/-- Values put into slots, where there is one. -/
def putO (a : Act) : List (Option Nat) → Nat → (Nat → Value) → Act
  | [], _, _ => a
  | t :: r, k, vs => putO (a.put t (vs k)) r (k + 1) vs
/-- A region that draws its order. -/
theorem region_gen {id : Nat} {a : Act} {w : World} {l : List Oper} (n : Nat) (slots : List (Option Nat)) (C : World → Prop) (φ : Nat → Value → World → Prop) (ψ : Nat → Nat → Value → Value → Prop) (eats : Nat → Nat → Bool) (hm : P.follows .mixedOrders = true)
    (hB : (decide (n < l.length) && Region.sinkB .any l.toArray n && Region.chainB .any l.toArray n && headsG l n && Region.seqB .any l.toArray (l.length - n) n (firstDone l.length n)) = true)
    (hfr : putO a slots 0 (fun k => match slots.getD k none with | some t => a.tmps.getD t undef | none => undef) = a) (hC : C w.drew) (step : StepsG (putO a slots 0) C φ ψ eats l n Q P (l.take n) 0)
    (fin : ∀ vs w, C w → (∀ i, i < n → (∀ k, k < n → eats k i = false) → φ i (vs i) w) → (∀ i j, i < n → j < n → (∀ k, k < n → eats k i = false) → (∀ k, k < n → eats k j = false) → i ≠ j → ψ i j (vs i) (vs j)) → wpList P l.toArray Q (l.drop n) (putO a slots 0 vs) w) :
    (Code.region id l.toArray true).wp P Q a w := by
  simp only [Bool.and_eq_true, decide_eq_true_eq] at hB
  obtain ⟨⟨⟨⟨hn, hs⟩, hc⟩, hh⟩, hq⟩ := hB
  refine wp_region_any hm ?_
  have inv : HeadInv .any l.toArray n (Array.replicate l.toArray.size false) := by
    refine ⟨by simp, fun j oj _ hj => ?_, fun t _ hlt => getD_in (by simpa using hlt) (getD_replicate_false _ _)⟩
    rw [getD_replicate_false] at hj
    cases hj
  have hu : unl (Array.replicate l.toArray.size false) n = n := by
    unfold unl
    rw [List.filter_eq_self.2, List.length_range]
    intro i hi
    have := List.mem_range.1 hi
    rw [getD_in (by simp; omega) (getD_replicate_false _ _)]
    rfl
  have := gen_any (P := P) (frame := putO a slots 0) (C := C) (φ := φ) (ψ := ψ) (eats := eats) (Q := Q) hn hs hc hh hq step fin n _ (fun k => match slots.getD k none with | some t => a.tmps.getD t undef | none => undef) w.drew inv hu hC (fun i _ h => by have := h.1; rw [getD_replicate_false] at this; cases this) (fun i j _ _ h => by have := h.1; rw [getD_replicate_false] at this; cases this)
  rw [Nat.add_sub_cancel' (Nat.le_of_lt hn), hfr] at this
  simpa using this
end
end Go.Proofs.YtdjlblfpkieenaaDoor
