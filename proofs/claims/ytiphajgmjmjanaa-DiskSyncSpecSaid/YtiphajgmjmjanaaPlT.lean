/- Plain words for syncing one by one or together, and for a history of acts. -/
import Derived.Test.YtiphajgmjmjanaaPlR
namespace Go.Proofs.Ytiphajgmjmjanaa
set_option linter.unusedVariables false

/-- A sector both halves of which begin with a byte. -/
def dbl (x y : UInt8) : List UInt8 := x :: List.replicate 63 0 ++ y :: List.replicate 63 0
set_option maxRecDepth 10000 in
theorem dbl_length (x y : UInt8) : (dbl x y).length = 128 := rfl
set_option maxRecDepth 10000 in
theorem torn_dbl (a b x y : UInt8) : torn (dbl a b) (dbl x y) = dbl x b := rfl
set_option maxRecDepth 10000 in
theorem dbl_zero : dbl 0 0 = List.replicate 128 0 := rfl

/-- A running disk without pending writes, and the writes that come. -/
theorem wr_many {d : Dk} (hr : rng d = true) (hp : d.pend = []) : ∀ (l : List (Int × List UInt8)), l.length ≤ 4096 → (∀ a ∈ l, has d a.1 = true ∧ a.2.length = 128) → rng { d with pend := l } = true := by
  intro l hl h
  obtain ⟨hv, hs⟩ := rng_facts hr
  obtain ⟨f1, f2, f3, f4, f5⟩ := vld_facts.1 hv
  unfold rng
  simp only [Bool.and_eq_true, Bool.not_eq_true']
  exact ⟨vld_facts.2 ⟨f1, hl, f3, f4, fun a ha => ⟨has_facts (h a ha).1, (h a ha).2⟩⟩, hs⟩
theorem wre_zero {d : Dk} {k : Int} {b : List UInt8} (hr : rng d = true) (hh : has d k = true) (hb : b.length ≤ 128) (hp : d.pend.length < 4096) : wre d k b = 0 := by
  unfold wre
  rw [hr, hh, if_neg (by decide), if_neg (by omega), if_neg (by omega)]

/-- What one-by-one syncs leave behind i of the writes l, if none of them stopped. -/
def tog (d : Dk) (l : List (Int × List UInt8)) (i : Nat) : Dk := ⟨perf d.secs (l.take i), [], if d.left = -1 then -1 else d.left - i, false⟩
theorem tog_zero {d : Dk} (l : List (Int × List UInt8)) (hp : d.pend = []) (hs : d.stop = false) : tog d l 0 = d := by
  obtain ⟨s, p, le, q⟩ := d
  simp only at hp hs
  subst hp hs
  unfold tog
  simp only [List.take_zero]
  show (⟨s, [], if le = -1 then -1 else le - ((0 : Nat) : Int), false⟩ : Dk) = _
  split
  · rename_i h; rw [h]
  · simp
theorem tog_rng {d : Dk} {l : List (Int × List UInt8)} {i : Nat} (hr : rng d = true) (hl : ∀ a ∈ l, has d a.1 = true ∧ a.2.length = 128) (hi : d.left = -1 ∨ (i : Int) ≤ d.left) : rng (tog d l i) = true := by
  obtain ⟨hv, hs⟩ := rng_facts hr
  obtain ⟨f1, f2, f3, f4, f5⟩ := vld_facts.1 hv
  unfold rng tog
  simp only [Bool.and_eq_true, Bool.not_eq_true', and_true]
  refine vld_facts.2 ⟨by show 1 ≤ (perf _ _).length ∧ _; rw [perf_length]; exact f1, by simp, ?_, perf_mem _ _ f4 (fun a ha => (hl a (List.mem_of_mem_take ha)).2), fun a ha => by cases ha⟩
  show -1 ≤ (if d.left = -1 then (-1 : Int) else d.left - i) ∧ (if d.left = -1 then (-1 : Int) else d.left - i) ≤ 65536
  split <;> omega
theorem take_snoc {α : Type} {l : List α} {i : Nat} {a : α} (h : l[i]? = some a) : l.take (i + 1) = l.take i ++ [a] := by
  rw [List.take_add_one, h]
  rfl
/-- One more write, and a sync that does not stop. -/
theorem tog_step {d : Dk} {l : List (Int × List UInt8)} {i : Nat} {k : Int} {b : List UInt8} (hr : rng d = true) (hrl : rng { d with pend := l } = true) (hl : ∀ a ∈ l, has d a.1 = true ∧ a.2.length = 128) (hi : d.left = -1 ∨ (i : Int) ≤ d.left) (hk : l[i]? = some (k, sec b)) (hb : b.length ≤ 128) :
    wre (tog d l i) k b = 0 ∧ (d.left = (i : Int) → sye (wr (tog d l i) k b) = 70 ∧ sye { d with pend := l } = 70 ∧ sy (wr (tog d l i) k b) = sy { d with pend := l }) ∧
      (d.left ≠ (i : Int) → sye (wr (tog d l i) k b) = 0 ∧ sy (wr (tog d l i) k b) = tog d l (i + 1) ∧ (d.left = -1 ∨ ((i + 1 : Nat) : Int) ≤ d.left)) := by
  have ht := tog_rng hr hl hi
  have hil := (List.getElem?_eq_some_iff.1 hk).1
  have hm : (k, sec b) ∈ l := List.mem_of_getElem? hk
  have hh : has (tog d l i) k = true := by
    have := (hl _ hm).1
    unfold has tog at *
    simp only at this ⊢
    rw [perf_length]
    exact this
  have hw := wre_zero (b := b) ht hh hb (by show ([] : List (Int × List UInt8)).length < 4096; decide)
  have h5 := (wr_ok hw).2.2.2.2
  have h6 := wr_rng hw
  refine ⟨hw, fun he => ?_, fun hne => ?_⟩
  · have e1 : (tog d l i).left = 0 := by
      show (if d.left = -1 then (-1 : Int) else d.left - i) = 0
      rw [if_neg (by omega), he]; omega
    have hst : stops (wr (tog d l i) k b) = true := by
      rw [h5]; unfold stops; simp only [e1]; unfold tog; simp
    have hst2 : stops { d with pend := l } = true := by unfold stops; simp only [he]; simp; exact hil
    have h70 : sye (wr (tog d l i) k b) = 70 := by unfold sye; rw [h6, hst]; rfl
    have h71 : sye { d with pend := l } = 70 := by unfold sye; rw [hst2]; simp
    refine ⟨h70, h71, ?_⟩
    unfold sy
    rw [if_neg (by rw [h6]; decide), if_pos hst, if_neg (by rw [hrl]; decide), if_pos hst2, h5]
    simp only [e1, he]
    have g1 : (l.getD ((i : Int)).toNat (0, [])) = (k, sec b) := by rw [show ((i : Int)).toNat = i by omega, List.getD_eq_getElem?_getD, hk]; rfl
    rw [g1]
    rfl
  · have e1 : (tog d l i).left = if d.left = -1 then (-1 : Int) else d.left - i := rfl
    have hst : stops (wr (tog d l i) k b) = false := by
      rw [h5]; unfold stops; simp only [e1]
      apply decide_eq_false
      rintro ⟨q1, q2⟩
      have q3 : (((tog d l i).pend ++ [(k, sec b)]).length : Int) = 1 := rfl
      rw [q3] at q2
      split at q1 <;> rename_i q4
      · omega
      · rw [if_neg q4] at q2
        omega
    have h70 : sye (wr (tog d l i) k b) = 0 := by unfold sye; rw [h6, hst]; rfl
    refine ⟨h70, ?_, by omega⟩
    rw [(sy_ok h70).2.2, h5]
    have q5 : perf (tog d l i).secs ((tog d l i).pend ++ [(k, sec b)]) = perf d.secs (l.take (i + 1)) := by
      rw [take_snoc hk, perf_snoc d.secs]
      rfl
    have q6 : (((tog d l i).pend ++ [(k, sec b)]).length : Int) = 1 := rfl
    unfold tog at q5 q6 ⊢
    simp only at q5 q6 ⊢
    rw [q5, q6]
    congr 1
    split
    · rfl
    · rw [if_neg (by omega)]; omega
/-- When all have been synced one by one. -/
theorem tog_end {d : Dk} {l : List (Int × List UInt8)} (hrl : rng { d with pend := l } = true) (hi : d.left = -1 ∨ (l.length : Int) ≤ d.left) : sye { d with pend := l } = 0 ∧ sy { d with pend := l } = tog d l l.length := by
  have hst : stops { d with pend := l } = false := by
    unfold stops
    simp only
    apply decide_eq_false
    omega
  have h0 : sye { d with pend := l } = 0 := by unfold sye; rw [hrl, hst]; rfl
  refine ⟨h0, ?_⟩
  rw [(sy_ok h0).2.2]
  unfold tog
  simp
end Go.Proofs.Ytiphajgmjmjanaa
