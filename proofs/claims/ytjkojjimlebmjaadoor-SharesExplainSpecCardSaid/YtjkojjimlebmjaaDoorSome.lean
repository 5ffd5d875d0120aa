/- some: the shares that a mask chooses. -/
import Derived.Test.YtjkojjimlebmjaaDoorSh
import Derived.Test.YtjkojjimlebmjaaDoorMul
import Derived.LoopTactic
namespace Go.Proofs.YtjkojjimlebmjaaDoor
open Go.RowKit
set_option linter.unusedVariables false

/-- Of the first k shares those that the mask chooses. -/
def selk (l : List Shr) (m : Nat) : Nat → List Shr
  | 0 => []
  | k + 1 => selk l m k ++ (if k < 8 ∧ m.testBit k = true then (l[k]?).toList else [])
theorem selk_le (l : List Shr) (m : Nat) : ∀ k, (selk l m k).length ≤ k
  | 0 => Nat.le_refl _
  | k + 1 => by
    have := selk_le l m k
    simp only [selk, List.length_append]
    split
    · have : (l[k]?).toList.length ≤ 1 := by cases l[k]? <;> simp
      omega
    · simp
      omega
def sel (l : List Shr) (m : UInt8) : List Shr := selk l m.toNat l.length

/-- A row of the call's own with shares whose bytes lie in the world w. -/
def OwnS (B : Nat) (w W : World) (A : Option Addr) (c : Nat) (l : List Shr) : Prop := ∃ bs : List (List Value), bs.length = l.length ∧ (∀ b ∈ bs, b.length = 5) ∧ W.ownsRow B 36 5 (.slice A l.length c) l.length bs.flatten ∧
  ∀ (i : Nat) (s : Shr), l[i]? = some s → ∃ D d, bs[i]? = some (shc s D d) ∧ Sl w D s.data d
theorem OwnS.ss {B c : Nat} {w W : World} {A : Option Addr} {l : List Shr} (h : OwnS B w W A c l) (hb : Below w.heap.size w W) : SS W A l c := by
  obtain ⟨bs, hl, h5, ho, hs⟩ := h
  rcases ho.2 with ⟨hv, h0⟩ | ⟨g, cap, cur, hv, hbg, hg, h1, h2, _⟩
  · injection hv with hA hn hc
    have : l = [] := List.eq_nil_of_length_eq_zero h0
    subst this
    exact ⟨fun hp => absurd hp (by simp), by simp, by unfold maxLen; omega, fun _ => ⟨rfl, hc⟩⟩
  · injection hv with hA hn hc
    subst hA hc
    refine ⟨fun hp => ⟨g, 0, rfl, heap_lt hg, fun i s hi => ?_⟩, h1, h2, fun h => by cases h⟩
    obtain ⟨D, d, hbi, hD⟩ := hs i s hi
    have hil : i < l.length := (List.getElem?_eq_some_iff.1 hi).1
    have hc : ∀ j, j < 5 → W.cell? ⟨g, 0 + i * 5 + j, none⟩ = (shc s D d)[j]? := fun j hj => by
      rw [Nat.zero_add, ho.cellAt _ (by omega), flat5_at bs h5 i _ j hbi hj]
    exact ⟨D, d, hc 0 (by omega), hc 1 (by omega), hc 2 (by omega), hc 3 (by omega), hc 4 (by omega), hD.up hb⟩
theorem OwnS.nil (B : Nat) (w W : World) : OwnS B w W none 0 [] := by
  refine ⟨[], rfl, by simp, World.ownsRow_nil _ _ _ _, ?_⟩
  intro i s hi
  simp at hi
theorem OwnS.more {B c : Nat} {w W W' : World} {A A' : Option Addr} {c' : Nat} {l : List Shr} {s : Shr} {D : Option Addr} {d : Nat} {bs : List (List Value)} (hl : bs.length = l.length) (h5 : ∀ b ∈ bs, b.length = 5) (hs : ∀ (i : Nat) (s : Shr), l[i]? = some s → ∃ D d, bs[i]? = some (shc s D d) ∧ Sl w D s.data d)
    (ho : W'.ownsRow B 36 5 (.slice A' (l.length + 1) c') (l.length + 1) (bs.flatten ++ shc s D d)) (hD : Sl w D s.data d) : OwnS B w W' A' c' (l ++ [s]) := by
  refine ⟨bs ++ [shc s D d], by simp [hl], fun b hb => ?_, ?_, fun i u hi => ?_⟩
  · rcases List.mem_append.1 hb with h | h
    · exact h5 b h
    · simp at h
      rw [h]
      rfl
  · rw [List.length_append, List.flatten_append]
    simpa using ho
  · by_cases e : i < l.length
    · rw [List.getElem?_append_left e] at hi
      obtain ⟨D2, d2, h1, h2⟩ := hs i u hi
      exact ⟨D2, d2, by rw [List.getElem?_append_left (by omega)]; exact h1, h2⟩
    · have hil := (List.getElem?_eq_some_iff.1 hi).1
      rw [List.length_append, List.length_singleton] at hil
      obtain rfl : i = l.length := by omega
      rw [List.getElem?_append_right (Nat.le_refl _)] at hi
      simp at hi
      subst hi
      exact ⟨D, d, by rw [List.getElem?_append_right (by omega), hl]; simp, hD⟩
theorem shc_one (s : Shr) (D : Option Addr) (d : Nat) : ∀ u ∈ shc s D d, u.oneCell' = true := by
  intro u hu
  simp only [shc, List.mem_cons, List.not_mem_nil, or_false] at hu
  rcases hu with rfl | rfl | rfl | rfl | rfl <;> rfl

def SomePost (l : List Shr) (w : World) (e : Ending) (w' : World) : Prop := ∃ A c, e = .returned (.slice A l.length c) ∧ SS w' A l c ∧ Below w.heap.size w w'

end Go.Proofs.YtjkojjimlebmjaaDoor
