/- Slices of one-cell values, of numbers; arrays of 256 bools and of 256 bytes. -/
import Derived.Test.YtobchecnfkocdaaSl
import Derived.Test.YtobchecnfkocdaaPg
namespace Go.Proofs.Ytobchecnfkocdaa
open Go.RowKit
set_option linter.unusedVariables false

def iv (z : Int) : Value := .int .i64 z
/-- A slice of one-cell values in memory. -/
def Sv (w : World) (A : Option Addr) (l : List Value) (c : Nat) : Prop :=
  (0 < l.length → ∃ b off, A = some ⟨b, off, none⟩ ∧ b < w.heap.size ∧ ∀ j u, l[j]? = some u → w.cell? ⟨b, off + j, none⟩ = some u) ∧ l.length ≤ c ∧ c ≤ maxLen ∧ (A = none → l = [] ∧ c = 0)
theorem Sv.up {w w' : World} {A : Option Addr} {l : List Value} {c : Nat} (h : Sv w A l c) (hb : Below w.heap.size w w') : Sv w' A l c :=
  ⟨fun hl => by
    obtain ⟨b, off, e, h1, h2⟩ := h.1 hl
    exact ⟨b, off, e, Nat.lt_of_lt_of_le h1 hb.size, fun j u hu => (hb.cell (p := ⟨b, off + j, none⟩) h1).trans (h2 j u hu)⟩, h.2⟩
theorem Sv.nil (w : World) : Sv w none [] 0 := ⟨fun h => absurd h (by simp), Nat.le_refl _, by unfold maxLen; omega, fun _ => ⟨rfl, rfl⟩⟩
/-- A row of the call's own is such a slice. -/
theorem Sv.of_own {w : World} {B n c : Nat} {A : Option Addr} {t : TypeId} {xs : List Value} (h : w.ownsRow B t 1 (.slice A n c) n xs) (hn : xs.length = n) : Sv w A xs c := by
  subst hn
  rcases h.2 with ⟨hv, h0⟩ | ⟨g, cap, cur, hv, hbg, hg, h1, h2, _⟩
  · injection hv with hA hl hc
    exact ⟨fun hp => absurd hp (by omega), by omega, by unfold maxLen; omega, fun _ => ⟨List.eq_nil_of_length_eq_zero (by omega), by omega⟩⟩
  · injection hv with hA hl hc
    subst hA hc
    refine ⟨fun hp => ⟨g, 0, rfl, heap_lt hg, fun j u hu => ?_⟩, h1, h2, fun h => by cases h⟩
    have := h.cells (g := g) rfl j u hu
    rw [add_off] at this
    exact this
theorem Sv.news {w : World} {a : Addr} {l : List Value} {c : Nat} (h : Sv w (some a) l c) : ∀ j v, l[j]? = some v → w.cell? (a.add j) = some v := by
  intro j v hv
  have hl : 0 < l.length := by have := (List.getElem?_eq_some_iff.1 hv).1; omega
  obtain ⟨b, off, e, _, hc⟩ := h.1 hl
  injection e with e
  subst e
  rw [add_off]
  exact hc j v hv
def Si (w : World) (A : Option Addr) (l : List Int) (c : Nat) : Prop := Sv w A (l.map iv) c
theorem Si.up {w w' : World} {A : Option Addr} {l : List Int} {c : Nat} (h : Si w A l c) (hb : Below w.heap.size w w') : Si w' A l c := Sv.up h hb
theorem Si.le {w : World} {A : Option Addr} {l : List Int} {c : Nat} (h : Si w A l c) : l.length ≤ 9223372036854775807 := by
  have h1 := h.2.1
  have h2 := h.2.2.1
  rw [List.length_map] at h1
  unfold maxLen at h2
  omega
theorem Si.at_ {w : World} {A : Option Addr} {l : List Int} {c : Nat} (h : Si w A l c) {j : Nat} {x : Int} (hx : l[j]? = some x) : ∃ b off, A = some ⟨b, off, none⟩ ∧ b < w.heap.size ∧ w.cell? ⟨b, off + j, none⟩ = some (.int .i64 x) := by
  have hj := (List.getElem?_eq_some_iff.1 hx).1
  obtain ⟨b, off, e, h1, h2⟩ := h.1 (by rw [List.length_map]; omega)
  exact ⟨b, off, e, h1, h2 j _ (by rw [List.getElem?_map, hx]; rfl)⟩
theorem i64_info : (Try.prog.info? 3).map (fun i => (i.zero, i.size, i.bytes)) = some (some (.int .i64 0), 1, 8) := by kernel_rfl
theorem bool_info : (Try.prog.info? 4).map (fun i => (i.zero, i.size, i.bytes)) = some (some (.bool false), 1, 1) := by kernel_rfl
theorem u8_lt (b : UInt8) : b.toNat < 256 := b.toNat_lt

/-- The cells of an array of 256 bools. -/
def bcs (f : Nat → Bool) : Array Value := ((List.range 256).map fun i => Value.bool (f i)).toArray
theorem bcs_at (f : Nat → Bool) {i : Nat} (h : i < 256) : (bcs f)[i]? = some (.bool (f i)) := by
  unfold bcs
  rw [List.getElem?_toArray, List.getElem?_map, List.getElem?_range h]
  rfl
theorem bcs_set (f : Nat → Bool) (k : Nat) (v : Bool) : (bcs f).setIfInBounds k (.bool v) = bcs (fun i => if i = k then v else f i) := by
  unfold bcs
  rw [List.setIfInBounds_toArray]
  congr 1
  apply List.ext_getElem?
  intro i
  rw [List.getElem?_set]
  by_cases h : k = i
  · subst h
    rw [if_pos rfl]
    by_cases h2 : k < 256
    · rw [if_pos (by simpa using h2), List.getElem?_map, List.getElem?_range h2]
      simp
    · rw [if_neg (by simpa using h2), List.getElem?_eq_none (by simp; omega)]
  · rw [if_neg h, List.getElem?_map, List.getElem?_map]
    by_cases h2 : i < 256
    · rw [List.getElem?_range h2]
      show some (Value.bool (f i)) = some (Value.bool (if i = k then v else f i))
      rw [if_neg (fun e => h e.symm)]
    · rw [List.getElem?_eq_none (by simp; omega)]
      rfl
theorem bcs_eq {f g : Nat → Bool} (h : ∀ i, i < 256 → f i = g i) : bcs f = bcs g := by
  unfold bcs
  congr 1
  refine List.map_congr_left fun i hi => ?_
  rw [h i (List.mem_range.1 hi)]
theorem run_albool (w : World) : (Instr.alloc 60 true (.tuple #[])).run Try.prog w = .ok (.pointer (some ⟨w.heap.size, 0, none⟩)) (w.alloc (.cells (bcs fun _ => false) 60)) := by
  kernel_rfl
end Go.Proofs.Ytobchecnfkocdaa
