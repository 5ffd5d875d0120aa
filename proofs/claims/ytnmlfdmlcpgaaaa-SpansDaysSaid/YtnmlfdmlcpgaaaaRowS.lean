/- Spans in memory; arrays of days and of changes. -/
import Derived.Test.YtnmlfdmlcpgaaaaMem
import Derived.Test.YtnmlfdmlcpgaaaaPl
namespace Go.Proofs.Ytnmlfdmlcpgaaaa
open Go.RowKit
set_option linter.unusedVariables false

/-- The world holds the spans l from address A on, in a block below h. -/
def Ls (h : Nat) (w : World) (A : Option Addr) (l : List (Int × Int)) : Prop :=
  0 < l.length → ∃ b off, A = some ⟨b, off, none⟩ ∧ b < h ∧ ∀ j s, l[j]? = some s → w.cell? ⟨b, off + j * 2, none⟩ = some (.int .i64 s.1) ∧ w.cell? ⟨b, off + j * 2 + 1, none⟩ = some (.int .i64 s.2)
theorem Ls.more {h h' : Nat} {w : World} {A : Option Addr} {l : List (Int × Int)} (hb : Ls h w A l) (hh : h ≤ h') : Ls h' w A l := by
  intro hl
  obtain ⟨b, off, rfl, hne, hc⟩ := hb hl
  exact ⟨b, off, rfl, by omega, hc⟩
theorem Ls.below {h : Nat} {w w' : World} {A : Option Addr} {l : List (Int × Int)} (hb : Ls h w A l) (hg : Below h w w') : Ls h w' A l := by
  intro hl
  obtain ⟨b, off, rfl, hne, hc⟩ := hb hl
  refine ⟨b, off, rfl, hne, fun j s hs => ?_⟩
  obtain ⟨h1, h2⟩ := hc j s hs
  exact ⟨(hg.cell (p := ⟨b, off + j * 2, none⟩) hne).trans h1, (hg.cell (p := ⟨b, off + j * 2 + 1, none⟩) hne).trans h2⟩
/-- A slice of spans. -/
def Sl (w : World) (A : Option Addr) (l : List (Int × Int)) (c : Nat) : Prop := Ls w.heap.size w A l ∧ l.length ≤ c ∧ c ≤ maxLen
theorem Sl.up {w w' : World} {A : Option Addr} {l : List (Int × Int)} {c : Nat} (h : Sl w A l c) (hb : Below w.heap.size w w') : Sl w' A l c :=
  ⟨(h.1.below hb).more hb.size, h.2.1, h.2.2⟩
theorem Sl.nil (w : World) : Sl w none [] 0 := ⟨fun h => by simp at h, Nat.le_refl _, Nat.zero_le _⟩

/-- The cells of an array. -/
def arr (n : Nat) (f : Nat → Value) : Array Value := ((List.range n).map f).toArray
theorem arr_size (n : Nat) (f : Nat → Value) : (arr n f).size = n := by simp [arr]
theorem arr_get (n : Nat) (f : Nat → Value) (i : Nat) (h : i < n) : (arr n f)[i]? = some (f i) := by
  unfold arr
  rw [List.getElem?_toArray, List.getElem?_map, List.getElem?_range h]
  rfl
theorem arr_congr {n : Nat} {f g : Nat → Value} (h : ∀ i, i < n → f i = g i) : arr n f = arr n g := by
  unfold arr
  congr 1
  apply List.map_congr_left
  intro i hi
  exact h i (by simpa using hi)
theorem arr_set (n : Nat) (f : Nat → Value) (i : Nat) (v : Value) : (arr n f).setIfInBounds i v = arr n (fun j => if j = i then v else f j) := by
  apply Array.ext
  · simp [arr]
  · intro j h1 h2
    simp only [arr, List.size_toArray, List.length_map, List.length_range, Array.size_setIfInBounds] at h1 h2
    rw [Array.getElem_setIfInBounds (by simpa [arr] using h1)]
    simp only [arr, List.getElem_toArray, List.getElem_map, List.getElem_range]
    by_cases e : j = i
    · subst e; simp
    · have e' : ¬ i = j := fun h => e h.symm
      simp [e, e']
theorem arr_one {n : Nat} {f : Nat → Value} (h : ∀ i, (f i).oneCell' = true) : (arr n f).all (·.oneCell') = true := by
  rw [Array.all_eq_true_iff_forall_mem]
  intro x hx
  simp only [arr, List.mem_toArray, List.mem_map] at hx
  obtain ⟨y, _, rfl⟩ := hx
  exact h y
def bcells (f : Nat → Bool) : Array Value := arr 1024 fun i => .bool (f i)
def icells (f : Nat → Int) : Array Value := arr 1025 fun i => .int .i64 (f i)
theorem bcells_size (f : Nat → Bool) : (bcells f).size = 1024 := arr_size _ _
theorem icells_size (f : Nat → Int) : (icells f).size = 1025 := arr_size _ _
theorem bcells_ne (f : Nat → Bool) : ¬ bcells f = #[] := fun h => by have := bcells_size f; rw [h] at this; simp at this
theorem icells_ne (f : Nat → Int) : ¬ icells f = #[] := fun h => by have := icells_size f; rw [h] at this; simp at this
theorem bcells_congr {f g : Nat → Bool} (h : ∀ k, k < 1024 → f k = g k) : bcells f = bcells g := arr_congr fun i hi => by rw [h i hi]
theorem bcells_one (f : Nat → Bool) : (bcells f).all (·.oneCell') = true := arr_one fun _ => rfl
theorem zero_set (w : World) : (zeroValue 40).run Try.prog w = .ok (.agg (bcells fun _ => false)) w := by kernel_rfl
theorem zero_chg (w : World) : (zeroValue 51).run Try.prog w = .ok (.agg (icells fun _ => 0)) w := by kernel_rfl
theorem size_set (f : Nat → Bool) : (Try.prog.info? 40).map (·.size) = some (bcells f).size := by rw [bcells_size]; kernel_rfl
end Go.Proofs.Ytnmlfdmlcpgaaaa
