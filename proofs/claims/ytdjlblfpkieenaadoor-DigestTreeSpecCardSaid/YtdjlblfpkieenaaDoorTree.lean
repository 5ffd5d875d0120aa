/- Tree. -/
import Derived.Test.YtdjlblfpkieenaaDoorSplit
import Derived.Deep.MidRow
namespace Go.Proofs.YtdjlblfpkieenaaDoor
open Go.RowKit Go.Sort
set_option linter.unusedVariables false

/-- The digest of a list, with room for f halvings. -/
def trF : Nat → List (List UInt8) → List UInt8
  | 0, _ => []
  | f + 1, ds => if ds.length = 0 then tg [101, 109, 112, 116, 121] [] else if ds.length = 1 then tg [108, 101, 97, 102] (ds.getD 0 [])
      else tg [110, 111, 100, 101] (trF f (ds.take (half ds.length)) ++ trF f (ds.drop (half ds.length)))
def tr (ds : List (List UInt8)) : List UInt8 := trF (ds.length + 1) ds
theorem trF_more (f : Nat) : ∀ (g : Nat) (ds : List (List UInt8)), ds.length < f → f ≤ g → trF g ds = trF f ds := by
  induction f with
  | zero => intro g ds h; omega
  | succ f ih =>
    intro g ds h hg
    obtain ⟨g, rfl⟩ : ∃ k, g = k + 1 := ⟨g - 1, by omega⟩
    simp only [trF]
    split
    · rfl
    · split
      · rfl
      · have h1 := half_le ds.length (by omega)
        have h2 := half_pos ds.length
        rw [ih g _ (by rw [List.length_take]; omega) (by omega), ih g _ (by rw [List.length_drop]; omega) (by omega)]
theorem tr_zero : tr [] = tg [101, 109, 112, 116, 121] [] := rfl
theorem tr_one (d : List UInt8) : tr [d] = tg [108, 101, 97, 102] d := rfl
theorem tr_node (ds : List (List UInt8)) (h : 1 < ds.length) : tr ds = tg [110, 111, 100, 101] (tr (ds.take (half ds.length)) ++ tr (ds.drop (half ds.length))) := by
  have h1 := half_le ds.length h
  have h2 := half_pos ds.length
  unfold tr
  conv => lhs; unfold trF
  rw [if_neg (by omega), if_neg (by omega), trF_more ((ds.take (half ds.length)).length + 1) ds.length _ (by omega) (by rw [List.length_take]; omega), trF_more ((ds.drop (half ds.length)).length + 1) ds.length _ (by omega) (by rw [List.length_drop]; omega)]
theorem tr_length (ds : List (List UInt8)) : (tr ds).length = 32 := by
  by_cases h : 1 < ds.length
  · rw [tr_node ds h]; exact tg_length _ _
  · match ds, h with
    | [], _ => rfl
    | [d], _ => rfl
    | _ :: _ :: _, h => simp at h

/-- The world holds digests, in a block below h. -/
def Ds (h : Nat) (w : World) (A : Option Addr) (ds : List (List UInt8)) : Prop :=
  (∀ d, d ∈ ds → d.length = 32) ∧ (0 < ds.length → ∃ b off, A = some ⟨b, off, none⟩ ∧ b < h ∧ ∀ i d, ds[i]? = some d → w.rangeAt b (off + i * 32) (d.map bv))
theorem Ds.below {h : Nat} {w w' : World} {A : Option Addr} {ds : List (List UInt8)} (hd : Ds h w A ds) (hh : h ≤ w.heap.size) (hb : Below w.heap.size w w') : Ds h w' A ds := by
  refine ⟨hd.1, fun hl => ?_⟩
  obtain ⟨b, off, rfl, hlt, hc⟩ := hd.2 hl
  exact ⟨b, off, rfl, hlt, fun i d hi j v hv => (hb.cell (p := ⟨b, off + i * 32 + j, none⟩) (by show b < _; omega)).trans (hc i d hi j v hv)⟩
theorem Ds.more {h h' : Nat} {w : World} {A : Option Addr} {ds : List (List UInt8)} (hd : Ds h w A ds) (hh : h ≤ h') : Ds h' w A ds := by
  refine ⟨hd.1, fun hl => ?_⟩
  obtain ⟨b, off, rfl, hlt, hc⟩ := hd.2 hl
  exact ⟨b, off, rfl, by omega, hc⟩
theorem Ds.up {w w' : World} {A : Option Addr} {ds : List (List UInt8)} (hd : Ds w.heap.size w A ds) (hb : Below w.heap.size w w') : Ds w'.heap.size w' A ds := (hd.below (Nat.le_refl _) hb).more hb.size
theorem Ds.take {h : Nat} {w : World} {A : Option Addr} {ds : List (List UInt8)} (k : Nat) (hd : Ds h w A ds) : Ds h w A (ds.take k) := by
  refine ⟨fun d hm => hd.1 d (List.mem_of_mem_take hm), fun hl => ?_⟩
  rw [List.length_take] at hl
  obtain ⟨b, off, rfl, hlt, hc⟩ := hd.2 (by omega)
  refine ⟨b, off, rfl, hlt, fun i d hi => ?_⟩
  rw [List.getElem?_take] at hi
  split at hi
  · exact hc i d hi
  · cases hi
theorem Ds.drop {h : Nat} {w : World} {b off : Nat} {ds : List (List UInt8)} (k : Nat) (hd : Ds h w (some ⟨b, off, none⟩) ds) : Ds h w (some ⟨b, off + k * 32, none⟩) (ds.drop k) := by
  refine ⟨fun d hm => hd.1 d (List.mem_of_mem_drop hm), fun hl => ?_⟩
  rw [List.length_drop] at hl
  obtain ⟨b', off', e, hlt, hc⟩ := hd.2 (by omega)
  injection e with e
  injection e with e1 e2
  subst e1 e2
  refine ⟨b, off + k * 32, rfl, hlt, fun i d hi => ?_⟩
  rw [List.getElem?_drop] at hi
  have := hc (k + i) d hi
  rw [show off + k * 32 + i * 32 = off + (k + i) * 32 by omega]
  exact this
end Go.Proofs.YtdjlblfpkieenaaDoor
