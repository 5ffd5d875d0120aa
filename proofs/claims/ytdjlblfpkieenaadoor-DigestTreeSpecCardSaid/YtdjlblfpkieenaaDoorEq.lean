/- Digests: loads of whole rows and comparisons, as rules of the walk. -/
import Derived.Test.YtdjlblfpkieenaaDoorPath3
import Derived.Stop.BytesEq
import Derived.Deep.RegionHeld3
import Derived.Deep.Cut
import Derived.Lib.SlBytesConst
namespace Go.Proofs.YtdjlblfpkieenaaDoor
open Go.RowKit Go.Sort
set_option linter.unusedVariables false

/-- The cells of a block. -/
def rowAt (w : World) (g : Nat) : Array Value := match w.heap[g]? with
  | some (.cells cs _ _) => cs
  | _ => #[]
/-- A block holds a digest. -/
def Row32 (w : World) (g : Nat) : Prop := ∃ d : List UInt8, d.length = 32 ∧ Box w g (dcells d) 26
theorem Row32.of {w : World} {g : Nat} {d : List UInt8} (h : Box w g (dcells d) 26) (hd : d.length = 32) : Row32 w g ∧ rowAt w g = dcells d := by
  refine ⟨⟨d, hd, h⟩, ?_⟩
  unfold rowAt
  rw [show w.heap[g]? = _ from h]
theorem Row32.below {w w' : World} {g : Nat} (h : Row32 w g) (hb : Below w.heap.size w w') : Row32 w' g ∧ rowAt w' g = rowAt w g := by
  obtain ⟨d, hd, hx⟩ := h
  have h1 := Row32.of hx hd
  have h2 := Row32.of (hx.below hb) hd
  exact ⟨h2.1, by rw [h1.2, h2.2]⟩
theorem load_row32 (w : World) (g : Nat) (h : Row32 w g) : (loadVar 26 ⟨g, 0, none⟩).run Tryd.prog w = .ok (.agg (rowAt w g)) w := by
  obtain ⟨d, hd, hx⟩ := h
  rw [(Row32.of hx hd).2]
  exact run_loadVar_row w g 26 26 (dcells d) (0, 0) _ hx Tryd.underlying26 rfl (DF.of hd).info
/-- The cells are those of a digest. -/
def IsDig (C : Array Value) : Prop := ∃ d : List UInt8, d.length = 32 ∧ C = dcells d
theorem IsDig.of {d : List UInt8} (h : d.length = 32) : IsDig (dcells d) := ⟨d, h, rfl⟩
theorem eql_dig (w : World) (C : Array Value) (h : IsDig C) : (binOp .eql 26 (.agg C) (.agg C)).run Tryd.prog w = .ok (.bool true) w := by
  obtain ⟨d, hd, rfl⟩ := h
  have hs : ∀ w, (sizeOf 5).run Tryd.prog w = .ok 1 w := fun w => by
    obtain ⟨i0, hi0, hz0, hz1, hz2⟩ := info_parts u8_info
    rw [run_sizeOf w hi0, show Tryd.prog.cellsOf 5 = 1 by kernel_rfl]
  have := run_eql_bytes (P := Tryd.prog) w 26 5 32 Tryd.underlying26 Tryd.underlying5 hs d d hd hd
  rw [beq_self_eq_true] at this
  exact this
theorem neq_dig (w : World) (C : Array Value) (h : IsDig C) : (binOp .neq 26 (.agg C) (.agg C)).run Tryd.prog w = .ok (.bool false) w := by
  have h1 := eql_dig w C h
  rw [run_eql_struct] at h1
  rw [run_neq_struct]
  generalize (Op.equalIn 10000 26 (.agg C) (.agg C)).run Tryd.prog w = r at *
  cases r with
  | ok b w' =>
    simp only [Result.andThen_ok] at h1 ⊢
    injection h1 with h1 h2
    injection h1 with h1
    subst h1 h2
    rfl
  | halt x w' => simp [Result.andThen] at h1
theorem guard_dig : Tryd.prog.eqGuardType Tryd.prog.depth 26 = false := by kernel_rfl
end Go.Proofs.YtdjlblfpkieenaaDoor
