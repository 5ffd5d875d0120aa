/- Slices of bytes written out; string(b). -/
import Derived.Test.YtjkojjimlebmjaaDoorSl
import Derived.Laws.BytesArg
import Derived.Laws.IdiomStrings
namespace Go.Proofs.YtjkojjimlebmjaaDoor
open Go.RowKit
set_option linter.unusedVariables false

theorem sl_lit (w : World) (l : List UInt8) (n : Nat) (hn : l.length = n) (h : n ≤ 1000000) (cs : Array Value) (hc : (l.map bv).toArray = cs) : Sl (w.alloc (.cells cs 5)) (some ⟨w.heap.size, 0, none⟩) l n := by
  subst hc hn
  exact ⟨Bs.of_box (Box.new w _ _), Nat.le_refl _, le_maxLen (by omega), fun h => by cases h⟩
theorem sl_none (w : World) : Sl w none [] 0 := ⟨Bs.none_, by simp, by unfold maxLen; omega, fun _ => ⟨rfl, rfl⟩⟩
/-- string(b). -/
theorem sl_str {w : World} {A : Option Addr} {l : List UInt8} {c n : Nat} (h : Sl w A l c) (hn : l.length = n) : (convert 23 9 (.slice A n c)).run Tryd.prog w = .ok (.string ⟨l.toArray⟩) w := by
  subst hn
  cases A with
  | none =>
    obtain ⟨rfl, rfl⟩ := h.2.2.2 rfl
    exact run_convert_bytes_nil w _ _ Tryd.underlying23 Tryd.underlying5 0 0 _ Tryd.underlying9
  | some a =>
    refine run_convert_bytes_back w _ _ _ _ c l Tryd.underlying23 Tryd.underlying5 Tryd.underlying9 fun j hj => ?_
    exact h.news j (bv l[j]) (by simp [List.getElem?_eq_getElem hj])
end Go.Proofs.YtjkojjimlebmjaaDoor
