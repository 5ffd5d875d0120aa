/- Loads of whole arrays in a walk that only reads; calls in regions that make memory. -/
import Derived.Test.YtobchecnfkocdaaTail
import Derived.Deep.MidRow
namespace Go.Proofs.Ytobchecnfkocdaa
open Go.RowKit Go.Sort
set_option linter.unusedVariables false

section
variable {P : Program} {ops : Array Oper} {C : World → Prop} {Q : Act → Prop} {a : Act} {o : Oper} {rest : List Oper}
/-- A load of a whole array, in a walk that only reads. -/
theorem qload (hgd : o.guard = none) (ty : TypeId) (x : Operand) (ho : o.op = .load ty x) (b off : Nat) (hx : a.eval x = .pointer (some ⟨b, off, none⟩)) (cs : List Value) (d : TypeDesc) (hS : ∀ w, C w → w.rangeAt b off cs)
    (hu : P.underlying ty = some d) (hd : d.isRow = true) (hi : (P.info? ty).map (·.size) = some cs.length) (h : wpQuiet P ops C Q rest (a.put o.dst (.agg cs.toArray))) : wpQuiet P ops C Q (o :: rest) a :=
  BigFrame.wpQuiet_want (by simp [Region.wanted, hgd]) fun K hK => ⟨.agg cs.toArray, fun w hw => by
    unfold Oper.quietAt execOp
    simp only [ho, hx, Instr.loadAt, Instr.sureAddr, Sem.run_bind, Sem.run_pure, Result.andThen_ok, run_loadVar_mid w b off ty cs d (hS w hw) hu hd hi]
    exact ⟨rfl, rfl⟩, hK _ h⟩
end
theorem range_regrown {w : World} {b off : Nat} {cs : List Value} (h : w.rangeAt b off cs) : ∀ w', (∃ p : Regrown, w' = grow (redrawn w p.d) p.os) → w'.rangeAt b off cs := by
  rintro w' ⟨p, rfl⟩ j v hv
  exact cell_regrown (h j v hv) p.d p.os
theorem Box.range {w : World} {g : Nat} {cs : List Value} {t : TypeId} (h : Box w g cs.toArray t) : w.rangeAt g 0 cs := fun j v hv => by
  rw [Nat.zero_add, h.cell j]
  simpa using hv
theorem range_below {w w' : World} {b off : Nat} {cs : List Value} (h : w.rangeAt b off cs) (hb : Below w.heap.size w w') : w'.rangeAt b off cs := fun j v hv => (hb.cell (block_lt_of_cell (h j v hv))).trans (h j v hv)
theorem Calls.regrownAll {f : FuncId} {args : Array Value} {w : World} {v : Value} (h : ∀ w', Below w.heap.size w w' → Calls Try.prog f args w' (fun e w'' => e = .returned v ∧ Below w'.heap.size w' w'')) (n : Nat) (os : Array Obj) :
    Calls Try.prog f args (grow (redrawn w n) os) fun e w'' => e = .returned v ∧ ∃ p : Regrown, w'' = grow (redrawn w p.d) p.os :=
  Calls.regrown_of ((h _ (below_regrown w n os)).mono fun _ _ hp => hp)
theorem below_fill' (W : World) (C C' : Array Value) (t : TypeId) : Below W.heap.size W ((W.alloc (.cells C t)).setRow W.heap.size C') :=
  ((Below.refl W.heap.size W).alloc (Nat.le_refl _) _).trans (below_grown (setRow_grown _ _ _) (Nat.le_refl _) (by simp))
theorem box_fill' (W : World) (C C' : Array Value) (t : TypeId) : Box ((W.alloc (.cells C t)).setRow W.heap.size C') W.heap.size C' t := Box.setRow (Box.new W C t)
end Go.Proofs.Ytobchecnfkocdaa
