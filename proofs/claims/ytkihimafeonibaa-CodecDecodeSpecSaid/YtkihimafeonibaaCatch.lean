import Derived.Test.YtkihimafeonibaaReadV
import Derived.Recover
import Derived.Defers
namespace Go.Proofs.Ytkihimafeonibaa
open Go.RowKit
set_option linter.unusedVariables false

/-- What the deferred closure of Decode leaves where it has caught a panic. -/
def caught (w : World) (gv ge : Nat) : World := (set4 w gv (.int .i64 0) (.int .i64 0) (.string ⟨#[]⟩) (.slice none 0 0)).setCell ⟨ge, 0, none⟩ (.int .i64 10)

set_option maxRecDepth 100000 in
theorem catch_panicking (gv ge : Nat) (z0 z1 z2 z3 x : Value) (u : TypeId) (pv : Value) (older : List PanicEntry) (w : World) (hne : ge ≠ gv) (hv : Box w gv #[z0, z1, z2, z3] 24) (he : Box w ge #[x] 28) :
    CallsD Try.prog 34 #[.pointer (some ⟨gv, 0, none⟩), .pointer (some ⟨ge, 0, none⟩)] (.panicking ({ v := .iface u pv, recovered := false } :: older)) w fun e u' w' =>
      e = .returned (.tuple #[]) ∧ u' = .panicking ({ v := .iface u pv, recovered := true } :: older) ∧ w' = caught w gv ge := by
  have c0 : w.cell? ⟨gv, 0, none⟩ = some z0 := hv.cell 0
  have c1 : w.cell? ⟨gv, 1, none⟩ = some z1 := hv.cell 1
  have c2 : w.cell? ⟨gv, 2, none⟩ = some z2 := hv.cell 2
  have c3 : w.cell? ⟨gv, 3, none⟩ = some z3 := hv.cell 3
  have e0 : w.cell? ⟨ge, 0, none⟩ = some x := he.cell 0
  have fv : ∀ i, w.frozen? ⟨gv, i, none⟩ = false := fun i => by simp [World.frozen?, show w.heap[gv]? = _ from hv]
  have fe : ∀ i, w.frozen? ⟨ge, i, none⟩ = false := fun i => by simp [World.frozen?, show w.heap[ge]? = _ from he]
  have hne' : gv ≠ ge := fun e => hne e.symm
  refine callsD_of_wpS Try.func34 rfl fun c₀ cs hu => ?_
  apply wpS_seq
  apply wpS_region
  simp [wpOpsS, go_sem, recoverD, hu, Try.ntmps34, Exit.thenS]
  refine wpS_cond (t := true) (by simp [Act.eval, Array.replicate]) ?_
  simp only [if_true]
  apply wpS_region
  simp [wpOpsS, go_sem, c0, c1, c2, c3, e0, fv, fe, bodyPostS, results, Try.results34]
  rfl

theorem catch_idle (gv ge : Nat) (w : World) :
    CallsD Try.prog 34 #[.pointer (some ⟨gv, 0, none⟩), .pointer (some ⟨ge, 0, none⟩)] .returning w fun e u' w' => e = .returned (.tuple #[]) ∧ u' = .returning ∧ w' = w := by
  refine callsD_of_wpS Try.func34 rfl fun c₀ cs hu => ?_
  apply wpS_seq
  apply wpS_region
  simp [wpOpsS, go_sem, recoverD, hu, Try.ntmps34, Exit.thenS]
  refine wpS_cond (t := false) (by simp [Act.eval, Array.replicate]) ?_
  simp only [Bool.false_eq_true, if_false]
  refine wpS_of_wp (wp_skip ?_)
  cases c₀
  simp_all [bodyPostS, results, Try.results34]
end Go.Proofs.Ytkihimafeonibaa
