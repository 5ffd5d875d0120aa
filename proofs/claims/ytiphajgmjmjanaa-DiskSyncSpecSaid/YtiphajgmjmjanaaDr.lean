/- Disks that are handed back: a struct in a cell. -/
import Derived.Test.YtiphajgmjmjanaaRr
namespace Go.Proofs.Ytiphajgmjmjanaa
open Go.RowKit
set_option linter.unusedVariables false

theorem dk_size (v0 v1 v2 v3 : Value) : (Try.prog.info? 25).map (·.size) = some (#[v0, v1, v2, v3] : Array Value).size := by
  have h := dk_info
  cases hi : Try.prog.info? 25 with
  | none => rw [hi] at h; cases h
  | some i =>
    rw [hi] at h
    simp only [Option.map_some, Option.some.injEq, Prod.mk.injEq] at h
    simp [h.2.1]
theorem results_row_tmp {P : Program} {fn : Func} {p u : Tmp} {ty : TypeId} (h : fn.results = #[.cell p ty, .tmp u]) (tmps : Array Value) (w : World) (g : Nat) (t : TypeId) (cs : Array Value) (fr : Nat × Nat) (d : TypeDesc)
    (hp : tmps.getD p undef = .pointer (some ⟨g, 0, none⟩)) (hg : w.heap[g]? = some (.cells cs t fr))
    (hu : P.underlying ty = some d) (hd : (match d with | .struct _ | .array _ _ => true | _ => false) = true) (hi : (P.info? ty).map (·.size) = some cs.size) :
    (results fn tmps).run P w = .ok (.tuple #[.agg cs, tmps.getD u undef]) w := by
  have hp' : tmps[p]?.getD undef = .pointer (some ⟨g, 0, none⟩) := by simpa using hp
  simp [results, h, hp', asAddr, run_loadVar_row w g t ty cs fr d hg hu hd hi]
/-- Four cells of a box are written. -/
theorem box4 {w : World} {g : Nat} {t : TypeId} {a0 a1 a2 a3 : Value} (v0 v1 v2 v3 : Value) (h : Box w g #[a0, a1, a2, a3] t) : Box ((((w.setCell ⟨g, 0, none⟩ v0).setCell ⟨g, 1, none⟩ v1).setCell ⟨g, 2, none⟩ v2).setCell ⟨g, 3, none⟩ v3) g #[v0, v1, v2, v3] t := by
  have := ((h.set (i := 0) (v := v0)).set (i := 1) (v := v1)).set (i := 2) (v := v2)
  exact this.set (i := 3) (v := v3)
theorem box_other {w : World} {g b i : Nat} {t : TypeId} {cs : Array Value} {v : Value} (h : Box w g cs t) (hne : g ≠ b) : Box (w.setCell ⟨b, i, none⟩ v) g cs t := h.grown (set_grown_at w b i v) (by simpa using hne)
/-- The rule of the end: a disk alone. -/
theorem dk_ret {fn : Func} {p : Tmp} (h : fn.results = #[.cell p 25]) {v0 v1 v2 v3 : Value} {tmps : Array Value} {w : World} {g : Nat} (hp : tmps.getD p undef = .pointer (some ⟨g, 0, none⟩)) (hb : Box w g #[v0, v1, v2, v3] 25) :
    (results fn tmps).run Try.prog w = .ok (.agg #[v0, v1, v2, v3]) w :=
  results_cell_row h tmps w g 25 #[v0, v1, v2, v3] (0, 0) _ hp hb Try.underlying25 rfl (dk_size _ _ _ _)
/-- .. a disk and an error. -/
theorem dk_ret2 {fn : Func} {p u : Tmp} (h : fn.results = #[.cell p 25, .tmp u]) {v0 v1 v2 v3 : Value} {tmps : Array Value} {w : World} {g : Nat} (hp : tmps.getD p undef = .pointer (some ⟨g, 0, none⟩)) (hb : Box w g #[v0, v1, v2, v3] 25) :
    (results fn tmps).run Try.prog w = .ok (.tuple #[.agg #[v0, v1, v2, v3], tmps.getD u undef]) w :=
  results_row_tmp h tmps w g 25 #[v0, v1, v2, v3] (0, 0) _ hp hb Try.underlying25 rfl (dk_size _ _ _ _)
end Go.Proofs.Ytiphajgmjmjanaa
