/- Moves that have been read. -/
import Derived.Test.YtojijebmipgeeaaRow
import Derived.Test.YtojijebmipgeeaaHap
namespace Go.Proofs.Ytojijebmipgeeaa
open Go.ChangeShapes Go.WideShapes Go.ChangeAt Go.RowKit Go.WideElems Go.Deep Go.Joins
set_option linter.unusedVariables false

def MvAt (w : World) (b off : Nat) (m : Mv) : Prop := ∀ (j : Nat) u, (mvc m)[j]? = some u → w.cell? ⟨b, off + j, none⟩ = some u
/-- A slice of moves. -/
def MM (w : World) (A : Option Addr) (l : List Mv) (c : Nat) : Prop := (0 < l.length → ∃ b off, A = some ⟨b, off, none⟩ ∧ b < w.heap.size ∧ ∀ i m, l[i]? = some m → MvAt w b (off + i * 5) m) ∧ l.length ≤ c ∧ c ≤ maxLen ∧ (A = none → l = [] ∧ c = 0)
theorem MM.up {w w' : World} {A : Option Addr} {l : List Mv} {c : Nat} (h : MM w A l c) (k : Below w.heap.size w w') : MM w' A l c := by
  refine ⟨fun hp => ?_, h.2⟩
  obtain ⟨b, off, e, hb, hs⟩ := h.1 hp
  exact ⟨b, off, e, Nat.lt_of_lt_of_le hb k.size, fun i m hi j u hj => (k.cell (p := ⟨b, off + i * 5 + j, none⟩) hb).trans (hs i m hi j u hj)⟩
instance : Inhabited Mv := ⟨⟨0, 0, 0, 0, 0⟩⟩
section
variable {H : Type} {enc : TypeId × Value → H}
theorem moves_of {W : World} {fuel : Nat} {v : Value} {x : DataW H × List MemPlace} (h : DataW.trod enc Try.prog W 0 (fun _ => true) true fuel 45 [v] = some x) : ∃ A l c, v = .slice A l.length c ∧ MM W A l c := by
  obtain ⟨A, l, c, rfl, h1, h2, h3, h4⟩ := elems_of (α := Mv) Try.underlying45 cells_mv (by decide) MvAt (fun fuel cs x hl ht => by
    obtain ⟨xs, n, hn, _, hlen, hxl, hf⟩ := DataW.trod_struct Try.underlying49 ht
    match cs, hl with
    | [c0, c1, c2, c3, c4], _ =>
      have hg : ∀ (i : Nat) (hi : i < 5), ∃ y, xs[i]? = some y := fun i hi => ⟨_, List.getElem?_eq_getElem (by rw [hxl]; exact hi)⟩
      obtain ⟨y0, g0⟩ := hg 0 (by omega)
      obtain ⟨y1, g1⟩ := hg 1 (by omega)
      obtain ⟨y2, g2⟩ := hg 2 (by omega)
      obtain ⟨y3, g3⟩ := hg 3 (by omega)
      obtain ⟨y4, g4⟩ := hg 4 (by omega)
      have k3 : Try.prog.cellsOf 5 = 1 := by kernel_rfl
      have f0 : DataW.trod enc Try.prog W 0 (fun _ => true) true n 5 [c0] = some y0 := by have := (hf 0 _ rfl).trans g0; simpa [k3] using this
      have f1 : DataW.trod enc Try.prog W 0 (fun _ => true) true n 5 [c1] = some y1 := by have := (hf 1 _ rfl).trans g1; simpa [k3] using this
      have f2 : DataW.trod enc Try.prog W 0 (fun _ => true) true n 5 [c2] = some y2 := by have := (hf 2 _ rfl).trans g2; simpa [k3] using this
      have f3 : DataW.trod enc Try.prog W 0 (fun _ => true) true n 5 [c3] = some y3 := by have := (hf 3 _ rfl).trans g3; simpa [k3] using this
      have f4 : DataW.trod enc Try.prog W 0 (fun _ => true) true n 5 [c4] = some y4 := by have := (hf 4 _ rfl).trans g4; simpa [k3] using this
      obtain ⟨m0, e0, _, w0⟩ := DataW.trod_int Try.underlying5 f0
      obtain ⟨m1, e1, _, w1⟩ := DataW.trod_int Try.underlying5 f1
      obtain ⟨m2, e2, _, w2⟩ := DataW.trod_int Try.underlying5 f2
      obtain ⟨m3, e3, _, w3⟩ := DataW.trod_int Try.underlying5 f3
      obtain ⟨m4, e4, _, w4⟩ := DataW.trod_int Try.underlying5 f4
      simp only [List.cons.injEq, and_true] at e0 e1 e2 e3 e4
      subst e0 e1 e2 e3 e4
      obtain ⟨b0, q0⟩ := byte_wf w0
      obtain ⟨b1, q1⟩ := byte_wf w1
      obtain ⟨b2, q2⟩ := byte_wf w2
      obtain ⟨b3, q3⟩ := byte_wf w3
      obtain ⟨b4, q4⟩ := byte_wf w4
      rw [q0, q1, q2, q3, q4]
      exact ⟨⟨b0, b1, b2, b3, b4⟩, fun b off hc j u hj => hc j u (by simpa [mvc] using hj)⟩) h
  exact ⟨A, l, c, rfl, h1, h2, h3, h4⟩
theorem moves_arg {W : World} {r : Reach} {base : Nat} {v : Value} {d : DataW H} {p : List MemPlace} (hv : Value.okWide Try.prog W r base 45 v) (h : DataW.Trod enc Try.prog W 0 (fun _ => true) true 45 v d p) :
    ∃ A l c, v = .slice A l.length c ∧ MM W A l c := by
  obtain ⟨a0, len0, cap0, rfl⟩ := okWide_slice Try.underlying45 hv
  obtain ⟨fuel, hf⟩ := h
  exact moves_of hf
end
end Go.Proofs.Ytojijebmipgeeaa
