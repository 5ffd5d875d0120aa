/- What extend leaves; a generator more. -/
import Derived.Test.YtobchecnfkocdaaTg
import Derived.Test.YtobchecnfkocdaaPd
import Derived.Test.YtobchecnfkocdaaPgC
import Derived.WalkMore
import Derived.Deep.LoopGhost
namespace Go.Proofs.Ytobchecnfkocdaa
open Go.RowKit
set_option linter.unusedVariables false
set_option linter.unusedSimpArgs false

section
variable {P : Program} {md : Region.Mode} {ops : Array Oper} {Q : Exit → Act → World → Prop} {st : Nat} {D : World → Prop}
/-- Two operations may come up. -/
theorem twoL {i j : Nat} {oi oj : Oper} {fuel : Nat} {listed : Array Bool} {a : Act} {w : World} (hr : Region.ready md ops listed = [i, j]) (hoi : ops[i]? = some oi) (hoj : ops[j]? = some oj)
    (hi : ∀ K' : Act → World → Prop, Shut (∀ a w, Lt st D (listed.setIfInBounds i true) w → wpAnyL P md ops Q st D fuel (listed.setIfInBounds i true) a w → K' a w) → if Region.wanted oi (yielded ops a.tmps) = true then Oper.wp P oi a w K' Q else K' (a.put oi.dst undef) w)
    (hj : ∀ K' : Act → World → Prop, Shut (∀ a w, Lt st D (listed.setIfInBounds j true) w → wpAnyL P md ops Q st D fuel (listed.setIfInBounds j true) a w → K' a w) → if Region.wanted oj (yielded ops a.tmps) = true then Oper.wp P oj a w K' Q else K' (a.put oj.dst undef) w) :
    wpAnyL P md ops Q st D (fuel + 1) listed a w := by
  refine ⟨fun h0 => absurd (hr ▸ h0) (by simp), fun k hk => ?_⟩
  rw [hr] at hk
  rcases List.mem_cons.1 hk with e | hk
  · rw [e]
    exact wpOp_step hoi (fun K' hK => hi K' (fun a w hS hW => hK a w ⟨hS, hW⟩))
  · rw [List.mem_singleton.1 hk]
    exact wpOp_step hoj (fun K' hK => hj K' (fun a w hS hW => hK a w ⟨hS, hW⟩))
end
/-- What extend leaves. -/
def ExtP (N : Nat) (gens els : List (List Nat)) (p : List Nat) (b : Bool) (gens' els' : List (List Nat)) : Prop :=
  (p ∈ els ∧ b = true ∧ gens' = gens ∧ els' = els) ∨
  (p ∉ els ∧ gens' = gens ++ [p] ∧ (∀ q ∈ els, q ∈ els') ∧ els'.Nodup ∧ els'.length ≤ 4096 ∧ (∀ q ∈ els', Pm N q) ∧
    (∀ Q : List Nat → Prop, (∀ q ∈ els, Q q) → (∀ q y, Q q → y ∈ gens' → Q (mu q y)) → ∀ q ∈ els', Q q) ∧
    (b = true → ∀ x ∈ els', ∀ y ∈ gens', mu x y ∈ els') ∧ (b = false → els'.length = 4096 ∧ ∃ x y, x ∈ els' ∧ y ∈ gens' ∧ mu x y ∉ els'))
def ExtQ (B N G mb : Nat) (gens els : List (List Nat)) (p : List Nat) (W : World) (e : Ending) (W' : World) : Prop :=
  ∃ (b : Bool) (gens' els' : List (List Nat)) (Ag : Option Addr) (cg : Nat) (Ae : Option Addr) (ce : Nat), e = .returned (.bool b) ∧ GS B N W' G gens' els' mb els'.length Ag cg Ae ce ∧ Below B W W' ∧ ExtP N gens els p b gens' els'

theorem gen_mid {B N G mb mc cg ce B3 g c' : Nat} {W V1 V2 w11 : World} {gens els : List (List Nat)} {Ag Ae : Option Addr} {p : List Nat} {CX : Array Value} (h : GS B N W G gens els mb mc Ag cg Ae ce) (hp : Ok N p) (h1 : GS B N V1 G gens els mb mc Ag cg Ae ce) (h3 : Box V1 B3 CX 55) (hbW : Below W.heap.size W V1) (hba : Below V1.heap.size V1 V2)
    (ho : w11.ownsRow B 55 256 (.slice (some ⟨g, 0, none⟩) (gens.length + 1) c') (gens.length + 1) (flatE (gens ++ [p]))) (hg : V2.grownBy w11 (Value.slice Ag gens.length cg).ownBlock) (hat : (Value.slice Ag gens.length cg).ownBlock = some g ∨ g = V2.heap.size) (hB3 : W.heap.size ≤ B3) :
    Box w11 G #[.int .i64 (N : Int), .slice Ag gens.length cg, .slice Ae els.length ce, .map (some mb)] 64 ∧ Box w11 B3 CX 55 ∧
      GS B N (w11.setCell ⟨G, 1, none⟩ (.slice (some ⟨g, 0, none⟩) (gens.length + 1) c')) G (gens ++ [p]) els mb mc (some ⟨g, 0, none⟩) c' Ae ce ∧ Below B W (w11.setCell ⟨G, 1, none⟩ (.slice (some ⟨g, 0, none⟩) (gens.length + 1) c')) := by
  obtain ⟨hbW0, hog0, _, _, _, _, _, _, _⟩ := h
  obtain ⟨hb, hog, hoe, hap, ⟨S, hme, hSm⟩, hBG, hBm, hg1, he1⟩ := h1
  have hsz : B ≤ W.heap.size := by have := hbW0.lt; omega
  have hb2 := hb.below hba
  have hoe2 := own_below hoe hba
  have hog2 := own_below hog hba
  have hbx := hb2.grown hg (fun e => box_own hb2 hog2 (by decide) e.symm)
  have hx3 := (h3.below hba).grown hg (fun e => by have := (hog0.lt B3 e.symm).2; omega)
  have hoew : w11.ownsRow B 55 256 (.slice Ae els.length ce) els.length (flatE els) := by
    refine hoe2.kept hg ?_
    rcases hap with h1 | h1
    · exact .inl h1
    · exact .inr h1
  have hme2 : ME N V2 mb mc S := hme.kept (below_row hba none) (by simp)
  have hme3 : ME N w11 mb mc S := hme2.kept hg (fun e => map_own hme2 hog2 e.symm)
  have hset := set_grown_at w11 G 1 (.slice (some ⟨g, 0, none⟩) (gens.length + 1) c')
  have hb11 : Below B W w11 := by
    have h1 : Below B W V2 := (hbW.trans (hba.mono hbW.size)).mono hsz
    exact own_grown h1 hog2 hg (by have := hb2.lt; omega)
  refine ⟨hbx, hx3, ⟨?_, ?_, ?_, ?_, ⟨S, hme3.kept hset (by have := map_box hme3 hbx; simpa using fun e => this e.symm), hSm⟩, hBG, hBm, fun q hq => ?_, he1⟩, hb11.setCell (p := ⟨G, 1, none⟩) hBG _⟩
  · have := hbx.set (i := 1) (v := .slice (some ⟨g, 0, none⟩) (gens.length + 1) c')
    rw [List.length_append, List.length_singleton]
    exact this
  · rw [List.length_append, List.length_singleton]
    exact ho.kept hset (.inr (box_own hbx ho (by decide)))
  · exact hoew.kept hset (.inr (box_own hbx hoew (by decide)))
  · rw [List.length_append, List.length_singleton]
    rcases hap with h1 | h1
    · exact .inl h1
    · refine .inr (fun e => ?_)
      have e : (Value.slice Ae els.length ce).ownBlock = some g := e
      rcases hat with h2 | h2
      · exact h1 (e.trans h2.symm)
      · have := (hoe2.lt g e).2
        omega
  · rcases List.mem_append.1 hq with h1 | h1
    · exact hg1 q h1
    · rw [List.mem_singleton.1 h1]; exact hp

theorem wpList_load_el {w : World} {ops : Array Oper} {rest : List Oper} {o : Oper} {a : Act} {Q : Exit → Act → World → Prop} (hgd : o.guard = none) (x : Operand) (ho : o.op = .load 55 x) (b off : Nat) (hx : a.eval x = .pointer (some ⟨b, off, none⟩)) (cs : List Value) (hS : w.rangeAt b off cs) (hl : cs.length = 256)
    (h : wpList Try.prog ops Q rest (a.put o.dst (.agg cs.toArray)) w) : wpList Try.prog ops Q (o :: rest) a w :=
  wpList_plain hgd fun K hK => by
    unfold Oper.wp execOp
    simp only [ho, hx, Instr.loadAt, Instr.sureAddr, Sem.run_bind, Sem.run_pure, Result.andThen_ok, run_loadVar_mid w b off 55 cs _ hS Try.underlying55 rfl (by rw [hl]; exact el_whole)]
    exact hK _ _ h
/-- An element in a row of the call's own. -/
theorem own_range {B n c : Nat} {w : World} {A : Option Addr} {l : List (List Nat)} (h : w.ownsRow B 55 256 (.slice A n c) n (flatE l)) {i : Nat} {p : List Nat} (hi : l[i]? = some p) (hn : l.length = n) : ∃ g, A = some ⟨g, 0, none⟩ ∧ g < w.heap.size ∧ B ≤ g ∧ w.rangeAt g (i * 256) (eof p).toList := by
  have hlt := (List.getElem?_eq_some_iff.1 hi).1
  rcases h.2 with ⟨hv, h0⟩ | ⟨g, cap, cur, hv, hbg, hg, h1, h2, _⟩
  · omega
  · injection hv with hA hl hc
    subst hA
    refine ⟨g, rfl, heap_lt hg, hbg, fun j u hu => ?_⟩
    have := h.cells (g := g) (by subst hc; rfl) (i * 256 + j) u (flatE_at hi hu)
    rw [add_off] at this
    simpa using this
/-- What holds of the elements in the middle of the search. -/
def InvE (N : Nat) (gs els es : List (List Nat)) : Prop :=
  (∀ q ∈ els, q ∈ es) ∧ es.Nodup ∧ es.length ≤ 4096 ∧ (∀ q ∈ es, Pm N q) ∧ (∀ Q : List Nat → Prop, (∀ q ∈ els, Q q) → (∀ q y, Q q → y ∈ gs → Q (mu q y)) → ∀ q ∈ es, Q q)
theorem InvE.add {N : Nat} {gs els es : List (List Nat)} (h : InvE N gs els es) {x y : List Nat} (hx : x ∈ es) (hy : y ∈ gs) (py : Pm N y) (hz : mu x y ∉ es) (hl : es.length ≠ 4096) : InvE N gs els (es ++ [mu x y]) := by
  obtain ⟨h1, h2, h3, h4, h5⟩ := h
  refine ⟨fun q hq => List.mem_append_left _ (h1 q hq), ?_, by rw [List.length_append, List.length_singleton]; omega, fun q hq => ?_, fun Q hQ1 hQ2 q hq => ?_⟩
  · rw [List.nodup_append]
    refine ⟨h2, by simp, fun a ha b hb e => ?_⟩
    rw [List.mem_singleton.1 hb] at e
    exact hz (e ▸ ha)
  · rcases List.mem_append.1 hq with h | h
    · exact h4 q h
    · rw [List.mem_singleton.1 h]; exact (h4 x hx).mul py
  · rcases List.mem_append.1 hq with h | h
    · exact h5 Q hQ1 hQ2 q h
    · rw [List.mem_singleton.1 h]; exact hQ2 x y (h5 Q hQ1 hQ2 x hx) hy
end Go.Proofs.Ytobchecnfkocdaa
