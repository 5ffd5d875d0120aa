import Derived.Test.YtkihimafeonibaaCatch
namespace Go.Proofs.Ytkihimafeonibaa
open Go.RowKit
set_option linter.unusedVariables false

/-- What Decode finds. -/
def decode (l : List UInt8) : Option T :=
  match pval 16 l with
  | none => none
  | some x => if x.2 = [] then some x.1 else none
/-- What Decode does. -/
def DPost (w : World) (o : Option T) (e : Ending) (w' : World) : Prop :=
  match o with
  | none => e = .returned (.tuple #[.agg #[.int .i64 0, .int .i64 0, .string ⟨#[]⟩, .slice none 0 0], .int .i64 10]) ∧ Below w.heap.size w w'
  | some t => ∃ v, e = .returned (.tuple #[v, .int .i64 0]) ∧ RdQ (w.heap.size ≤ ·) w' t v ∧ Below w.heap.size w w'

theorem below_grown {B : Nat} {w w' : World} {rd : Nat} (h : w.grownBy w' (some rd)) (hB : B ≤ rd) (hz : B ≤ w.heap.size) : Below B w w' :=
  ⟨h.os, h.tape, h.output, h.size, fun k hk => h.block k (by omega) (fun e => by injection e with e; omega)⟩

theorem caught_below {w0 w : World} {gv ge B : Nat} (h : Below B w0 w) (h1 : B ≤ gv) (h2 : B ≤ ge) : Below B w0 (caught w gv ge) := by
  unfold caught set4
  exact ((((h.setCell h1 _).setCell h1 _).setCell h1 _).setCell h1 _).setCell h2 _
theorem caught_cells {w : World} {gv ge : Nat} {z0 z1 z2 z3 x : Value} {t u : TypeId} (hne : ge ≠ gv) (hv : Box w gv #[z0, z1, z2, z3] t) (he : Box w ge #[x] u) :
    (caught w gv ge).cell? ⟨gv, 0, none⟩ = some (.int .i64 0) ∧ (caught w gv ge).cell? ⟨gv, 1, none⟩ = some (.int .i64 0) ∧ (caught w gv ge).cell? ⟨gv, 2, none⟩ = some (.string ⟨#[]⟩) ∧
    (caught w gv ge).cell? ⟨gv, 3, none⟩ = some (.slice none 0 0) ∧ (caught w gv ge).cell? ⟨ge, 0, none⟩ = some (.int .i64 10) := by
  have h4 := set4_box hv (.int .i64 0) (.int .i64 0) (.string ⟨#[]⟩) (.slice none 0 0)
  have he4 : Box (set4 w gv (.int .i64 0) (.int .i64 0) (.string ⟨#[]⟩) (.slice none 0 0)) ge #[x] u := (set4_other _ _ _ _ _ _ ge hne).trans he
  have hfar : ∀ i, (caught w gv ge).cell? ⟨gv, i, none⟩ = (set4 w gv (.int .i64 0) (.int .i64 0) (.string ⟨#[]⟩) (.slice none 0 0)).cell? ⟨gv, i, none⟩ :=
    fun i => World.cell?_of_block (a := ⟨gv, i, none⟩) (Below.heap_setCell _ _ _ _ (fun e => hne e.symm))
  refine ⟨(hfar 0).trans (h4.cell 0), (hfar 1).trans (h4.cell 1), (hfar 2).trans (h4.cell 2), (hfar 3).trans (h4.cell 3), ?_⟩
  exact World.cell?_setCell_same _ _ _ (he4.cell 0)

set_option maxHeartbeats 400000 in
set_option maxRecDepth 100000 in
theorem decode_none (l : List UInt8) (A : Option Addr) (c : Nat) (w : World) (hB : Bs w.heap.size w A l) (h1 : l.length ≤ c) (h2 : c ≤ maxLen) (hl : l.length ≤ 1000000) (hp : pval 16 l = none) :
    Calls Try.prog 18 #[.slice A l.length c] w (DPost w none) := by
  have hmf : ∀ (fn : Fn) (first cap : Array Value) (w : World), (Instr.makeFunc fn first cap).run Try.prog w = .ok (.func fn first cap) w := fun _ _ _ _ => rfl
  have hb0 := (((Below.refl w.heap.size w).alloc (Nat.le_refl _) (.cells zeroV 24)).alloc (by simp) (.cells #[.int .i64 0] 28)).alloc (by simp; omega) (.cells #[.slice A l.length c] 54)
  have q0 := ((Box.new w zeroV 24).alloc (.cells #[.int .i64 0] 28)).alloc (.cells #[.slice A l.length c] 54)
  have q1 := (Box.new (w.alloc (.cells zeroV 24)) #[.int .i64 0] 28).alloc (.cells #[.slice A l.length c] 54)
  have q2 := Box.new ((w.alloc (.cells zeroV 24)).alloc (.cells #[.int .i64 0] 28)) #[.slice A l.length c] 54
  simp only [World.size_alloc] at q1 q2
  have hR : RS (w.heap.size + 1 + 1) (((w.alloc (.cells zeroV 24)).alloc (.cells #[.int .i64 0] 28)).alloc (.cells #[.slice A l.length c] 54)) l := by
    refine ⟨A, c, q2, h1, h2, fun hp => ?_⟩
    obtain ⟨b, off, rfl, hlt, hc⟩ := hB hp
    exact ⟨b, off, rfl, by omega, fun j u hu => (hb0.cell (p := ⟨b, off + j, none⟩) hlt).trans (hc j u hu)⟩
  have hv := value_any1 (w.heap.size + 1 + 1) 16 l _ (by omega) hR hl
  rw [hp] at hv
  have HV := Lib.hid hv
  unfold maxLen at h2
  clear hv hR hB hp q2
  unfold zeroV at *
  go_enter_defers Try.func18, Try.ntmps18
  go_wp2_with fail
  refine HV.out.mono ?_
  rintro e w1 ⟨rfl, hg⟩
  have p0 := q0.grown hg (by omega)
  have p1 := q1.grown hg (by omega)
  have hb1 := hb0.trans (below_grown hg (by omega) (by have := hb0.size; omega))
  clear q0 q1 hg HV hb0
  go_wp2_with fail
  refine leaves_cons (f := 34) (args := #[.pointer (some ⟨w.heap.size, 0, none⟩), .pointer (some ⟨w.heap.size + 1, 0, none⟩)]) (by simp) (by simp [go_sem]) ?_
  refine (catch_panicking w.heap.size (w.heap.size + 1) _ _ _ _ _ 28 _ [] _ (by omega) p0 p1).mono ?_
  rintro e u' w'' ⟨rfl, rfl, rfl⟩
  obtain ⟨k0, k1, k2, k3, k4⟩ := caught_cells (by omega) p0 p1
  have hbc := caught_below (gv := w.heap.size) (ge := w.heap.size + 1) hb1 (by omega) (by omega)
  simp [Leaves, settle, results, Try.results18, go_sem, k0, k1, k2, k3, k4, DPost, hbc]
end Go.Proofs.Ytkihimafeonibaa
