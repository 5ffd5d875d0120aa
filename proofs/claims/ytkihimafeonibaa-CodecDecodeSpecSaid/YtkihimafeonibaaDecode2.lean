import Derived.Test.YtkihimafeonibaaDecode
namespace Go.Proofs.Ytkihimafeonibaa
open Go.RowKit
set_option linter.unusedVariables false

set_option maxHeartbeats 400000 in
set_option maxRecDepth 100000 in
theorem decode_more (l : List UInt8) (A : Option Addr) (c : Nat) (w : World) (hB : Bs w.heap.size w A l) (h1 : l.length ≤ c) (h2 : c ≤ maxLen) (hl : l.length ≤ 1000000) (t : T) (r : List UInt8) (hp : pval 16 l = some (t, r)) (hr : r ≠ []) :
    Calls Try.prog 18 #[.slice A l.length c] w (DPost w none) := by
  have hmf : ∀ (fn : Fn) (first cap : Array Value) (w : World), (Instr.makeFunc fn first cap).run Try.prog w = .ok (.func fn first cap) w := fun _ _ _ _ => rfl
  have hb0 := (((Below.refl w.heap.size w).alloc (Nat.le_refl _) (.cells zeroV 24)).alloc (by simp) (.cells #[.int .i64 0] 28)).alloc (by simp; omega) (.cells #[.slice A l.length c] 54)
  have q0 := ((Box.new w zeroV 24).alloc (.cells #[.int .i64 0] 28)).alloc (.cells #[.slice A l.length c] 54)
  have q1 := (Box.new (w.alloc (.cells zeroV 24)) #[.int .i64 0] 28).alloc (.cells #[.slice A l.length c] 54)
  have q2 := Box.new ((w.alloc (.cells zeroV 24)).alloc (.cells #[.int .i64 0] 28)) #[.slice A l.length c] 54
  simp only [World.size_alloc] at q1 q2
  have hR : RS (w.heap.size + 1 + 1) (((w.alloc (.cells zeroV 24)).alloc (.cells #[.int .i64 0] 28)).alloc (.cells #[.slice A l.length c] 54)) l := by
    refine ⟨A, c, q2, h1, h2, fun hp => ?_⟩
    obtain ⟨b, off, rfl, hlt, hc⟩ := hB hp
    exact ⟨b, off, rfl, by omega, fun j u hu => (hb0.cell (p := ⟨b, off + j, none⟩) hlt).trans (hc j u hu)⟩
  have hv := value_any1 (w.heap.size + 1 + 1) 16 l _ (by omega) hR hl
  rw [hp] at hv
  have HV := Lib.hid hv
  unfold maxLen at h2
  clear hv hR hB hp q2
  unfold zeroV at *
  go_enter_defers Try.func18, Try.ntmps18
  go_wp2_with fail
  refine HV.out.mono ?_
  rintro e w1 ⟨v, rfl, hrt, hR1, hg⟩
  simp only at hrt hR1
  have p0 := q0.grown hg (by omega)
  have p1 := q1.grown hg (by omega)
  have hz0 := hb0.size
  have hb1 := hb0.trans (below_grown hg (by omega) (by omega))
  obtain ⟨k1, n1, s1, a1, m1, c1, rfl⟩ := hrt.form
  obtain ⟨A1, cc, hh, hcc1, hcc2, _⟩ := hR1
  have hrd1 : w1.cell? ⟨w.heap.size + 1 + 1, 0, none⟩ = some (.slice A1 r.length cc) := by rw [cell_of_row w1 _ 0 _ _ _ hh]; rfl
  have c20 : w1.cell? ⟨w.heap.size, 0, none⟩ = some (.int .i64 0) := p0.cell 0
  have c21 : w1.cell? ⟨w.heap.size, 1, none⟩ = some (.int .i64 0) := p0.cell 1
  have c22 : w1.cell? ⟨w.heap.size, 2, none⟩ = some (.string ⟨#[]⟩) := p0.cell 2
  have c23 : w1.cell? ⟨w.heap.size, 3, none⟩ = some (.slice none 0 0) := p0.cell 3
  have f2 : ∀ i, w1.frozen? ⟨w.heap.size, i, none⟩ = false := fun i => by simp [World.frozen?, show w1.heap[w.heap.size]? = _ from p0]
  have r0 := set4_box p0 (.int .i64 k1) (.int .i64 n1) (.string s1) (.slice a1 m1 c1)
  have r1 : Box (set4 w1 w.heap.size (.int .i64 k1) (.int .i64 n1) (.string s1) (.slice a1 m1 c1)) (w.heap.size + 1) #[.int .i64 0] 28 := (set4_other _ _ _ _ _ _ _ (by omega)).trans p1
  have r2 : (set4 w1 w.heap.size (.int .i64 k1) (.int .i64 n1) (.string s1) (.slice a1 m1 c1)).cell? ⟨w.heap.size + 1 + 1, 0, none⟩ = some (.slice A1 r.length cc) := (World.cell?_of_block (a := ⟨w.heap.size + 1 + 1, 0, none⟩) (set4_other _ _ _ _ _ _ _ (by show w.heap.size + 1 + 1 ≠ _; omega))).trans hrd1
  have hb2 : Below w.heap.size w (set4 w1 w.heap.size (.int .i64 k1) (.int .i64 n1) (.string s1) (.slice a1 m1 c1)) := by
    unfold set4
    exact (((hb1.setCell (Nat.le_refl _) _).setCell (Nat.le_refl _) _).setCell (Nat.le_refl _) _).setCell (Nat.le_refl _) _
  have hrl : r.length ≤ 9223372036854775807 := by unfold maxLen at hcc2; omega
  have hr0 : (0 : Int) < (r.length : Int) := by cases r with | nil => exact absurd rfl hr | cons _ _ => simp
  have hkc := caught_cells (gv := w.heap.size) (ge := w.heap.size + 1) (by omega) r0 r1
  have hbc := caught_below (gv := w.heap.size) (ge := w.heap.size + 1) hb2 (by omega) (by omega)
  have hne : w.heap.size + 1 ≠ w.heap.size := by omega
  have hct := catch_panicking w.heap.size (w.heap.size + 1) _ _ _ _ _ 28 (.int .i64 10) [] _ hne r0 r1
  have HCT := Lib.hid hct
  have HKC := Lib.hid hkc
  have HBC := Lib.hid hbc
  clear hkc hbc hct
  unfold set4 at r2
  clear r0 r1 hb2 p0 p1 hh hcc1 hcc2 hrt hg hb0 hb1 q0 q1 HV hz0
  go_wp2_with fail
  refine leaves_cons (f := 34) (args := #[.pointer (some ⟨w.heap.size, 0, none⟩), .pointer (some ⟨w.heap.size + 1, 0, none⟩)]) (by simp) (by simp [go_sem]) ?_
  unfold set4 at HCT
  refine HCT.out.mono ?_
  rintro e u' w'' ⟨rfl, rfl, rfl⟩
  obtain ⟨k0, k1, k2, k3, k4⟩ := HKC.out
  have hbc := HBC.out
  unfold set4 at k0 k1 k2 k3 k4 hbc
  trace "a"
  simp [Leaves, settle, results, Try.results18, go_sem, k0, k1, k2, k3, k4, DPost, hbc]
end Go.Proofs.Ytkihimafeonibaa
