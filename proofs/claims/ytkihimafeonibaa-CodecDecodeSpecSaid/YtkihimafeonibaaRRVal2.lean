/- The reference's reader: what is no value; texts. -/
import Derived.Test.YtkihimafeonibaaRRVal
import Derived.IntWalk
namespace Go.Proofs.Ytkihimafeonibaa
open Go.RowKit
set_option linter.unusedVariables false

set_option maxHeartbeats 400000 in
set_option maxRecDepth 100000 in
theorem rv_end (h : Nat) (A : Option Addr) (c : Nat) (L : List UInt8) (p : Nat) (dp : Int) (w : World) (hR : RR h w A c L p false) (hp : L.length ≤ p) :
    Calls Try.prog 36 #[.pointer (some ⟨h, 0, none⟩), .int .i64 dp] w (RVPost h A c L w none) := by
  have hrd := hR.lt
  have hR0 : RR h (w.alloc (.cells zeroV 24)) A c L p false := hR.keep fun k hk => ((Below.refl w.heap.size w).alloc (Nat.le_refl _) _).block k (by omega)
  have hg0 := World.grownBy_alloc w (.cells zeroV 24) (some h)
  have q0 := Box.new w zeroV 24
  unfold zeroV at *
  have HC := Lib.hid (rnext_end h A c L p false _ hR0 hp)
  clear hR0 hp hR
  go_enter Try.func36, Try.ntmps36
  go_wp2_with fail
  refine HC.out.mono ?_
  rintro e w1 ⟨rfl, hR1, hg1⟩
  have q1 := q0.grown hg1 (by omega)
  have hgg := grown_trans (grown_trans hg0 hg1) (set_grown_at w1 h 2 (.bool true))
  have q2 := q1.grown (set_grown_at w1 h 2 (.bool true)) (by omega)
  have hR2 := hR1.bad
  have d2 := hR1.cells.2.2
  have f3 := hR1.frozen 2
  have hlt1 := hR1.lt
  generalize hw2 : w1.setCell ⟨h, 2, none⟩ (.bool true) = w2 at *
  have c20 : w2.cell? ⟨w.heap.size, 0, none⟩ = some (.int .i64 0) := q2.cell 0
  have c21 : w2.cell? ⟨w.heap.size, 1, none⟩ = some (.int .i64 0) := q2.cell 1
  have c22 : w2.cell? ⟨w.heap.size, 2, none⟩ = some (.string ⟨#[]⟩) := q2.cell 2
  have c23 : w2.cell? ⟨w.heap.size, 3, none⟩ = some (.slice none 0 0) := q2.cell 3
  have f2 : ∀ i, w2.frozen? ⟨w.heap.size, i, none⟩ = false := fun i => by simp [World.frozen?, show w2.heap[w.heap.size]? = _ from q2]
  subst hw2
  clear HC hR1 hg1 q0 q1 hg0
  go_wp2_with fail
  have hf4 := rfin4 hgg q2 hR2 hrd (.int .i64 0) (.int .i64 0) (.string ⟨#[]⟩) (.slice none 0 0)
  obtain ⟨k0, k1, k2, k3, k4, k5⟩ := hf4
  refine bodyPost_ret (v := .agg #[.int .i64 0, .int .i64 0, .string ⟨#[]⟩, .slice none 0 0]) ?_ rfl ?_
  · unfold set4 at k2 k3 k4 k5
    simp [results, Try.results36, go_sem, k2, k3, k4, k5]
  · exact ⟨⟨_, _, _, _, _, _, rfl⟩, ⟨_, k0⟩, k1⟩

set_option maxHeartbeats 400000 in
set_option maxRecDepth 100000 in
theorem rv_other (h : Nat) (A : Option Addr) (c : Nat) (L : List UInt8) (p : Nat) (dp : Int) (d : UInt8) (w : World) (hR : RR h w A c L p false) (hd : L[p]? = some d) (n1 : d.toNat ≠ 1) (n2 : d.toNat ≠ 2) (n3 : d.toNat ≠ 3) :
    Calls Try.prog 36 #[.pointer (some ⟨h, 0, none⟩), .int .i64 dp] w (RVPost h A c L w none) := by
  have hrd := hR.lt
  have hR0 : RR h (w.alloc (.cells zeroV 24)) A c L p false := hR.keep fun k hk => ((Below.refl w.heap.size w).alloc (Nat.le_refl _) _).block k (by omega)
  have hg0 := World.grownBy_alloc w (.cells zeroV 24) (some h)
  have q0 := Box.new w zeroV 24
  unfold zeroV at *
  have HC := Lib.hid (rnext_good h A c L p false d _ hR0 hd)
  have t1 : ((d.toNat : Int) == 1) = false := by simp; omega
  have t2 : ((d.toNat : Int) == 2) = false := by simp; omega
  have t3 : ((d.toNat : Int) == 3) = false := by simp; omega
  clear hR0 hd hR n1 n2 n3
  go_enter Try.func36, Try.ntmps36
  go_wp2_with fail
  refine HC.out.mono ?_
  rintro e w1 ⟨rfl, hR1, hg1⟩
  unfold bv
  have q1 := q0.grown hg1 (by omega)
  have hgg := grown_trans (grown_trans hg0 hg1) (set_grown_at w1 h 2 (.bool true))
  have q2 := q1.grown (set_grown_at w1 h 2 (.bool true)) (by omega)
  have hR2 := hR1.bad
  have d2 := hR1.cells.2.2
  have f3 := hR1.frozen 2
  have hlt1 := hR1.lt
  generalize hw2 : w1.setCell ⟨h, 2, none⟩ (.bool true) = w2 at *
  have c20 : w2.cell? ⟨w.heap.size, 0, none⟩ = some (.int .i64 0) := q2.cell 0
  have c21 : w2.cell? ⟨w.heap.size, 1, none⟩ = some (.int .i64 0) := q2.cell 1
  have c22 : w2.cell? ⟨w.heap.size, 2, none⟩ = some (.string ⟨#[]⟩) := q2.cell 2
  have c23 : w2.cell? ⟨w.heap.size, 3, none⟩ = some (.slice none 0 0) := q2.cell 3
  have f2 : ∀ i, w2.frozen? ⟨w.heap.size, i, none⟩ = false := fun i => by simp [World.frozen?, show w2.heap[w.heap.size]? = _ from q2]
  subst hw2
  clear HC hR1 hg1 q0 q1 hg0
  go_wp2_with fail
  have hf4 := rfin4 hgg q2 hR2 hrd (.int .i64 0) (.int .i64 0) (.string ⟨#[]⟩) (.slice none 0 0)
  obtain ⟨k0, k1, k2, k3, k4, k5⟩ := hf4
  refine bodyPost_ret (v := .agg #[.int .i64 0, .int .i64 0, .string ⟨#[]⟩, .slice none 0 0]) ?_ rfl ?_
  · unfold set4 at k2 k3 k4 k5
    simp [results, Try.results36, go_sem, k2, k3, k4, k5]
  · exact ⟨⟨_, _, _, _, _, _, rfl⟩, ⟨_, k0⟩, k1⟩
end Go.Proofs.Ytkihimafeonibaa
