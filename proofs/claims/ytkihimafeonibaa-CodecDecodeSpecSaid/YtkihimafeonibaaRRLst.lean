/- The reference's reader: lists that are refused. -/
import Derived.Test.YtkihimafeonibaaRRTxt
import Derived.BigQuiet
namespace Go.Proofs.Ytkihimafeonibaa
open Go.RowKit
set_option linter.unusedVariables false

set_option maxHeartbeats 1000000 in
set_option maxRecDepth 100000 in
theorem rv_list_bad (h : Nat) (A : Option Addr) (c : Nat) (L : List UInt8) (p : Nat) (dp : Int) (d : UInt8) (w : World) (hR : RR h w A c L p false) (hd : L[p]? = some d) (hd1 : d.toNat = 3) (hL : L.length ≤ 1000000) (hgood : ∀ u l1, pn 0 0 (L.drop (p + 1)) = some (u, l1) → l1.length < u ∨ dp = 16) :
    Calls Try.prog 36 #[.pointer (some ⟨h, 0, none⟩), .int .i64 dp] w (RVPost h A c L w none) := by
  have hrd := hR.lt
  have hpl : p < L.length := (List.getElem?_eq_some_iff.1 hd).1
  have hR0 : RR h (w.alloc (.cells zeroV 24)) A c L p false := hR.keep fun k hk => ((Below.refl w.heap.size w).alloc (Nat.le_refl _) _).block k (by omega)
  have hg0 := World.grownBy_alloc w (.cells zeroV 24) (some h)
  have q0 := Box.new w zeroV 24
  unfold zeroV at *
  have HC := Lib.hid (rnext_good h A c L p false d _ hR0 hd)
  have hbi : bv d = .int .u8 3 := by unfold bv; rw [hd1]; rfl
  have HBI := Lib.hid hbi
  clear hR0 hd hd1 hbi hR
  go_enter Try.func36, Try.ntmps36
  go_wp2_with fail
  refine HC.out.mono ?_
  rintro e w1 ⟨rfl, hR1, hg1⟩
  have q1 := q0.grown hg1 (by omega)
  have HN := Lib.hid (rrnum_any h A c L (p + 1) w1 hR1)
  clear HC hR1
  rw [HBI.out]
  go_wp2_with fail
  refine HN.out.mono ?_
  intro e w2 hq
  cases hO : pn 0 0 (L.drop (p + 1)) with
  | none =>
    rw [hO] at hq
    obtain ⟨rfl, ⟨q, hR2⟩, hg2⟩ := hq
    have HO := Lib.hid hO
    have qq := q1.grown hg2 (by omega)
    have hg3 := grown_trans (grown_trans hg0 hg1) hg2
    have d2 := hR2.cells.2.2
    clear hO q0 q1 hg0 hg1 hg2 HN
    go_wp2_with fail
    go_quiet (fail)
    generalize hwn : w2.drewN _ = wn
    have hRn : RR h wn A c L q true := hR2.keep fun k _ => by rw [← hwn]; rfl
    have hgn : w.grownBy wn (some h) := by rw [← hwn]; exact grown_trans hg3 ⟨rfl, rfl, rfl, Nat.le_refl _, fun _ _ _ => rfl⟩
    have qn : Box wn w.heap.size _ _ := (show wn.heap[w.heap.size]? = _ by rw [← hwn]; exact qq)
    clear hwn d2 qq hg3 hR2
    have q2 := qn.grown (set_grown_at wn h 2 (.bool true)) (by omega)
    have hgg := grown_trans hgn (set_grown_at wn h 2 (.bool true))
    have hR3 := hRn.bad
    have d2 := hRn.cells.2.2
    have f3 := hRn.frozen 2
    have hlt1 := hRn.lt
    generalize hw3 : wn.setCell ⟨h, 2, none⟩ (.bool true) = w3 at *
    have c20 : w3.cell? ⟨w.heap.size, 0, none⟩ = some (.int .i64 0) := q2.cell 0
    have c21 : w3.cell? ⟨w.heap.size, 1, none⟩ = some (.int .i64 0) := q2.cell 1
    have c22 : w3.cell? ⟨w.heap.size, 2, none⟩ = some (.string ⟨#[]⟩) := q2.cell 2
    have c23 : w3.cell? ⟨w.heap.size, 3, none⟩ = some (.slice none 0 0) := q2.cell 3
    have f2 : ∀ i, w3.frozen? ⟨w.heap.size, i, none⟩ = false := fun i => by simp [World.frozen?, show w3.heap[w.heap.size]? = _ from q2]
    subst hw3
    go_wp2_with fail
    have hf4 := rfin4 hgg q2 hR3 hrd (.int .i64 0) (.int .i64 0) (.string ⟨#[]⟩) (.slice none 0 0)
    obtain ⟨k0, k1, k2, k3, k4, k5⟩ := hf4
    refine bodyPost_ret (v := .agg #[.int .i64 0, .int .i64 0, .string ⟨#[]⟩, .slice none 0 0]) ?_ rfl ?_
    · unfold set4 at k2 k3 k4 k5
      simp [results, Try.results36, go_sem, k2, k3, k4, k5]
    · exact ⟨⟨_, _, _, _, _, _, rfl⟩, ⟨_, k0⟩, k1⟩
  | some x =>
    obtain ⟨u, l1⟩ := x
    rw [hO] at hq
    obtain ⟨rfl, ⟨q, hl1, hR2⟩, hg2⟩ := hq
    simp only at hl1
    have hu := pn_lt hO
    have HO := Lib.hid hO
    have qq := q1.grown hg2 (by omega)
    have hg3 := grown_trans (grown_trans hg0 hg1) hg2
    obtain ⟨d0, d1, d2⟩ := hR2.cells
    have hql := hR2.2.2.1
    have hcl := hR2.2.2.2.1
    have hcm := hR2.2.2.2.2
    have hll : l1.length = L.length - q := by rw [hl1, List.length_drop]
    have hu64 : (u : Int) < 18446744073709551616 := by omega
    clear hO q0 q1 hg0 hg1 hg2 HN
    have e1 : IntKind.i64.wrap ((L.length : Int) - (q : Int)) = ((L.length - q : Nat) : Int) := (IntWalk.i64_in _ (by omega)).trans (by omega)
    have e2 : IntKind.u64.wrap ((L.length - q : Nat) : Int) = ((L.length - q : Nat) : Int) := by rw [IntKind.wrap_u64]; omega
    by_cases hbd : l1.length < u
    · have HBD := Lib.hid hbd
      have hdc : L.length - q < u := by omega
      generalize hM : L.length - q = M at *
      clear hM hu hbd
      go_wp2_with fail
      go_quiet (fail)
      generalize hwn : w2.drewN _ = wn
      have hRn : RR h wn A c L q false := hR2.keep fun k _ => by rw [← hwn]; rfl
      have hgn : w.grownBy wn (some h) := by rw [← hwn]; exact grown_trans hg3 ⟨rfl, rfl, rfl, Nat.le_refl _, fun _ _ _ => rfl⟩
      have qn : Box wn w.heap.size _ _ := (show wn.heap[w.heap.size]? = _ by rw [← hwn]; exact qq)
      clear hwn d0 d1 d2 qq hg3 hR2 e1 e2 hll hl1 hql hcl hcm hu64
      have q2 := qn.grown (set_grown_at wn h 2 (.bool true)) (by omega)
      have hgg := grown_trans hgn (set_grown_at wn h 2 (.bool true))
      have hR3 := hRn.bad
      have d2 := hRn.cells.2.2
      have f3 := hRn.frozen 2
      have hlt1 := hRn.lt
      generalize hw3 : wn.setCell ⟨h, 2, none⟩ (.bool true) = w3 at *
      have c20 : w3.cell? ⟨w.heap.size, 0, none⟩ = some (.int .i64 0) := q2.cell 0
      have c21 : w3.cell? ⟨w.heap.size, 1, none⟩ = some (.int .i64 0) := q2.cell 1
      have c22 : w3.cell? ⟨w.heap.size, 2, none⟩ = some (.string ⟨#[]⟩) := q2.cell 2
      have c23 : w3.cell? ⟨w.heap.size, 3, none⟩ = some (.slice none 0 0) := q2.cell 3
      have f2 : ∀ i, w3.frozen? ⟨w.heap.size, i, none⟩ = false := fun i => by simp [World.frozen?, show w3.heap[w.heap.size]? = _ from q2]
      subst hw3
      go_wp2_with fail
      have hf4 := rfin4 hgg q2 hR3 hrd (.int .i64 0) (.int .i64 0) (.string ⟨#[]⟩) (.slice none 0 0)
      obtain ⟨k0, k1, k2, k3, k4, k5⟩ := hf4
      refine bodyPost_ret (v := .agg #[.int .i64 0, .int .i64 0, .string ⟨#[]⟩, .slice none 0 0]) ?_ rfl ?_
      · unfold set4 at k2 k3 k4 k5
        simp [results, Try.results36, go_sem, k2, k3, k4, k5]
      · exact ⟨⟨_, _, _, _, _, _, rfl⟩, ⟨_, k0⟩, k1⟩
    · have hdc : ¬ (L.length - q < u) := by omega
      obtain rfl : dp = 16 := (hgood u l1 HO.out).resolve_left hbd
      generalize hM : L.length - q = M at *
      clear hM hu hbd
      go_wp2_with fail
      go_quiet (fail)
      generalize hwn : w2.drewN _ = wn
      have hRn : RR h wn A c L q false := hR2.keep fun k _ => by rw [← hwn]; rfl
      have hgn : w.grownBy wn (some h) := by rw [← hwn]; exact grown_trans hg3 ⟨rfl, rfl, rfl, Nat.le_refl _, fun _ _ _ => rfl⟩
      have qn : Box wn w.heap.size _ _ := (show wn.heap[w.heap.size]? = _ by rw [← hwn]; exact qq)
      clear hwn d0 d1 d2 qq hg3 hR2 e1 e2 hll hl1 hql hcl hcm hu64
      have q2 := qn.grown (set_grown_at wn h 2 (.bool true)) (by omega)
      have hgg := grown_trans hgn (set_grown_at wn h 2 (.bool true))
      have hR3 := hRn.bad
      have d2 := hRn.cells.2.2
      have f3 := hRn.frozen 2
      have hlt1 := hRn.lt
      generalize hw3 : wn.setCell ⟨h, 2, none⟩ (.bool true) = w3 at *
      have c20 : w3.cell? ⟨w.heap.size, 0, none⟩ = some (.int .i64 0) := q2.cell 0
      have c21 : w3.cell? ⟨w.heap.size, 1, none⟩ = some (.int .i64 0) := q2.cell 1
      have c22 : w3.cell? ⟨w.heap.size, 2, none⟩ = some (.string ⟨#[]⟩) := q2.cell 2
      have c23 : w3.cell? ⟨w.heap.size, 3, none⟩ = some (.slice none 0 0) := q2.cell 3
      have f2 : ∀ i, w3.frozen? ⟨w.heap.size, i, none⟩ = false := fun i => by simp [World.frozen?, show w3.heap[w.heap.size]? = _ from q2]
      subst hw3
      go_wp2_with fail
      have hf4 := rfin4 hgg q2 hR3 hrd (.int .i64 0) (.int .i64 0) (.string ⟨#[]⟩) (.slice none 0 0)
      obtain ⟨k0, k1, k2, k3, k4, k5⟩ := hf4
      refine bodyPost_ret (v := .agg #[.int .i64 0, .int .i64 0, .string ⟨#[]⟩, .slice none 0 0]) ?_ rfl ?_
      · unfold set4 at k2 k3 k4 k5
        simp [results, Try.results36, go_sem, k2, k3, k4, k5]
      · exact ⟨⟨_, _, _, _, _, _, rfl⟩, ⟨_, k0⟩, k1⟩

end Go.Proofs.Ytkihimafeonibaa
