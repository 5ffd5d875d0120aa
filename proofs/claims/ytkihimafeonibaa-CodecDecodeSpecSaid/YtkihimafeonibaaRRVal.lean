/- The reference's reader: values that are no lists. -/
import Derived.Test.YtkihimafeonibaaRRNum
import Derived.Test.YtkihimafeonibaaReadV
import Derived.Test.YtkihimafeonibaaPlain2
namespace Go.Proofs.Ytkihimafeonibaa
open Go.RowKit
set_option linter.unusedVariables false

/-- What the reference's Value does. -/
def RVPost (h : Nat) (A : Option Addr) (c : Nat) (L : List UInt8) (w : World) (o : Option (T × List UInt8)) (e : Ending) (w' : World) : Prop :=
  match o with
  | none => (∃ k n s a m cc, e = .returned (.agg #[.int .i64 k, .int .i64 n, .string s, .slice a m cc])) ∧ (∃ q, RR h w' A c L q true) ∧ w.grownBy w' (some h)
  | some x => ∃ v, e = .returned v ∧ RdQ (w.heap.size ≤ ·) w' x.1 v ∧ (∃ q, x.2 = L.drop q ∧ RR h w' A c L q false) ∧ w.grownBy w' (some h)

/-- The end of Value: its result has been stored. -/
theorem rfin4 {h : Nat} {A : Option Addr} {cp : Nat} {L : List UInt8} {p : Nat} {bd : Bool} {w w2 : World} {t : TypeId} {z0 z1 z2 z3 : Value} (hgg : w.grownBy w2 (some h)) (q2 : Box w2 w.heap.size #[z0, z1, z2, z3] t) (hR2 : RR h w2 A cp L p bd) (hrd : h < w.heap.size) (a b c d : Value) :
    RR h (set4 w2 w.heap.size a b c d) A cp L p bd ∧ w.grownBy (set4 w2 w.heap.size a b c d) (some h) ∧
    (set4 w2 w.heap.size a b c d).cell? ⟨w.heap.size, 0, none⟩ = some a ∧ (set4 w2 w.heap.size a b c d).cell? ⟨w.heap.size, 1, none⟩ = some b ∧
    (set4 w2 w.heap.size a b c d).cell? ⟨w.heap.size, 2, none⟩ = some c ∧ (set4 w2 w.heap.size a b c d).cell? ⟨w.heap.size, 3, none⟩ = some d := by
  have hb := set4_box q2 a b c d
  exact ⟨hR2.keep fun k hk => set4_other _ _ _ _ _ _ k (by omega), grown_own hgg (set4_grown _ _ _ _ _ _) (fun i hi => by injection hi with hi; omega), hb.cell 0, hb.cell 1, hb.cell 2, hb.cell 3⟩

set_option maxHeartbeats 400000 in
set_option maxRecDepth 100000 in
theorem rv_int (h : Nat) (A : Option Addr) (c : Nat) (L : List UInt8) (p : Nat) (dp : Int) (d : UInt8) (w : World) (hR : RR h w A c L p false) (hd : L[p]? = some d) (hd1 : d.toNat = 1) :
    Calls Try.prog 36 #[.pointer (some ⟨h, 0, none⟩), .int .i64 dp] w (RVPost h A c L w (pint (pn 0 0 (L.drop (p + 1))))) := by
  have hrd := hR.lt
  have hR0 : RR h (w.alloc (.cells zeroV 24)) A c L p false := hR.keep fun k hk => ((Below.refl w.heap.size w).alloc (Nat.le_refl _) _).block k (by omega)
  have hg0 := World.grownBy_alloc w (.cells zeroV 24) (some h)
  have q0 := Box.new w zeroV 24
  unfold zeroV at *
  have HC := Lib.hid (rnext_good h A c L p false d _ hR0 hd)
  have hbi : bv d = .int .u8 1 := by unfold bv; rw [hd1]; rfl
  have HBI := Lib.hid hbi
  clear hR0 hd hd1 hbi hR
  go_enter Try.func36, Try.ntmps36
  go_wp2_with fail
  refine HC.out.mono ?_
  rintro e w1 ⟨rfl, hR1, hg1⟩
  have q1 := q0.grown hg1 (by omega)
  have HN := Lib.hid (rrnum_any h A c L (p + 1) w1 hR1)
  clear HC hR1
  rw [HBI.out]
  go_wp2_with fail
  refine HN.out.mono ?_
  intro e w2 hq
  cases hO : pn 0 0 (L.drop (p + 1)) with
  | none =>
    rw [hO] at hq
    obtain ⟨rfl, ⟨q, hR2⟩, hg2⟩ := hq
    have q2 := q1.grown hg2 (by omega)
    have c20 : w2.cell? ⟨w.heap.size, 0, none⟩ = some (.int .i64 0) := q2.cell 0
    have c21 : w2.cell? ⟨w.heap.size, 1, none⟩ = some (.int .i64 0) := q2.cell 1
    have c22 : w2.cell? ⟨w.heap.size, 2, none⟩ = some (.string ⟨#[]⟩) := q2.cell 2
    have c23 : w2.cell? ⟨w.heap.size, 3, none⟩ = some (.slice none 0 0) := q2.cell 3
    have f2 : ∀ i, w2.frozen? ⟨w.heap.size, i, none⟩ = false := fun i => by simp [World.frozen?, show w2.heap[w.heap.size]? = _ from q2]
    have hgg := grown_trans (grown_trans hg0 hg1) hg2
    have HO := Lib.hid hO
    clear hO q0 q1 hg0 hg1 hg2 HN
    go_wp2_with fail
    have hf4 := rfin4 hgg q2 hR2 hrd (.int .i64 1) (.int .i64 0) (.string ⟨#[]⟩) (.slice none 0 0)
    obtain ⟨k0, k1, k2, k3, k4, k5⟩ := hf4
    refine bodyPost_ret (v := .agg #[.int .i64 1, .int .i64 0, .string ⟨#[]⟩, .slice none 0 0]) ?_ rfl ?_
    · unfold set4 at k2 k3 k4 k5
      simp [results, Try.results36, go_sem, k2, k3, k4, k5]
    · unfold RVPost
      rw [HO.out]
      exact ⟨⟨_, _, _, _, _, _, rfl⟩, ⟨_, k0⟩, k1⟩
  | some x =>
    obtain ⟨u, l1⟩ := x
    rw [hO] at hq
    obtain ⟨rfl, ⟨q, hl1, hR2⟩, hg2⟩ := hq
    simp only at hl1
    have hu := pn_lt hO
    have q2 := q1.grown hg2 (by omega)
    have c20 : w2.cell? ⟨w.heap.size, 0, none⟩ = some (.int .i64 0) := q2.cell 0
    have c21 : w2.cell? ⟨w.heap.size, 1, none⟩ = some (.int .i64 0) := q2.cell 1
    have c22 : w2.cell? ⟨w.heap.size, 2, none⟩ = some (.string ⟨#[]⟩) := q2.cell 2
    have c23 : w2.cell? ⟨w.heap.size, 3, none⟩ = some (.slice none 0 0) := q2.cell 3
    have f2 : ∀ i, w2.frozen? ⟨w.heap.size, i, none⟩ = false := fun i => by simp [World.frozen?, show w2.heap[w.heap.size]? = _ from q2]
    have hgg := grown_trans (grown_trans hg0 hg1) hg2
    have HFIT := Lib.hid (sgn_fit hu.1)
    have hu64 : (u : Int) < 18446744073709551616 := by omega
    have HLL := Lib.hid hl1
    have HO := Lib.hid hO
    clear hO hu q0 q1 hg0 hg1 hg2 HN hl1
    by_cases ho : u % 2 = 1
    · have hs : sgn u = -((u : Int) / 2) - 1 := by unfold sgn; rw [if_neg (by omega)]; omega
      have HSG := Lib.hid hs
      have t1 : (((u : Int) % 2) == 1) = true := by simp; omega
      have hh2 : (u : Int) / 2 ≤ 9223372036854775807 := by omega
      have e1 : ((u / 2 : Nat) : Int) = (u : Int) / 2 := by omega
      clear hs ho
      go_wp2_with fail
      have hf4 := rfin4 hgg q2 hR2 hrd (.int .i64 1) (.int .i64 (-((u : Int) / 2) - 1)) (.string ⟨#[]⟩) (.slice none 0 0)
      obtain ⟨k0, k1, k2, k3, k4, k5⟩ := hf4
      refine bodyPost_ret (v := .agg #[.int .i64 1, .int .i64 (-((u : Int) / 2) - 1), .string ⟨#[]⟩, .slice none 0 0]) ?_ rfl ?_
      · unfold set4 at k2 k3 k4 k5
        simp [results, Try.results36, go_sem, k2, k3, k4, k5]
      · unfold RVPost
        rw [HO.out]
        exact ⟨_, rfl, by rw [← HSG.out]; exact RdQ.int _ _ _ HFIT.out, ⟨_, HLL.out, k0⟩, k1⟩
    · have hs : sgn u = (u : Int) / 2 := by unfold sgn; rw [if_pos (by omega)]; omega
      have HSG := Lib.hid hs
      have t1 : (((u : Int) % 2) == 1) = false := by simp; omega
      have hh2 : (u : Int) / 2 ≤ 9223372036854775807 := by omega
      clear hs ho
      go_wp2_with fail
      have hf4 := rfin4 hgg q2 hR2 hrd (.int .i64 1) (.int .i64 ((u : Int) / 2)) (.string ⟨#[]⟩) (.slice none 0 0)
      obtain ⟨k0, k1, k2, k3, k4, k5⟩ := hf4
      refine bodyPost_ret (v := .agg #[.int .i64 1, .int .i64 ((u : Int) / 2), .string ⟨#[]⟩, .slice none 0 0]) ?_ rfl ?_
      · unfold set4 at k2 k3 k4 k5
        simp [results, Try.results36, go_sem, k2, k3, k4, k5]
      · unfold RVPost
        rw [HO.out]
        exact ⟨_, rfl, by rw [← HSG.out]; exact RdQ.int _ _ _ HFIT.out, ⟨_, HLL.out, k0⟩, k1⟩
end Go.Proofs.Ytkihimafeonibaa
