/- The reference's reader: texts that fit. -/
import Derived.Test.YtkihimafeonibaaRRVal3
import Derived.StillTailTactics
namespace Go.Proofs.Ytkihimafeonibaa
open Go.RowKit
set_option linter.unusedVariables false

set_option maxHeartbeats 1000000 in
set_option maxRecDepth 100000 in
theorem rv_text_good (h : Nat) (A : Option Addr) (c : Nat) (L : List UInt8) (p : Nat) (dp : Int) (d : UInt8) (w : World) (hR : RR h w A c L p false) (hd : L[p]? = some d) (hd1 : d.toNat = 2) (hL : L.length ≤ 1000000) (u : Nat) (l1 : List UInt8) (hO : pn 0 0 (L.drop (p + 1)) = some (u, l1)) (hbd : ¬ l1.length < u) :
    Calls Try.prog 36 #[.pointer (some ⟨h, 0, none⟩), .int .i64 dp] w (RVPost h A c L w (ptext (pn 0 0 (L.drop (p + 1))))) := by
  have hrd := hR.lt
  have hpl : p < L.length := (List.getElem?_eq_some_iff.1 hd).1
  have hR0 : RR h (w.alloc (.cells zeroV 24)) A c L p false := hR.keep fun k hk => ((Below.refl w.heap.size w).alloc (Nat.le_refl _) _).block k (by omega)
  have hg0 := World.grownBy_alloc w (.cells zeroV 24) (some h)
  have q0 := Box.new w zeroV 24
  unfold zeroV at *
  have HC := Lib.hid (rnext_good h A c L p false d _ hR0 hd)
  have hbi : bv d = .int .u8 2 := by unfold bv; rw [hd1]; rfl
  have HBI := Lib.hid hbi
  clear hR0 hd hd1 hbi hR
  go_enter Try.func36, Try.ntmps36
  go_wp2_with fail
  refine HC.out.mono ?_
  rintro e w1 ⟨rfl, hR1, hg1⟩
  have q1 := q0.grown hg1 (by omega)
  have HN := Lib.hid (rrnum_any h A c L (p + 1) w1 hR1)
  clear HC hR1
  rw [HBI.out]
  go_wp2_with fail
  refine HN.out.mono ?_
  intro e w2 hq
  rw [hO] at hq
  obtain ⟨rfl, ⟨q, hl1, hR2⟩, hg2⟩ := hq
  simp only at hl1
  have hu := pn_lt hO
  have HO := Lib.hid hO
  have qq := q1.grown hg2 (by omega)
  have hg3 := grown_trans (grown_trans hg0 hg1) hg2
  obtain ⟨d0, d1, d2⟩ := hR2.cells
  have hql := hR2.2.2.1
  have hcl := hR2.2.2.2.1
  have hcm := hR2.2.2.2.2
  have hll : l1.length = L.length - q := by rw [hl1, List.length_drop]
  have hu64 : (u : Int) < 18446744073709551616 := by omega
  clear hO q0 q1 hg0 hg1 hg2 HN
  have e1 : IntKind.i64.wrap ((L.length : Int) - (q : Int)) = ((L.length - q : Nat) : Int) := (IntWalk.i64_in _ (by omega)).trans (by omega)
  have e2 : IntKind.u64.wrap ((L.length - q : Nat) : Int) = ((L.length - q : Nat) : Int) := by rw [IntKind.wrap_u64]; omega
  have hdc : ¬ L.length - q < u := by omega
  have hHB := hR2.2.1
  have hL0 : 0 < L.length := by omega
  obtain ⟨bb, off, rfl, hbh, hcell⟩ := hHB hL0
  have hB2 := (hR2.2.1.drop (n := q)).take (n := u)
  have htl : ((L.drop q).take u).length = u := by rw [List.length_take, List.length_drop]; omega
  have hu1 : u ≤ L.length - q := by omega
  have HTL := Lib.hid htl
  have HLL := Lib.hid hl1
  have HNB := Lib.hid hbd
  generalize hM : L.length - q = M at *
  go_wp2_with fail
  go_quiet (fail)
  generalize hwn : w2.drewN _ = wn
  have hRn : RR h wn (some ⟨bb, off, none⟩) c L q false := hR2.keep fun k _ => by rw [← hwn]; rfl
  have hgn : w.grownBy wn (some h) := by rw [← hwn]; exact grown_trans hg3 ⟨rfl, rfl, rfl, Nat.le_refl _, fun _ _ _ => rfl⟩
  have qn : Box wn w.heap.size _ _ := (show wn.heap[w.heap.size]? = _ by rw [← hwn]; exact qq)
  clear hwn d0 d1 d2 qq hg3 hR2 e1 e2 hll hl1 hHB hcell hbd hB2 htl
  obtain ⟨d0, d1, d2⟩ := hRn.cells
  have f3 := hRn.frozen 1
  have hlt1 := hRn.lt
  have w1e : IntKind.i64.wrap (u : Int) = (u : Int) := IntWalk.i64_in _ (by omega)
  go_wp2_with fail
  have ec : (q : Int) + (u : Int) = ((q + u : Nat) : Int) := by omega
  rw [ec]
  have hR3 := (hRn.move (q + u) (by omega)).drew
  have q2 := (qn.grown (set_grown_at wn h 1 (.int .i64 ((q + u : Nat) : Int))) (by omega)).grown (grown_drew _ (some h)) (by omega)
  have hgg := grown_trans (grown_trans hgn (set_grown_at wn h 1 (.int .i64 ((q + u : Nat) : Int)))) (grown_drew _ (some h))
  generalize hw3 : (wn.setCell ⟨h, 1, none⟩ (.int .i64 ((q + u : Nat) : Int))) = w3 at *
  clear hw3 ec hRn qn hgn d0 d1 d2 f3 hlt1
  obtain ⟨d0, d1, d2⟩ := hR3.cells
  have c20 : w3.drew.cell? ⟨w.heap.size, 0, none⟩ = some (.int .i64 0) := q2.cell 0
  have c21 : w3.drew.cell? ⟨w.heap.size, 1, none⟩ = some (.int .i64 0) := q2.cell 1
  have c22 : w3.drew.cell? ⟨w.heap.size, 2, none⟩ = some (.string ⟨#[]⟩) := q2.cell 2
  have c23 : w3.drew.cell? ⟨w.heap.size, 3, none⟩ = some (.slice none 0 0) := q2.cell 3
  have f2 : ∀ i, w3.drew.frozen? ⟨w.heap.size, i, none⟩ = false := fun i => by simp [World.frozen?, show w3.drew.heap[w.heap.size]? = _ from q2]
  have hBB := (hR3.2.1.drop (n := q)).take (n := u)
  have hcv : (convert 27 9 (.slice (if c = q then some ⟨bb, off, none⟩ else some ⟨bb, off + q, none⟩) u (c - q))).run Try.prog w3.drew = .ok (.string ⟨((L.drop q).take u).toArray⟩) w3.drew := by
    have h0 := HTL.out
    by_cases hcq : c = q
    · rw [if_pos hcq]
      have hu0 : u = 0 := by omega
      have hE : (L.drop q).take u = [] := List.length_eq_zero_iff.1 (by omega)
      rw [hE, hu0]
      exact conv_bs _ (Bs.none_ (h := 0))
    · rw [if_neg hcq]
      have := conv_bs (c - q) hBB
      rw [h0] at this
      rw [show (some ⟨bb, off + q, none⟩ : Option Addr) = Option.map (fun x : Addr => x.add q) (some ⟨bb, off, none⟩) from by simp [add_off]]
      exact this
  have HLE : Hid (((L.drop q).take u).length ≤ maxLen) := Lib.hid (by rw [List.length_take, List.length_drop]; omega)
  have hcm2 := hcm
  unfold maxLen at hcm
  generalize hSS : (⟨((L.drop q).take u).toArray⟩ : ByteArray) = SS at *
  generalize hLm : L.length = m at *
  have hqm : q + u ≤ m := by omega
  generalize hQ : q + u = Q at *
  have j1 : IntKind.i64.wrap ((Q : Int) - (u : Int)) = (q : Int) := (IntWalk.i64_in _ (by omega)).trans (by omega)
  have j2 : (0 : Int) ≤ (q : Int) := by omega
  have j3 : (q : Int) ≤ (Q : Int) := by omega
  have j4 : (Q : Int) ≤ (c : Int) := by omega
  have j5 : Q - q = u := by omega
  have j6 : (Q : Int) ≤ (m : Int) := by omega
  have HQ := Lib.hid hQ
  have HSS := Lib.hid hSS
  clear hQ hqm hM hu1 hdc hLm hSS hcm2 hql hcl hu hL hL0 hpl hBB
  rw [← j5] at hcv
  clear j5
  have hw4 : ({ w3 with drawn := w3.drawn + 1 } : World) = w3.drew := rfl
  refine wp_region_still_tail 18 (by kernel_rfl) (by kernel_rfl) ?_
  simp only [List.take_succ_cons, List.take_zero, List.drop_succ_cons, List.drop_zero]
  rw [hw4]
  clear hw4
  generalize w3.drew = w4 at *
  repeat still_step
  refine wpStill_nil ?_
  clear hcv j1 j2 j3 j4 j6 d0 d1 d2 w1e hcm hu64
  go_wp2_with fail
  all_goals
    try (have hcq := Eq.symm h; subst hcq)
    have hf4 := rfin4 hgg q2 hR3 hrd (.int .i64 2) (.int .i64 0) (.string SS) (.slice none 0 0)
    obtain ⟨k0, k1, k2, k3, k4, k5⟩ := hf4
    refine bodyPost_ret (v := .agg #[.int .i64 2, .int .i64 0, .string SS, .slice none 0 0]) ?_ rfl ?_
    · unfold set4 at k2 k3 k4 k5
      simp [results, Try.results36, go_sem, k2, k3, k4, k5]
    · unfold RVPost
      rw [HO.out]
      have hp : ptext (some (u, l1)) = some (tText ((L.drop q).take u), (L.drop q).drop u) := by
        simp only [ptext]
        rw [if_neg HNB.out, HLL.out]
      rw [hp]
      exact ⟨_, rfl, by rw [← HSS.out]; exact RdQ.text _ _ _ HLE.out, ⟨Q, by show List.drop u (List.drop q L) = _; rw [List.drop_drop, HQ.out], k0⟩, k1⟩
end Go.Proofs.Ytkihimafeonibaa
