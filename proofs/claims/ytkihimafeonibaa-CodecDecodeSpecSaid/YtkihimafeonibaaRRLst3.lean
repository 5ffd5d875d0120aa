/- The reference's reader: lists. -/
import Derived.Test.YtkihimafeonibaaRRLst2
import Derived.Deep.RegionHeld3
import Derived.Deep.RegionLaw
import Derived.StillTailTactics
namespace Go.Proofs.Ytkihimafeonibaa
open Go.RowKit
set_option linter.unusedVariables false

set_option maxHeartbeats 1000000 in
set_option maxRecDepth 100000 in
theorem rv_list_good (h : Nat) (A : Option Addr) (c : Nat) (L : List UInt8) (p : Nat) (dp : Int) (d : UInt8) (w : World) (hR : RR h w A c L p false) (hd : L[p]? = some d) (hd1 : d.toNat = 3) (hL : L.length ≤ 1000000) (u : Nat) (l1 : List UInt8) (hO : pn 0 0 (L.drop (p + 1)) = some (u, l1)) (hbd : ¬ l1.length < u) (hdp0 : 0 ≤ dp) (hdp : dp < 16) (P : List UInt8 → Option (T × List UInt8)) (hP : ∀ l t r, P l = some (t, r) → r.length < l.length)
    (hV : ∀ (q : Nat) (w : World), RR h w A c L q false → Calls Try.prog 36 #[.pointer (some ⟨h, 0, none⟩), .int .i64 (dp + 1)] w (RVPost h A c L w (P (L.drop q)))) :
    Calls Try.prog 36 #[.pointer (some ⟨h, 0, none⟩), .int .i64 dp] w (RVPost h A c L w (tlist (ploop P u l1))) := by
  have hrd := hR.lt
  have hpl : p < L.length := (List.getElem?_eq_some_iff.1 hd).1
  have hR0 : RR h (w.alloc (.cells zeroV 24)) A c L p false := hR.keep fun k hk => ((Below.refl w.heap.size w).alloc (Nat.le_refl _) _).block k (by omega)
  have hg0 := World.grownBy_alloc w (.cells zeroV 24) (some h)
  have q0 := Box.new w zeroV 24
  unfold zeroV at *
  have HC := Lib.hid (rnext_good h A c L p false d _ hR0 hd)
  have hbi : bv d = .int .u8 3 := by unfold bv; rw [hd1]; rfl
  have HBI := Lib.hid hbi
  generalize hOO : ploop P u l1 = OO
  have HOO := Lib.hid hOO
  clear hR0 hd hd1 hbi hR hOO
  go_enter Try.func36, Try.ntmps36
  go_wp2_with fail
  refine HC.out.mono ?_
  rintro e w1 ⟨rfl, hR1, hg1⟩
  have q1 := q0.grown hg1 (by omega)
  have HN := Lib.hid (rrnum_any h A c L (p + 1) w1 hR1)
  clear HC hR1
  rw [HBI.out]
  go_wp2_with fail
  refine HN.out.mono ?_
  intro e w2 hq
  rw [hO] at hq
  obtain ⟨rfl, ⟨q, hl1, hR2⟩, hg2⟩ := hq
  simp only at hl1
  have hu := pn_lt hO
  have HO := Lib.hid hO
  have qq := q1.grown hg2 (by omega)
  have hg3 := grown_trans (grown_trans hg0 hg1) hg2
  obtain ⟨d0, d1, d2⟩ := hR2.cells
  have hql := hR2.2.2.1
  have hcl := hR2.2.2.2.1
  have hcm := hR2.2.2.2.2
  have hll : l1.length = L.length - q := by rw [hl1, List.length_drop]
  have hu64 : (u : Int) < 18446744073709551616 := by omega
  clear hO q0 q1 hg0 hg1 hg2 HN
  have e1 : IntKind.i64.wrap ((L.length : Int) - (q : Int)) = ((L.length - q : Nat) : Int) := (IntWalk.i64_in _ (by omega)).trans (by omega)
  have e2 : IntKind.u64.wrap ((L.length - q : Nat) : Int) = ((L.length - q : Nat) : Int) := by rw [IntKind.wrap_u64]; omega
  have hdc : ¬ L.length - q < u := by omega
  have t16 : (dp == 16) = false := by simp; omega
  have HV := Lib.hid hV
  have HP := Lib.hid hP
  clear hV hP
  have HLL := Lib.hid hl1
  have HNB := Lib.hid hbd
  generalize hM : L.length - q = M at *
  go_wp2_with fail
  go_quiet (fail)
  generalize hwn : w2.drewN _ = wn
  have hRn : RR h wn A c L q false := hR2.keep fun k _ => by rw [← hwn]; rfl
  have hgn : w.grownBy wn (some h) := by rw [← hwn]; exact grown_trans hg3 ⟨rfl, rfl, rfl, Nat.le_refl _, fun _ _ _ => rfl⟩
  have qn : Box wn w.heap.size _ _ := (show wn.heap[w.heap.size]? = _ by rw [← hwn]; exact qq)
  clear hwn d0 d1 d2 qq hg3 hR2 e1 e2 hll hl1
  have hI0 : LInv h A c L w P u OO wn.heap.size 0 (.slice none 0 0) (wn.alloc (.cells #[.int .i64 3, .int .i64 0, .string ⟨#[]⟩, .slice none 0 0] 24)) q [] false := by
    refine ⟨Box.new wn _ _, qn.alloc _, World.ownsRow_nil _ _ _ _, hRn.keep fun k hk => ((Below.refl wn.heap.size wn).alloc (Nat.le_refl _) _).block k (by have := hRn.lt; omega), grown_trans hgn (World.grownBy_alloc _ _ _), [], rfl, fun i t ht => by simp at ht, ?_⟩
    rw [← HOO.out, HLL.out]
    simp only [Nat.sub_zero, List.nil_append]
    cases ploop P u (List.drop q L) <;> rfl
  have hwG := qn.lt
  have hul : u ≤ 1000000 := by omega
  have HI0 := Lib.hid hI0
  clear hI0 hRn hgn qn
  generalize hG : wn.heap.size = G at *
  obtain ⟨i0, hi0, hz0, hz1, hz2⟩ := info_parts val_info
  have HU64 := Lib.hid hu64
  clear hu hu64 hcm hcl hql hpl HLL HNB HBI HO hdc hM hbd
  go_wp2_with fail
  go_loopw [9] (fun i wr => ∃ (j : Nat) (B : Option Addr) (k : Nat) (q : Nat) (xs : List Value) (bad : Bool), i = .int .u64 j ∧ j ≤ u ∧ LInv h A c L w P u OO G j (.slice B j k) wr q xs bad) (fun i _ => u - (intOf i).toNat)
  case atStart => exact ⟨0, none, 0, q, [], false, rfl, Nat.zero_le _, HI0.out⟩
  case round =>
    clear HI0 hG
    obtain ⟨j, B, k, q, xs, bad, rfl, hj, hI⟩ := hrel
    have hc2 := hI.2.2.2.1.cells.2.2
    have hlt := hI.2.2.2.1.lt
    by_cases hju : j < u
    · cases bad with
      | true =>
        have hz := hI.2.1
        have hbx := hI.1
        have hR := hI.2.2.2.1
        have hgg := hI.2.2.2.2.1
        have HI := Lib.hid hI
        clear hI HV HP
        have e0 : wr.cell? ⟨G, 0, none⟩ = some (.int .i64 3) := hbx.cell 0
        have e1 : wr.cell? ⟨G, 1, none⟩ = some (.int .i64 0) := hbx.cell 1
        have e2 : wr.cell? ⟨G, 2, none⟩ = some (.string ⟨#[]⟩) := hbx.cell 2
        have e3 : wr.cell? ⟨G, 3, none⟩ = some (.slice B j k) := hbx.cell 3
        have c20 : wr.cell? ⟨w.heap.size, 0, none⟩ = some (.int .i64 0) := hz.cell 0
        have c21 : wr.cell? ⟨w.heap.size, 1, none⟩ = some (.int .i64 0) := hz.cell 1
        have c22 : wr.cell? ⟨w.heap.size, 2, none⟩ = some (.string ⟨#[]⟩) := hz.cell 2
        have c23 : wr.cell? ⟨w.heap.size, 3, none⟩ = some (.slice none 0 0) := hz.cell 3
        have f2 : ∀ i, wr.frozen? ⟨w.heap.size, i, none⟩ = false := fun i => by simp [World.frozen?, show wr.heap[w.heap.size]? = _ from hz]
        go_wp2_with fail
        have hf4 := rfin4 hgg hz hR hrd (.int .i64 3) (.int .i64 0) (.string ⟨#[]⟩) (.slice B j k)
        obtain ⟨k0, k1, k2, k3, k4, k5⟩ := hf4
        refine bodyPost_ret (v := .agg #[.int .i64 3, .int .i64 0, .string ⟨#[]⟩, .slice B j k]) ?_ rfl ?_
        · unfold set4 at k2 k3 k4 k5
          simp [results, Try.results36, go_sem, k2, k3, k4, k5]
        · have hx : OO = none := HI.out.2.2.2.2.2
          rw [hx]
          exact ⟨⟨_, _, _, _, _, _, rfl⟩, ⟨_, k0⟩, k1⟩
      | false =>
        have hId := hI.drew
        have HVC := Lib.hid ((HV.out q wr.drew hId.2.2.2.1).mono fun _ _ hp => hp.any)
        have c3 : wr.drew.cell? ⟨G, 3, none⟩ = some (.slice B j k) := hId.1.cell 3
        have hGlt := hId.1.lt
        have hown := hId.2.2.1
        have hol := hown.lt
        have HNE : Hid (∀ v : Value, v = .slice B j k → some G ≠ v.ownBlock) := Lib.hid (fun v hv e => by subst hv; have := hol G e.symm; omega)
        have HI := Lib.hid hId
        have j1 : IntKind.i64.wrap (dp + 1) = dp + 1 := IntWalk.i64_in _ (by omega)
        have h63 : j + 1 ≤ maxLen := le_maxLen (by omega)
        have h47 : (j + 1) * 56 ≤ 140737488355328 := by omega
        clear hI hId HV
        go_wp2_with fail
        go_region_law
          (first
            | ((refine step_append_lies _ (by rfl) _ _ 22 (by rfl) (G + 1) 24 i0 _ 4 56 Try.underlying22 hi0 hz0 hz1 hz2 rfl (by decide) _ j xs (by rfl) ho2 ⟨w3.heap.size, 0, none⟩ 1 1 [.int .i64 k1, .int .i64 n1, .string s1, .slice a1 m1 c1] (by rfl) (by rfl) HNW.out HONE.out (by decide) h63 h47 hbase (w3.heap.size + 1) (by simp) ?_); intro g4 k4 w4 ho4 hg4 hat hlt4; have f3 : w4.cell? ⟨G, 3, none⟩ = some (.slice B j k) := hg4.cell e3 (HNE.out (.slice B j k) rfl); have fz : w4.frozen? ⟨G, 3, none⟩ = false := (hg4.frozen_far ⟨G, 3, none⟩ hbase (HNE.out (.slice B j k) rfl)).trans z3)
            | (go_simp; go_at_call 36; (with_reducible refine HVC.out.mono ?_); rintro e w3 ⟨k1, n1, s1, a1, m1, c1, rfl, hg3, ht⟩; obtain ⟨d3, e3, z3, ho2, hnw, hone, hbase⟩ := HI.out.called (k1 := k1) (n1 := n1) (s1 := s1) (a1 := a1) (m1 := m1) (c1 := c1) hrd hwG hg3; have HNW := Lib.hid hnw; clear hnw; have HONE := Lib.hid hone; clear hone)
            | fail)
        all_goals
          have hst := HI.out.step hju hrd hwG hg3 ht ho4 hg4 hat
          obtain ⟨q', bad', hS⟩ := hst
          have HS := Lib.hid hS
          clear hS c3 d3 e3 z3 f3 fz hg3 hg4 ho4 ho2 hat hown hol HNE HNW HONE ht hbase HI HVC
          go_wp2_with fail
          go_roundw
          case rel => exact ⟨j + 1, _, k4, q', _, bad', by go_num, by omega, HS.out⟩
          case measure => simp [intOf]; omega
    · cases bad with
      | true =>
        have hz := hI.2.1
        have hbx := hI.1
        have hR := hI.2.2.2.1
        have hgg := hI.2.2.2.2.1
        have HI := Lib.hid hI
        clear hI HV HP
        have e0 : wr.cell? ⟨G, 0, none⟩ = some (.int .i64 3) := hbx.cell 0
        have e1 : wr.cell? ⟨G, 1, none⟩ = some (.int .i64 0) := hbx.cell 1
        have e2 : wr.cell? ⟨G, 2, none⟩ = some (.string ⟨#[]⟩) := hbx.cell 2
        have e3 : wr.cell? ⟨G, 3, none⟩ = some (.slice B j k) := hbx.cell 3
        have c20 : wr.cell? ⟨w.heap.size, 0, none⟩ = some (.int .i64 0) := hz.cell 0
        have c21 : wr.cell? ⟨w.heap.size, 1, none⟩ = some (.int .i64 0) := hz.cell 1
        have c22 : wr.cell? ⟨w.heap.size, 2, none⟩ = some (.string ⟨#[]⟩) := hz.cell 2
        have c23 : wr.cell? ⟨w.heap.size, 3, none⟩ = some (.slice none 0 0) := hz.cell 3
        have f2 : ∀ i, wr.frozen? ⟨w.heap.size, i, none⟩ = false := fun i => by simp [World.frozen?, show wr.heap[w.heap.size]? = _ from hz]
        go_wp2_with fail
        have hf4 := rfin4 hgg hz hR hrd (.int .i64 3) (.int .i64 0) (.string ⟨#[]⟩) (.slice B j k)
        obtain ⟨k0, k1, k2, k3, k4, k5⟩ := hf4
        refine bodyPost_ret (v := .agg #[.int .i64 3, .int .i64 0, .string ⟨#[]⟩, .slice B j k]) ?_ rfl ?_
        · unfold set4 at k2 k3 k4 k5
          simp [results, Try.results36, go_sem, k2, k3, k4, k5]
        · have hx : OO = none := HI.out.2.2.2.2.2
          rw [hx]
          exact ⟨⟨_, _, _, _, _, _, rfl⟩, ⟨_, k0⟩, k1⟩
      | false =>
        have hz := hI.2.1
        have hbx := hI.1
        have hR := hI.2.2.2.1
        have hgg := hI.2.2.2.2.1
        have HI := Lib.hid hI
        clear hI HV HP
        have e0 : wr.cell? ⟨G, 0, none⟩ = some (.int .i64 3) := hbx.cell 0
        have e1 : wr.cell? ⟨G, 1, none⟩ = some (.int .i64 0) := hbx.cell 1
        have e2 : wr.cell? ⟨G, 2, none⟩ = some (.string ⟨#[]⟩) := hbx.cell 2
        have e3 : wr.cell? ⟨G, 3, none⟩ = some (.slice B j k) := hbx.cell 3
        have c20 : wr.cell? ⟨w.heap.size, 0, none⟩ = some (.int .i64 0) := hz.cell 0
        have c21 : wr.cell? ⟨w.heap.size, 1, none⟩ = some (.int .i64 0) := hz.cell 1
        have c22 : wr.cell? ⟨w.heap.size, 2, none⟩ = some (.string ⟨#[]⟩) := hz.cell 2
        have c23 : wr.cell? ⟨w.heap.size, 3, none⟩ = some (.slice none 0 0) := hz.cell 3
        have f2 : ∀ i, wr.frozen? ⟨w.heap.size, i, none⟩ = false := fun i => by simp [World.frozen?, show wr.heap[w.heap.size]? = _ from hz]
        go_wp2_with fail
        have hf4 := rfin4 hgg hz hR hrd (.int .i64 3) (.int .i64 0) (.string ⟨#[]⟩) (.slice B j k)
        obtain ⟨k0, k1, k2, k3, k4, k5⟩ := hf4
        refine bodyPost_ret (v := .agg #[.int .i64 3, .int .i64 0, .string ⟨#[]⟩, .slice B j k]) ?_ rfl ?_
        · unfold set4 at k2 k3 k4 k5
          simp [results, Try.results36, go_sem, k2, k3, k4, k5]
        · obtain ⟨_, _, ho, _, _, ts, hts, hrow, hOO⟩ := HI.out
          have hju' : j = u := by omega
          have hx : OO = some (ts, L.drop q) := by rw [hOO, hju', Nat.sub_self]; simp [ploop]
          rw [hx]
          subst hts
          have hl : RdQ (fun b => G < b) wr (tList ts) (.agg #[.int .i64 3, .int .i64 0, .string ⟨#[]⟩, .slice B ts.length k]) :=
            hrow.list ho (le_maxLen (by omega)) (fun b hb => hb.1) (fun b hb => hb)
          refine ⟨_, rfl, ?_, ⟨q, rfl, k0⟩, k1⟩
          exact hl.keep fun b hb _ => ⟨by omega, set4_other _ _ _ _ _ _ b (by omega)⟩
end Go.Proofs.Ytkihimafeonibaa
