/- alike. -/
import Derived.Test.YtjkojjimlebmjaaDoorOne
import Derived.Test.YtjkojjimlebmjaaDoorQl
import Derived.Lib.QuietBelow
namespace Go.Proofs.YtjkojjimlebmjaaDoor
open Go.RowKit
set_option linter.unusedVariables false

theorem ShAt.len {w : World} {b off : Nat} {s : Shr} (h : ShAt w b off s) : s.data.length ≤ maxLen := by
  obtain ⟨A, c, _, _, _, _, _, hs⟩ := h
  exact Nat.le_trans hs.2.1 hs.2.2.1
theorem alk_drop {o : Shr} {l : List Shr} {k : Nat} (b : Int) (h : k < l.length) : alkFrom o b (l.drop k) = (same1 (l[k]'h) o && decide (b < (l[k]'h).ix) && decide ((l[k]'h).ix ≤ (l[k]'h).mn) && alkFrom o (l[k]'h).ix (l.drop (k + 1))) := by
  rw [List.drop_eq_getElem_cons h]
  rfl
theorem alk_cons {l : List Shr} {s0 : Shr} (h : l[0]? = some s0) : alk l = (decide (1 ≤ s0.th ∧ s0.th ≤ s0.mn ∧ s0.mn ≤ 8) && decide (s0.data.length ≤ 64) && alkFrom s0 0 l) := by
  cases l with
  | nil => cases h
  | cons a l =>
    simp at h
    subst h
    rfl

set_option maxHeartbeats 4000000 in
set_option maxRecDepth 100000 in
theorem alike_any (A : Option Addr) (c : Nat) (l : List Shr) (w : World) (hS : SS w A l c) (hl : l.length ≤ 1000000) :
    Calls Tryd.prog 38 #[.slice A l.length c] w fun e w' => e = .returned (.bool (alk l)) ∧ Below w.heap.size w w' := by
  by_cases hp : l.length = 0
  · obtain rfl : l = [] := List.eq_nil_of_length_eq_zero hp
    simp only [List.length_nil]
    clear hp hl hS
    go_enter Tryd.func38, Tryd.ntmps38
    go_wp2_with fail
    go_quiet (fail)
    go_wp2_with fail
    go_ret
    exact ⟨rfl, below_drewN _ _⟩
  · obtain ⟨s0, h0⟩ : ∃ s0, l[0]? = some s0 := ⟨l[0]'(by omega), by simp⟩
    obtain ⟨b, off, rfl, hb, hat⟩ := hS.1 (by omega)
    have ha0 := hat 0 s0 h0
    have HLEN := Lib.hid ha0.len
    obtain ⟨A2, c2, z0, z1, z2, z3, z4, hs2⟩ := ha0
    simp only [Nat.zero_mul, Nat.add_zero] at z0 z1 z2 z3 z4
    have HAC := Lib.hid (alk_cons h0)
    have HH := Lib.hid (And.intro hS (And.intro hat h0))
    have HQ := Lib.hid (fun n => quietL (n := n) (thr_any s0.th s0.mn (w.drewN n)))
    obtain ⟨n, hn⟩ : ∃ n, l.length = n := ⟨_, rfl⟩
    have HL := Lib.hid hn
    rw [hn] at hl hp ⊢
    have hp2 : 0 < n := by omega
    have i1 : (0 : Int) < (n : Int) := by omega
    have i2 : ((n : Int) == 0) = false := by simp; omega
    clear hn hS hat h0 hs2
    obtain ⟨dl, hdl⟩ : ∃ dl, s0.data.length = dl := ⟨_, rfl⟩
    rw [hdl] at z4
    have HD := Lib.hid hdl
    rw [hdl] at HAC HLEN
    clear hdl
    by_cases q1 : 1 ≤ s0.th ∧ s0.th ≤ s0.mn ∧ s0.mn ≤ 8
    · rw [decide_eq_true q1] at HQ HAC
      by_cases q2 : dl ≤ 64
      · rw [decide_eq_true q2, Bool.true_and, Bool.true_and] at HAC
        have q3 : ¬ ((64 : Int) < (dl : Int)) := by omega
        have q4 : decide ((64 : Int) < (dl : Int)) = false := decide_eq_false q3
        go_enter Tryd.func38, Tryd.ntmps38
        go_wp2_with fail
        go_quiet ((go_at_call 31; exact HQ.out _))
        go_wp2_with fail
        have hbw1 := below_drewN w nq
        have HB1 := Lib.hid hbw1
        have HST : Hid (alkFrom s0 0 (l.drop 0) = alk l) := HAC.out.symm
        clear hbw1 z0 z1 z2 z3 z4 HAC HQ q4 q3
        generalize w.drewN nq = w1 at *
        go_loopw [3, 31] (fun bf i wr => ∃ (k : Nat) (bi : Int), k ≤ n ∧ i = .int .i64 k ∧ bf = .int .i64 bi ∧ alkFrom s0 bi (l.drop k) = alk l ∧ Below w.heap.size w wr) (fun _ i _ => n - (intOf i).toNat)
        case atStart => exact ⟨0, 0, Nat.zero_le _, rfl, rfl, HST.out, HB1.out⟩
        case round =>
          obtain ⟨k, bi, hk, rfl, rfl, hR, hbw⟩ := hrel
          by_cases hlt : k < n
          · have hlk : k < l.length := by rw [HL.out]; exact hlt
            have hak := (HH.out.2.1 k _ (ge_some hlk)).up hb hbw
            have HLEN1 := Lib.hid hak.len
            obtain ⟨A1, c1, k0, k1, k2, k3, k4, hs1⟩ := hak
            obtain ⟨A2, c2, z0, z1, z2, z3, z4, hs2⟩ := (HH.out.2.1 0 _ HH.out.2.2).up hb hbw
            simp only [Nat.zero_mul, Nat.add_zero] at z0 z1 z2 z3 z4
            rw [alk_drop bi hlk] at hR
            have HLEN0 : Hid (s0.data.length ≤ maxLen) := by rw [HD.out]; exact HLEN.out
            generalize l[k] = s at *
            have hsn := fun W => sn_any s s0 A1 A2 c1 c2 W HLEN1.out HLEN0.out
            unfold shv at hsn
            have hb5 : Below wr.heap.size wr (wr.alloc (.cells #[.int .i64 s.ep, .int .i64 s.ix, .int .i64 s.th, .int .i64 s.mn, .slice A1 s.data.length c1] 36)) := (Below.refl _ wr).alloc (Nat.le_refl _) _
            have hbx := Box.new wr #[.int .i64 s.ep, .int .i64 s.ix, .int .i64 s.th, .int .i64 s.mn, .slice A1 s.data.length c1] 36
            have hbb := hbw.trans (hb5.mono hbw.size)
            have hz : ∀ j v, wr.cell? ⟨b, j, none⟩ = some v → ∀ W', Below wr.heap.size wr W' → W'.cell? ⟨b, j, none⟩ = some v := fun j v h W' hW => (hW.cell (p := ⟨b, j, none⟩) (Nat.lt_of_lt_of_le hb hbw.size)).trans h
            have hS0 : ∀ W', Below (wr.alloc (.cells #[.int .i64 s.ep, .int .i64 s.ix, .int .i64 s.th, .int .i64 s.mn, .slice A1 s.data.length c1] 36)).heap.size (wr.alloc (.cells #[.int .i64 s.ep, .int .i64 s.ix, .int .i64 s.th, .int .i64 s.mn, .slice A1 s.data.length c1] 36)) W' →
                W'.cell? ⟨wr.heap.size, 0, none⟩ = some (.int .i64 s.ep) ∧ W'.cell? ⟨wr.heap.size, 1, none⟩ = some (.int .i64 s.ix) ∧ W'.cell? ⟨wr.heap.size, 2, none⟩ = some (.int .i64 s.th) ∧ W'.cell? ⟨wr.heap.size, 3, none⟩ = some (.int .i64 s.mn) ∧ W'.cell? ⟨wr.heap.size, 4, none⟩ = some (.slice A1 s.data.length c1) ∧
                W'.cell? ⟨b, off, none⟩ = some (.int .i64 s0.ep) ∧ W'.cell? ⟨b, off + 1, none⟩ = some (.int .i64 s0.ix) ∧ W'.cell? ⟨b, off + 2, none⟩ = some (.int .i64 s0.th) ∧ W'.cell? ⟨b, off + 3, none⟩ = some (.int .i64 s0.mn) ∧ W'.cell? ⟨b, off + 4, none⟩ = some (.slice A2 s0.data.length c2) := fun W' hW => by
              have hW2 := hb5.trans (hW.mono hb5.size)
              have hx := hbx.below hW
              exact ⟨hx.cell 0, hx.cell 1, hx.cell 2, hx.cell 3, hx.cell 4, hz _ _ z0 W' hW2, hz _ _ z1 W' hW2, hz _ _ z2 W' hW2, hz _ _ z3 W' hW2, hz _ _ z4 W' hW2⟩
            have HS1 := Lib.hid (And.intro (hS0 _ (Below.refl _ _).drew) (Below.refl (wr.alloc (.cells #[.int .i64 s.ep, .int .i64 s.ix, .int .i64 s.th, .int .i64 s.mn, .slice A1 s.data.length c1] 36)).heap.size (wr.alloc (.cells #[.int .i64 s.ep, .int .i64 s.ix, .int .i64 s.th, .int .i64 s.mn, .slice A1 s.data.length c1] 36))).drew)
            have HS0 := Lib.hid hS0
            have HBB := Lib.hid hbb
            have HSN0 := Lib.hid hsn
            have HR0 := Lib.hid hR
            clear hsn hb5 hbx hbb hz hS0 hs1 hs2 z0 z1 z2 z3 z4 hR HST HB1
            have HX : Hid (alk l = alk l) := rfl
            obtain ⟨B, hB⟩ : ∃ B, same1 s s0 = B := ⟨_, rfl⟩
            rw [hB] at HSN0 HR0
            obtain ⟨e1, x1, t1, m1, D1⟩ := s
            obtain ⟨e0, x0, t0, m0, D0⟩ := s0
            simp only at *
            generalize D1.length = d1 at *
            generalize D0.length = d0 at *
            clear hB
            cases B with
            | false =>
              have HF := Lib.hid (show false = alk l from HR0.out)
              clear HR0
              go_wp2_with fail
              clear k0 k1 k2 k3 k4 HS1
              generalize (wr.alloc (.cells #[.int .i64 e1, .int .i64 x1, .int .i64 t1, .int .i64 m1, .slice A1 d1 c1] 36)) = w5 at *
              have g0' := fun d os => (HS0.out _ (below_regrown w5 d os)).1
              have g1' := fun d os => (HS0.out _ (below_regrown w5 d os)).2.1
              have g2' := fun d os => (HS0.out _ (below_regrown w5 d os)).2.2.1
              have g3' := fun d os => (HS0.out _ (below_regrown w5 d os)).2.2.2.1
              have g4' := fun d os => (HS0.out _ (below_regrown w5 d os)).2.2.2.2.1
              have g5' := fun d os => (HS0.out _ (below_regrown w5 d os)).2.2.2.2.2.1
              have g6' := fun d os => (HS0.out _ (below_regrown w5 d os)).2.2.2.2.2.2.1
              have g7' := fun d os => (HS0.out _ (below_regrown w5 d os)).2.2.2.2.2.2.2.1
              have g8' := fun d os => (HS0.out _ (below_regrown w5 d os)).2.2.2.2.2.2.2.2.1
              have g9' := fun d os => (HS0.out _ (below_regrown w5 d os)).2.2.2.2.2.2.2.2.2
              refine wp_region_quiet_below (by kernel_rfl) (by kernel_rfl) ?_
              repeat (quiet_step ((go_at_call 62; exact Calls.regrownAll (fun W _ => HSN0.out W) _ _)))
              refine wpQuiet_nil ?_
              intro w6 hw'
              have hb6 : Below w5.heap.size w5 w6 := by
                obtain ⟨p, rfl⟩ := hw'
                exact below_regrown w5 p.d p.os
              have B6 := Lib.hid (HBB.out.trans (hb6.mono HBB.out.size))
              obtain ⟨y0, y1, y2, y3, y4, y5, _⟩ := HS0.out _ hb6
              clear hw' hb6 g0' g1' g2' g3' g4' g5' g6' g7' g8' g9' HSN0
              go_wp2_with fail
              go_ret
              exact ⟨ret_bool HF.out, B6.out⟩
            | true =>
              by_cases q5 : x1 ≤ bi
              · have HF := Lib.hid (show false = alk l by rw [← HR0.out, decide_eq_false (by omega : ¬ bi < x1)]; rfl)
                have g1 : decide (x1 ≤ bi) = true := decide_eq_true q5
                clear HR0
                go_wp2_with fail
                clear k0 k1 k2 k3 k4 HS1
                generalize (wr.alloc (.cells #[.int .i64 e1, .int .i64 x1, .int .i64 t1, .int .i64 m1, .slice A1 d1 c1] 36)) = w5 at *
                have g0' := fun d os => (HS0.out _ (below_regrown w5 d os)).1
                have g1' := fun d os => (HS0.out _ (below_regrown w5 d os)).2.1
                have g2' := fun d os => (HS0.out _ (below_regrown w5 d os)).2.2.1
                have g3' := fun d os => (HS0.out _ (below_regrown w5 d os)).2.2.2.1
                have g4' := fun d os => (HS0.out _ (below_regrown w5 d os)).2.2.2.2.1
                have g5' := fun d os => (HS0.out _ (below_regrown w5 d os)).2.2.2.2.2.1
                have g6' := fun d os => (HS0.out _ (below_regrown w5 d os)).2.2.2.2.2.2.1
                have g7' := fun d os => (HS0.out _ (below_regrown w5 d os)).2.2.2.2.2.2.2.1
                have g8' := fun d os => (HS0.out _ (below_regrown w5 d os)).2.2.2.2.2.2.2.2.1
                have g9' := fun d os => (HS0.out _ (below_regrown w5 d os)).2.2.2.2.2.2.2.2.2
                refine wp_region_quiet_below (by kernel_rfl) (by kernel_rfl) ?_
                repeat (quiet_step ((go_at_call 62; exact Calls.regrownAll (fun W _ => HSN0.out W) _ _)))
                refine wpQuiet_nil ?_
                intro w6 hw'
                have hb6 : Below w5.heap.size w5 w6 := by
                  obtain ⟨p, rfl⟩ := hw'
                  exact below_regrown w5 p.d p.os
                have B6 := Lib.hid (HBB.out.trans (hb6.mono HBB.out.size))
                obtain ⟨y0, y1, y2, y3, y4, y5, _⟩ := HS0.out _ hb6
                clear hw' hb6 g0' g1' g2' g3' g4' g5' g6' g7' g8' g9' HSN0
                go_wp2_with fail
                go_ret
                exact ⟨ret_bool HF.out, B6.out⟩
              · have g1 : decide (x1 ≤ bi) = false := decide_eq_false q5
                have g2 : bi < x1 := by omega
                rw [decide_eq_true g2] at HR0
                by_cases q6 : m1 < x1
                · have HF := Lib.hid (show false = alk l by rw [← HR0.out, decide_eq_false (by omega : ¬ x1 ≤ m1)]; rfl)
                  have g3 : decide (m1 < x1) = true := decide_eq_true q6
                  clear HR0
                  go_wp2_with fail
                  clear k0 k1 k2 k3 k4 HS1
                  generalize (wr.alloc (.cells #[.int .i64 e1, .int .i64 x1, .int .i64 t1, .int .i64 m1, .slice A1 d1 c1] 36)) = w5 at *
                  have g0' := fun d os => (HS0.out _ (below_regrown w5 d os)).1
                  have g1' := fun d os => (HS0.out _ (below_regrown w5 d os)).2.1
                  have g2' := fun d os => (HS0.out _ (below_regrown w5 d os)).2.2.1
                  have g3' := fun d os => (HS0.out _ (below_regrown w5 d os)).2.2.2.1
                  have g4' := fun d os => (HS0.out _ (below_regrown w5 d os)).2.2.2.2.1
                  have g5' := fun d os => (HS0.out _ (below_regrown w5 d os)).2.2.2.2.2.1
                  have g6' := fun d os => (HS0.out _ (below_regrown w5 d os)).2.2.2.2.2.2.1
                  have g7' := fun d os => (HS0.out _ (below_regrown w5 d os)).2.2.2.2.2.2.2.1
                  have g8' := fun d os => (HS0.out _ (below_regrown w5 d os)).2.2.2.2.2.2.2.2.1
                  have g9' := fun d os => (HS0.out _ (below_regrown w5 d os)).2.2.2.2.2.2.2.2.2
                  refine wp_region_quiet_below (by kernel_rfl) (by kernel_rfl) ?_
                  repeat (quiet_step ((go_at_call 62; exact Calls.regrownAll (fun W _ => HSN0.out W) _ _)))
                  refine wpQuiet_nil ?_
                  intro w6 hw'
                  have hb6 : Below w5.heap.size w5 w6 := by
                    obtain ⟨p, rfl⟩ := hw'
                    exact below_regrown w5 p.d p.os
                  have B6 := Lib.hid (HBB.out.trans (hb6.mono HBB.out.size))
                  obtain ⟨y0, y1, y2, y3, y4, y5, _⟩ := HS0.out _ hb6
                  clear hw' hb6 g0' g1' g2' g3' g4' g5' g6' g7' g8' g9' HSN0
                  go_wp2_with fail
                  go_ret
                  exact ⟨ret_bool HF.out, B6.out⟩
                · have g3 : decide (m1 < x1) = false := decide_eq_false q6
                  have g4 : x1 ≤ m1 := by omega
                  rw [decide_eq_true g4] at HR0
                  have HF := Lib.hid (show alkFrom _ x1 (l.drop (k + 1)) = alk l from HR0.out)
                  clear HR0
                  go_wp2_with fail
                  clear k0 k1 k2 k3 k4 HS1
                  generalize (wr.alloc (.cells #[.int .i64 e1, .int .i64 x1, .int .i64 t1, .int .i64 m1, .slice A1 d1 c1] 36)) = w5 at *
                  have g0' := fun d os => (HS0.out _ (below_regrown w5 d os)).1
                  have g1' := fun d os => (HS0.out _ (below_regrown w5 d os)).2.1
                  have g2' := fun d os => (HS0.out _ (below_regrown w5 d os)).2.2.1
                  have g3' := fun d os => (HS0.out _ (below_regrown w5 d os)).2.2.2.1
                  have g4' := fun d os => (HS0.out _ (below_regrown w5 d os)).2.2.2.2.1
                  have g5' := fun d os => (HS0.out _ (below_regrown w5 d os)).2.2.2.2.2.1
                  have g6' := fun d os => (HS0.out _ (below_regrown w5 d os)).2.2.2.2.2.2.1
                  have g7' := fun d os => (HS0.out _ (below_regrown w5 d os)).2.2.2.2.2.2.2.1
                  have g8' := fun d os => (HS0.out _ (below_regrown w5 d os)).2.2.2.2.2.2.2.2.1
                  have g9' := fun d os => (HS0.out _ (below_regrown w5 d os)).2.2.2.2.2.2.2.2.2
                  refine wp_region_quiet_below (by kernel_rfl) (by kernel_rfl) ?_
                  repeat (quiet_step ((go_at_call 62; exact Calls.regrownAll (fun W _ => HSN0.out W) _ _)))
                  refine wpQuiet_nil ?_
                  intro w6 hw'
                  have hb6 : Below w5.heap.size w5 w6 := by
                    obtain ⟨p, rfl⟩ := hw'
                    exact below_regrown w5 p.d p.os
                  have B6 := Lib.hid (HBB.out.trans (hb6.mono HBB.out.size))
                  obtain ⟨y0, y1, y2, y3, y4, y5, _⟩ := HS0.out _ hb6
                  clear hw' hb6 g0' g1' g2' g3' g4' g5' g6' g7' g8' g9' HSN0
                  go_wp2_with fail
                  go_roundw
                  case rel => exact ⟨k + 1, x1, by omega, by go_num, rfl, HF.out, B6.out⟩
                  case measure => simp [intOf]; omega
          · obtain rfl : k = n := by omega
            rw [List.drop_eq_nil_of_le (by rw [HL.out]; exact Nat.le_refl _)] at hR
            have HF := Lib.hid (And.intro hR hbw)
            clear hR hbw
            go_wp2_with fail
            go_ret
            exact ⟨ret_bool (by rw [← HF.out.1]; rfl), HF.out.2⟩
      · rw [decide_eq_false q2, Bool.and_false, Bool.false_and] at HAC
        have q3 : (64 : Int) < (dl : Int) := by omega
        have q4 : decide ((64 : Int) < (dl : Int)) = true := decide_eq_true q3
        go_enter Tryd.func38, Tryd.ntmps38
        go_wp2_with fail
        go_quiet ((go_at_call 31; exact HQ.out _))
        go_wp2_with fail
        go_ret
        exact ⟨ret_bool (by rw [HAC.out]), below_drewN _ _⟩
    · rw [decide_eq_false q1] at HQ
      rw [decide_eq_false q1, Bool.false_and, Bool.false_and] at HAC
      go_enter Tryd.func38, Tryd.ntmps38
      go_wp2_with fail
      go_quiet ((go_at_call 31; exact HQ.out _))
      go_wp2_with fail
      go_ret
      exact ⟨ret_bool (by rw [HAC.out]), below_drewN _ _⟩
end Go.Proofs.YtjkojjimlebmjaaDoor
