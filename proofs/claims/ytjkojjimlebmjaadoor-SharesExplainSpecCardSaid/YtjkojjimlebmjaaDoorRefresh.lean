/- Refresh: the walk. -/
import Derived.Test.YtjkojjimlebmjaaDoorRef
import Derived.Deep.RegionHeld3
namespace Go.Proofs.YtjkojjimlebmjaaDoor
open Go.RowKit
set_option linter.unusedVariables false

theorem fin_setS {w4 w7 : World} {Bx c7 : Nat} {v : Value} {T : TypeId} {A7 : Option Addr} {L : List Shr} (X : Box w7 Bx #[.slice none 0 0] T) (B : Below w4.heap.size w4 w7) (hx : w4.heap.size ≤ Bx) (I : SS w7 A7 L c7) :
    (w7.setCell ⟨Bx, 0, none⟩ v).cell? ⟨Bx, 0, none⟩ = some v ∧ Below w4.heap.size w4 (w7.setCell ⟨Bx, 0, none⟩ v) ∧ SS (w7.setCell ⟨Bx, 0, none⟩ v) A7 L c7 :=
  ⟨by have := (X.set (i := 0) (v := v)).cell 0; simpa using this, B.setCell (p := ⟨Bx, 0, none⟩) hx v, I.setnil (X.cell 0)⟩
theorem fin_newS {w4 w7 : World} {c7 : Nat} {v : Value} {T : TypeId} {A7 : Option Addr} {L : List Shr} (B : Below w4.heap.size w4 w7) (I : SS w7 A7 L c7) :
    (w7.alloc (.cells #[v] T)).cell? ⟨w7.heap.size, 0, none⟩ = some v ∧ Below w4.heap.size w4 (w7.alloc (.cells #[v] T)) ∧ SS (w7.alloc (.cells #[v] T)) A7 L c7 :=
  ⟨(Box.new w7 #[v] T).cell 0, B.alloc B.size _, I.up ((Below.refl _ w7).alloc (Nat.le_refl _) _)⟩

set_option maxHeartbeats 4000000 in
set_option maxRecDepth 100000 in
theorem refresh_any (A Ac : Option Addr) (c cc : Nat) (l : List Shr) (coins : List UInt8) (w : World) (hK : KT w) (hS : SS w A l c) (hs : Sl w Ac coins cc) (hl : l.length ≤ 1000000) (hcl : coins.length ≤ 9223372036854775807) :
    Calls Tryd.prog 8 #[.slice A l.length c, .slice Ac coins.length cc] w (RfPost l coins w) := by
  have hb0 : Below w.heap.size w (w.alloc (.cells #[.slice A l.length c] 22)) := (Below.refl _ w).alloc (Nat.le_refl _) _
  have hbx := Box.new w #[.slice A l.length c] 22
  have HC := Lib.hid (check_any A c l (w.alloc (.cells #[.slice A l.length c] 22)) (hS.up hb0) hl)
  have HB := Lib.hid (And.intro hb0 hbx)
  have HS := Lib.hid (And.intro hS (And.intro hs hK))
  clear hS hs hK hb0 hbx
  by_cases q1 : chk l = 0
  · obtain ⟨ha, ho⟩ := chk_zero q1
    obtain ⟨s0, h0⟩ := alk_pos ha
    obtain ⟨⟨t1, t2, t3⟩, hd, hall⟩ := alk_facts ha h0
    obtain ⟨b, off, rfl, hb, hat⟩ := HS.out.1.1 (List.getElem?_eq_some_iff.1 h0).1
    obtain ⟨hr1, hr2, hr3⟩ := rf_cons h0 coins
    rw [if_neg (fun h => h q1)] at hr1
    have hep : 0 ≤ s0.ep ∧ s0.ep ≤ 1048576 := by
      rw [onee_cons h0, Bool.and_eq_true, decide_eq_true_eq] at ho
      exact ho.2
    have HAT := Lib.hid (fun V (h : Below w.heap.size w V) => (hat 0 s0 h0).up hb h)
    rw [q1] at HC
    have i0 : 0 < l.length := (List.getElem?_eq_some_iff.1 h0).1
    obtain ⟨m, hm⟩ : ∃ m, s0.data.length = m := ⟨_, rfl⟩
    have HALL := Lib.hid (And.intro (fun u hu => (hall u hu).1.2.2.trans hm) h0)
    rw [hr3, hm] at hr1 hr2
    rw [hm] at hd
    unfold ShAt at HAT
    rw [hm] at HAT
    obtain ⟨ep, ix, th, mn, D0⟩ := s0
    simp only at *
    clear hat hall ha ho h0 hm q1 hr3
    by_cases q2 : (l.length : Int) = mn
    · rw [if_neg (fun h => h q2)] at hr1
      have HSP := Lib.hid (fun V A3 c3 (hbV : Below w.heap.size w V) (hs3 : Sl V A3 (List.replicate m 0) c3) => split_any A3 Ac c3 cc (List.replicate m 0) coins (ep + 1) th mn V (HS.out.2.2.below hbV) hs3 (HS.out.2.1.up hbV) (by simp; omega) hcl)
      unfold SplitPost at HSP
      rw [List.length_replicate] at HSP
      obtain ⟨E, hE⟩ : ∃ E, spe (List.replicate m 0) (ep + 1) th mn coins = E := ⟨_, rfl⟩
      obtain ⟨zs, hzs⟩ : ∃ zs, spl (List.replicate m 0) (ep + 1) th mn coins = zs := ⟨_, rfl⟩
      rw [hE, hzs] at HSP
      rw [hE] at hr1
      rw [hzs] at hr2
      have HEZ := Lib.hid (And.intro hE hzs)
      have HMK := Lib.hid (fun V => make_u8 m V (by omega))
      have HZ := Lib.hid (fun V => sl_zrow V m (by omega))
      have HWR : Hid (IntKind.i64.wrap (ep + 1) = ep + 1) := by rw [Hid, IntKind.wrap_i64]; omega
      have HEP := Lib.hid (And.intro hep hd)
      clear hE hzs hep
      by_cases q3 : E = 0
      · rw [hr1, if_pos q3] at hr2
        rw [q3] at hr1
        subst q3
        have hzf := spl_facts HEZ.out.1
        rw [HEZ.out.2, List.length_replicate] at hzf
        have HRX := Lib.hid (And.intro hr1 hr2)
        unfold RfPost
        clear hr1 hr2
        generalize rfl' l coins = X at *
        generalize rfe l coins = EE at *
        generalize coins.length = nc at *
        generalize hln : l.length = n at *
        have HLN := Lib.hid hln
        clear hln
        have i1 : (0 : Int) < (n : Int) := by omega
        have hd1 : ((n : Int) != mn) = false := by simp [q2]
        subst q2
        have HZF := Lib.hid (And.intro (hzf.1.trans (Int.toNat_natCast n)) hzf.2)
        clear hzf
        go_enter Tryd.func8, Tryd.ntmps8
        go_wp2_with fail
        refine HC.out.mono ?_
        rintro e w1 ⟨rfl, hb1⟩
        have hbw := HB.out.1.trans (hb1.mono HB.out.1.size)
        have xl : w1.cell? ⟨w.heap.size, 0, none⟩ = some (.slice (some ⟨b, off, none⟩) n c) := (HB.out.2.below hb1).cell 0
        obtain ⟨D, cD, k0, k1, k2, k3, k4, hs1⟩ := HAT.out w1 hbw
        simp only [Nat.zero_mul, Nat.add_zero] at k0 k1 k2 k3 k4
        have hY2 := Box.new w1 #[.int .i64 ep, .int .i64 ix, .int .i64 th, .int .i64 (n : Int), .slice D m cD] 36
        have hb2 : Below w1.heap.size w1 (w1.alloc (.cells #[.int .i64 ep, .int .i64 ix, .int .i64 th, .int .i64 (n : Int), .slice D m cD] 36)) := (Below.refl _ w1).alloc (Nat.le_refl _) _
        have H2 := Lib.hid (And.intro hY2 (And.intro (hbw.trans (hb2.mono hbw.size)) ((HB.out.2.below hb1).below hb2)))
        have xl2 : (w1.alloc (.cells #[.int .i64 ep, .int .i64 ix, .int .i64 th, .int .i64 (n : Int), .slice D m cD] 36)).cell? ⟨w.heap.size, 0, none⟩ = some (.slice (some ⟨b, off, none⟩) n c) := H2.out.2.2.cell 0
        have ym : (w1.alloc (.cells #[.int .i64 ep, .int .i64 ix, .int .i64 th, .int .i64 (n : Int), .slice D m cD] 36)).cell? ⟨w1.heap.size, 3, none⟩ = some (.int .i64 (n : Int)) := H2.out.1.cell 3
        clear hb1 hbw hY2 hb2 hs1
        go_wp2_with fail
        have HY := Lib.hid (fun V (h : Below (w1.alloc (.cells #[.int .i64 ep, .int .i64 ix, .int .i64 th, .int .i64 (n : Int), .slice D m cD] 36)).heap.size (w1.alloc (.cells #[.int .i64 ep, .int .i64 ix, .int .i64 th, .int .i64 (n : Int), .slice D m cD] 36)) V) => H2.out.1.below h)
        have HSP2 := Lib.hid (fun V A3 c3 (h : Below (w1.alloc (.cells #[.int .i64 ep, .int .i64 ix, .int .i64 th, .int .i64 (n : Int), .slice D m cD] 36)).heap.size (w1.alloc (.cells #[.int .i64 ep, .int .i64 ix, .int .i64 th, .int .i64 (n : Int), .slice D m cD] 36)) V) hs3 => HSP.out V A3 c3 (H2.out.2.1.trans (h.mono H2.out.2.1.size)) hs3)
        clear xl2 ym xl k0 k1 k2 k3 k4
        generalize w1.alloc (.cells #[.int .i64 ep, .int .i64 ix, .int .i64 th, .int .i64 (n : Int), .slice D m cD] 36) = w2 at *
        have HSK := Lib.hid (fun w' (h : Below w2.heap.size w2 w') => (show w'.cell? ⟨w1.heap.size, 0, none⟩ = some (.int .i64 ep) ∧ w'.cell? ⟨w1.heap.size, 2, none⟩ = some (.int .i64 th) ∧ w'.cell? ⟨w1.heap.size, 3, none⟩ = some (.int .i64 (n : Int)) ∧ w'.cell? ⟨w1.heap.size, 4, none⟩ = some (.slice D m cD) from ⟨(HY.out w' h).cell 0, (HY.out w' h).cell 2, (HY.out w' h).cell 3, (HY.out w' h).cell 4⟩))
        have B0 := Lib.hid (Below.refl w2.heap.size w2).drew
        have B1 := Lib.hid ((Below.refl w2.heap.size w2).alloc (Nat.le_refl _) (.cells (zrow m) 5)).drew
        have B2 := Lib.hid ((Below.refl w2.heap.size w2).alloc (Nat.le_refl _) (.cells #[.slice none 0 0] 22)).drew
        have B3 := Lib.hid (((Below.refl w2.heap.size w2).alloc (Nat.le_refl _) (.cells #[.slice none 0 0] 22)).alloc (by simp) (.cells (zrow m) 5)).drew
        have B4 := Lib.hid (((Below.refl w2.heap.size w2).alloc (Nat.le_refl _) (.cells (zrow m) 5)).alloc (by simp) (.cells #[.slice none 0 0] 22)).drew
        have hz3 := HZ.out (w2.alloc (.cells #[.slice none 0 0] 22))
        rw [World.size_alloc] at hz3
        have Z1 := Lib.hid (show Sl (w2.alloc (.cells (zrow m) 5)).drew (some ⟨w2.heap.size, 0, none⟩) (List.replicate m 0) m from HZ.out w2)
        have Z3 := Lib.hid (show Sl ((w2.alloc (.cells #[.slice none 0 0] 22)).alloc (.cells (zrow m) 5)).drew (some ⟨w2.heap.size + 1, 0, none⟩) (List.replicate m 0) m from hz3)
        have Z4 := Lib.hid (show Sl ((w2.alloc (.cells (zrow m) 5)).alloc (.cells #[.slice none 0 0] 22)).drew (some ⟨w2.heap.size, 0, none⟩) (List.replicate m 0) m from (HZ.out w2).up ((Below.refl (w2.alloc (.cells (zrow m) 5)).heap.size (w2.alloc (.cells (zrow m) 5))).alloc (Nat.le_refl _) (.cells #[.slice none 0 0] 22)).drew)
        have hx4 := Box.new (w2.alloc (.cells (zrow m) 5)) #[.slice none 0 0] 22
        rw [World.size_alloc] at hx4
        have X3 := Lib.hid (((Box.new w2 #[.slice none 0 0] 22).alloc (.cells (zrow m) 5)).drew)
        have X4 := Lib.hid hx4.drew
        clear hz3 hx4
        have hmk := HMK.out
        have hwr := HWR.out
        obtain ⟨zn, hzn⟩ : ∃ zn, zs.length = zn := ⟨_, rfl⟩
        rw [hzn] at HSP2
        have HZN := Lib.hid hzn
        clear hzn
        go_region_held3 (fun w' => w'.cell? ⟨w1.heap.size, 0, none⟩ = some (.int .i64 ep) ∧ w'.cell? ⟨w1.heap.size, 2, none⟩ = some (.int .i64 th) ∧ w'.cell? ⟨w1.heap.size, 3, none⟩ = some (.int .i64 (n : Int)) ∧ w'.cell? ⟨w1.heap.size, 4, none⟩ = some (.slice D m cD))
          (with_reducible first | exact HSK.out _ B0.out | exact HSK.out _ B1.out | exact HSK.out _ B2.out | exact HSK.out _ B3.out | exact HSK.out _ B4.out | exact HSK.out _ B5.out | exact HSK.out _ (B5.out.alloc B5.out.size _) | exact HSK.out _ (B5.out.setCell (by first | exact Nat.le_refl _ | exact Nat.le_succ _) _))
          (first
            | (go_at_call 12; (with_reducible first | refine (HSP2.out _ _ _ B1.out Z1.out).mono ?_ | refine (HSP2.out _ _ _ B3.out Z3.out).mono ?_ | refine (HSP2.out _ _ _ B4.out Z4.out).mono ?_); rintro e w5 ⟨A5, c5, rfl, hS5, hb5⟩; (with_reducible first | (have hb51 := bthen (a := w2) B1.out hb5) | (have hb51 := bthen (a := w2) B3.out hb5) | (have hb51 := bthen (a := w2) B4.out hb5)); have B5 := Lib.hid hb51; have I5 := Lib.hid hS5; (first | (have X5 := Lib.hid (X3.out.below hb5)) | (have X5 := Lib.hid (X4.out.below hb5)) | skip); clear hb5 hb51 hS5; (first | (have x5 := X5.out.cell 0; have f5 := X5.out.frozen 0) | skip))
            | fail)
        clear hmk hwr
        all_goals
          first
            | (have HFB := Lib.hid (fin_setS (v := .slice A5 zn c5) X5.out B5.out (by first | exact Nat.le_refl _ | exact Nat.le_succ _) I5.out); clear x5 f5)
            | (have HFB := Lib.hid (fin_newS (v := .slice A5 zn c5) (T := 22) B5.out I5.out))
          have hbW := H2.out.2.1.trans (HFB.out.2.1.mono H2.out.2.1.size)
          have hlb := (H2.out.2.2.below HFB.out.2.1).cell 0
          have HCO := Lib.hid (rf_coll _ w.heap.size n m A5 (some ⟨b, off, none⟩) c5 c zs l ⟨ep, ix, th, (n : Int), D0⟩ _ (by rw [HZN.out]; exact HFB.out.1) hlb HFB.out.2.2 (HS.out.1.up hbW) HLN.out HZF.out.1 HALL.out.1 HZF.out.2 (by omega) (by omega))
          have HBW := Lib.hid hbW
          clear hbW
          go_wp2_with fail
          (with_reducible refine HCO.out.mono ?_)
          rintro e w9 ⟨g9, c9, hg9, rfl, hR9, hb9⟩
          rw [List.length_map, List.length_range]
          have H9 := Lib.hid (And.intro hR9 (HBW.out.trans (hb9.mono HBW.out.size)))
          clear hR9 hb9 hlb
          go_wp2_with fail
          go_ret2
          exact ⟨some ⟨g9, 0, none⟩, c9, by rw [HRX.out.1, HRX.out.2, List.length_map, List.length_range]; rfl, by rw [HRX.out.2]; exact H9.out.1, H9.out.2⟩
      · have HF := Lib.hid (fun w' hb => rf_fail (w := w) (w' := w') hr1 q3 hb)
        unfold RfPost
        unfold RfPost at HF
        clear hr1 hr2
        generalize rfl' l coins = X at *
        generalize rfe l coins = EE at *
        generalize coins.length = nc at *
        generalize hln : l.length = n at *
        clear hln
        have i1 : (0 : Int) < (n : Int) := by omega
        have hd1 : ((n : Int) != mn) = false := by simp [q2]
        have hd2 : (E != 0) = true := by simpa using q3
        subst q2
        go_enter Tryd.func8, Tryd.ntmps8
        go_wp2_with fail
        refine HC.out.mono ?_
        rintro e w1 ⟨rfl, hb1⟩
        have hbw := HB.out.1.trans (hb1.mono HB.out.1.size)
        have xl : w1.cell? ⟨w.heap.size, 0, none⟩ = some (.slice (some ⟨b, off, none⟩) n c) := (HB.out.2.below hb1).cell 0
        obtain ⟨D, cD, k0, k1, k2, k3, k4, hs1⟩ := HAT.out w1 hbw
        simp only [Nat.zero_mul, Nat.add_zero] at k0 k1 k2 k3 k4
        have hY2 := Box.new w1 #[.int .i64 ep, .int .i64 ix, .int .i64 th, .int .i64 (n : Int), .slice D m cD] 36
        have hb2 : Below w1.heap.size w1 (w1.alloc (.cells #[.int .i64 ep, .int .i64 ix, .int .i64 th, .int .i64 (n : Int), .slice D m cD] 36)) := (Below.refl _ w1).alloc (Nat.le_refl _) _
        have H2 := Lib.hid (And.intro hY2 (And.intro (hbw.trans (hb2.mono hbw.size)) ((HB.out.2.below hb1).below hb2)))
        have xl2 : (w1.alloc (.cells #[.int .i64 ep, .int .i64 ix, .int .i64 th, .int .i64 (n : Int), .slice D m cD] 36)).cell? ⟨w.heap.size, 0, none⟩ = some (.slice (some ⟨b, off, none⟩) n c) := H2.out.2.2.cell 0
        have ym : (w1.alloc (.cells #[.int .i64 ep, .int .i64 ix, .int .i64 th, .int .i64 (n : Int), .slice D m cD] 36)).cell? ⟨w1.heap.size, 3, none⟩ = some (.int .i64 (n : Int)) := H2.out.1.cell 3
        clear hb1 hbw hY2 hb2 hs1
        go_wp2_with fail
        have HY := Lib.hid (fun V (h : Below (w1.alloc (.cells #[.int .i64 ep, .int .i64 ix, .int .i64 th, .int .i64 (n : Int), .slice D m cD] 36)).heap.size (w1.alloc (.cells #[.int .i64 ep, .int .i64 ix, .int .i64 th, .int .i64 (n : Int), .slice D m cD] 36)) V) => H2.out.1.below h)
        have HSP2 := Lib.hid (fun V A3 c3 (h : Below (w1.alloc (.cells #[.int .i64 ep, .int .i64 ix, .int .i64 th, .int .i64 (n : Int), .slice D m cD] 36)).heap.size (w1.alloc (.cells #[.int .i64 ep, .int .i64 ix, .int .i64 th, .int .i64 (n : Int), .slice D m cD] 36)) V) hs3 => HSP.out V A3 c3 (H2.out.2.1.trans (h.mono H2.out.2.1.size)) hs3)
        clear xl2 ym xl k0 k1 k2 k3 k4
        generalize w1.alloc (.cells #[.int .i64 ep, .int .i64 ix, .int .i64 th, .int .i64 (n : Int), .slice D m cD] 36) = w2 at *
        have HSK := Lib.hid (fun w' (h : Below w2.heap.size w2 w') => (show w'.cell? ⟨w1.heap.size, 0, none⟩ = some (.int .i64 ep) ∧ w'.cell? ⟨w1.heap.size, 2, none⟩ = some (.int .i64 th) ∧ w'.cell? ⟨w1.heap.size, 3, none⟩ = some (.int .i64 (n : Int)) ∧ w'.cell? ⟨w1.heap.size, 4, none⟩ = some (.slice D m cD) from ⟨(HY.out w' h).cell 0, (HY.out w' h).cell 2, (HY.out w' h).cell 3, (HY.out w' h).cell 4⟩))
        have B0 := Lib.hid (Below.refl w2.heap.size w2).drew
        have B1 := Lib.hid ((Below.refl w2.heap.size w2).alloc (Nat.le_refl _) (.cells (zrow m) 5)).drew
        have B2 := Lib.hid ((Below.refl w2.heap.size w2).alloc (Nat.le_refl _) (.cells #[.slice none 0 0] 22)).drew
        have B3 := Lib.hid (((Below.refl w2.heap.size w2).alloc (Nat.le_refl _) (.cells #[.slice none 0 0] 22)).alloc (by simp) (.cells (zrow m) 5)).drew
        have B4 := Lib.hid (((Below.refl w2.heap.size w2).alloc (Nat.le_refl _) (.cells (zrow m) 5)).alloc (by simp) (.cells #[.slice none 0 0] 22)).drew
        have hz3 := HZ.out (w2.alloc (.cells #[.slice none 0 0] 22))
        rw [World.size_alloc] at hz3
        have Z1 := Lib.hid (show Sl (w2.alloc (.cells (zrow m) 5)).drew (some ⟨w2.heap.size, 0, none⟩) (List.replicate m 0) m from HZ.out w2)
        have Z3 := Lib.hid (show Sl ((w2.alloc (.cells #[.slice none 0 0] 22)).alloc (.cells (zrow m) 5)).drew (some ⟨w2.heap.size + 1, 0, none⟩) (List.replicate m 0) m from hz3)
        have Z4 := Lib.hid (show Sl ((w2.alloc (.cells (zrow m) 5)).alloc (.cells #[.slice none 0 0] 22)).drew (some ⟨w2.heap.size, 0, none⟩) (List.replicate m 0) m from (HZ.out w2).up ((Below.refl (w2.alloc (.cells (zrow m) 5)).heap.size (w2.alloc (.cells (zrow m) 5))).alloc (Nat.le_refl _) (.cells #[.slice none 0 0] 22)).drew)
        have hx4 := Box.new (w2.alloc (.cells (zrow m) 5)) #[.slice none 0 0] 22
        rw [World.size_alloc] at hx4
        have X3 := Lib.hid (((Box.new w2 #[.slice none 0 0] 22).alloc (.cells (zrow m) 5)).drew)
        have X4 := Lib.hid hx4.drew
        clear hz3 hx4
        have hmk := HMK.out
        have hwr := HWR.out
        obtain ⟨zn, hzn⟩ : ∃ zn, zs.length = zn := ⟨_, rfl⟩
        rw [hzn] at HSP2
        have HZN := Lib.hid hzn
        clear hzn
        go_region_held3 (fun w' => w'.cell? ⟨w1.heap.size, 0, none⟩ = some (.int .i64 ep) ∧ w'.cell? ⟨w1.heap.size, 2, none⟩ = some (.int .i64 th) ∧ w'.cell? ⟨w1.heap.size, 3, none⟩ = some (.int .i64 (n : Int)) ∧ w'.cell? ⟨w1.heap.size, 4, none⟩ = some (.slice D m cD))
          (with_reducible first | exact HSK.out _ B0.out | exact HSK.out _ B1.out | exact HSK.out _ B2.out | exact HSK.out _ B3.out | exact HSK.out _ B4.out | exact HSK.out _ B5.out | exact HSK.out _ (B5.out.alloc B5.out.size _) | exact HSK.out _ (B5.out.setCell (by first | exact Nat.le_refl _ | exact Nat.le_succ _) _))
          (first
            | (go_at_call 12; (with_reducible first | refine (HSP2.out _ _ _ B1.out Z1.out).mono ?_ | refine (HSP2.out _ _ _ B3.out Z3.out).mono ?_ | refine (HSP2.out _ _ _ B4.out Z4.out).mono ?_); rintro e w5 ⟨A5, c5, rfl, hS5, hb5⟩; (with_reducible first | (have hb51 := bthen (a := w2) B1.out hb5) | (have hb51 := bthen (a := w2) B3.out hb5) | (have hb51 := bthen (a := w2) B4.out hb5)); have B5 := Lib.hid hb51; have I5 := Lib.hid hS5; (first | (have X5 := Lib.hid (X3.out.below hb5)) | (have X5 := Lib.hid (X4.out.below hb5)) | skip); clear hb5 hb51 hS5; (first | (have x5 := X5.out.cell 0; have f5 := X5.out.frozen 0) | skip))
            | fail)
        clear hmk hwr
        all_goals
          first
            | (have HFB := Lib.hid (fin_setS (v := .slice A5 zn c5) X5.out B5.out (by first | exact Nat.le_refl _ | exact Nat.le_succ _) I5.out); clear x5 f5)
            | (have HFB := Lib.hid (fin_newS (v := .slice A5 zn c5) (T := 22) B5.out I5.out))
          go_wp2_with fail
          go_ret2
          exact HF.out _ (H2.out.2.1.trans (HFB.out.2.1.mono H2.out.2.1.size))
    · rw [if_pos q2] at hr1
      have HF := Lib.hid (fun w' hb => rf_fail (w := w) (w' := w') hr1 (by decide) hb)
      unfold RfPost
      unfold RfPost at HF
      clear hr1 hr2
      generalize rfl' l coins = X at *
      generalize rfe l coins = EE at *
      generalize coins.length = nc at *
      generalize hln : l.length = n at *
      clear hln
      have i1 : (0 : Int) < (n : Int) := by omega
      have hd1 : ((n : Int) != mn) = true := by simpa using q2
      go_enter Tryd.func8, Tryd.ntmps8
      go_wp2_with fail
      refine HC.out.mono ?_
      rintro e w1 ⟨rfl, hb1⟩
      have hbw := HB.out.1.trans (hb1.mono HB.out.1.size)
      have xl : w1.cell? ⟨w.heap.size, 0, none⟩ = some (.slice (some ⟨b, off, none⟩) n c) := (HB.out.2.below hb1).cell 0
      obtain ⟨D, cD, k0, k1, k2, k3, k4, hs1⟩ := HAT.out w1 hbw
      simp only [Nat.zero_mul, Nat.add_zero] at k0 k1 k2 k3 k4
      have hY2 := Box.new w1 #[.int .i64 ep, .int .i64 ix, .int .i64 th, .int .i64 mn, .slice D m cD] 36
      have hb2 : Below w1.heap.size w1 (w1.alloc (.cells #[.int .i64 ep, .int .i64 ix, .int .i64 th, .int .i64 mn, .slice D m cD] 36)) := (Below.refl _ w1).alloc (Nat.le_refl _) _
      have H2 := Lib.hid (And.intro hY2 (And.intro (hbw.trans (hb2.mono hbw.size)) ((HB.out.2.below hb1).below hb2)))
      have xl2 : (w1.alloc (.cells #[.int .i64 ep, .int .i64 ix, .int .i64 th, .int .i64 mn, .slice D m cD] 36)).cell? ⟨w.heap.size, 0, none⟩ = some (.slice (some ⟨b, off, none⟩) n c) := H2.out.2.2.cell 0
      have ym : (w1.alloc (.cells #[.int .i64 ep, .int .i64 ix, .int .i64 th, .int .i64 mn, .slice D m cD] 36)).cell? ⟨w1.heap.size, 3, none⟩ = some (.int .i64 mn) := H2.out.1.cell 3
      clear hb1 hbw hY2 hb2 hs1
      go_wp2_with fail
      go_ret2
      exact HF.out _ H2.out.2.1
  · have hr1 : rfe l coins = chk l := by
      cases l with
      | nil => rfl
      | cons a l => exact if_pos q1
    have HF := Lib.hid (fun w' hb => rf_fail (w := w) (w' := w') hr1 q1 hb)
    have hb1 : (chk l != 0) = true := by simpa using q1
    unfold RfPost
    unfold RfPost at HF
    clear hr1
    generalize rfl' l coins = X at *
    generalize rfe l coins = EE at *
    generalize chk l = E at *
    generalize coins.length = nc at *
    generalize l.length = n at *
    go_enter Tryd.func8, Tryd.ntmps8
    go_wp2_with fail
    refine HC.out.mono ?_
    rintro e w1 ⟨rfl, hb2⟩
    go_wp2_with fail
    go_ret2
    exact HF.out _ (HB.out.1.trans (hb2.mono HB.out.1.size))
end Go.Proofs.YtjkojjimlebmjaaDoor
