/- Explain. -/
import Derived.Test.YtjkojjimlebmjaaDoorExP
import Derived.Test.YtjkojjimlebmjaaDoorByColL
import Derived.Test.YtjkojjimlebmjaaDoorExR
import Derived.StillTailTactics
import Derived.Deep.QuietTactic
import Derived.BigQuiet
import Derived.Deep.RegionHeld3
namespace Go.Proofs.YtjkojjimlebmjaaDoor
open Go.RowKit
set_option linter.unusedVariables false

def ExPost (l : List Shr) (s : List UInt8) (w : World) (e : Ending) (w' : World) : Prop := ∃ A c, e = .returned (.tuple #[.slice A (ex l s).length c, .int .i64 (exe l s)]) ∧ Sl w' A (ex l s) c ∧ Below w.heap.size w w'

theorem ex_fail {l : List Shr} {s : List UInt8} {w w' : World} {e : Int} (he : exe l s = e) (hne : e ≠ 0) (hb : Below w.heap.size w w') : ExPost l s w (.returned (.tuple #[.slice none 0 0, .int .i64 e])) w' := by
  have hx : ex l s = [] := by unfold ex; rw [he, if_neg hne]
  exact ⟨none, 0, by rw [he, hx]; rfl, by rw [hx]; exact sl_none w', hb⟩

theorem Sl.capn {w : World} {A : Option Addr} {l : List UInt8} {c n : Nat} (h : Sl w A l c) (hn : l.length = n) (h0 : 0 < n) : Sl w A l n := by
  have h1 := h.2.1
  have h2 := h.2.2.1
  refine ⟨h.1, by omega, by omega, fun hA => ?_⟩
  have := (h.2.2.2 hA).1
  subst this
  simp at hn
  omega

theorem fin_box {w4 w7 : World} {Bx c7 : Nat} {u v : Value} {T : TypeId} {A7 : Option Addr} {L : List UInt8} (X : Box w7 Bx #[u] T) (B : Below w4.heap.size w4 w7) (hx : w4.heap.size ≤ Bx) (I : Sl w7 A7 L c7) (hne : ∀ b off, A7 = some ⟨b, off, none⟩ → Bx < b) :
    (w7.setCell ⟨Bx, 0, none⟩ v).cell? ⟨Bx, 0, none⟩ = some v ∧ Below w4.heap.size w4 (w7.setCell ⟨Bx, 0, none⟩ v) ∧ Sl (w7.setCell ⟨Bx, 0, none⟩ v) A7 L c7 :=
  ⟨by have := (X.set (i := 0) (v := v)).cell 0; simpa using this, B.setCell (p := ⟨Bx, 0, none⟩) hx v, I.keep (set_grown_at w7 Bx 0 v) (fun b off e => by have := hne b off e; simp; omega)⟩
theorem fin_new {w4 w7 : World} {c7 : Nat} {v : Value} {T : TypeId} {A7 : Option Addr} {L : List UInt8} (B : Below w4.heap.size w4 w7) (I : Sl w7 A7 L c7) :
    (w7.alloc (.cells #[v] T)).cell? ⟨w7.heap.size, 0, none⟩ = some v ∧ Below w4.heap.size w4 (w7.alloc (.cells #[v] T)) ∧ Sl (w7.alloc (.cells #[v] T)) A7 L c7 :=
  ⟨(Box.new w7 #[v] T).cell 0, B.alloc B.size _, I.up ((Below.refl _ w7).alloc (Nat.le_refl _) _)⟩

set_option maxHeartbeats 4000000 in
set_option maxRecDepth 100000 in
theorem explain_any (A As : Option Addr) (c cs : Nat) (l : List Shr) (s : List UInt8) (w : World) (hK : KT w) (hS : SS w A l c) (hs : Sl w As s cs) (hl : l.length ≤ 1000000) (hsl : s.length ≤ 1000000) :
    Calls Tryd.prog 6 #[.slice A l.length c, .slice As s.length cs] w (ExPost l s w) := by
  have hb0 : Below w.heap.size w (w.alloc (.cells #[.slice As s.length cs] 23)) := (Below.refl _ w).alloc (Nat.le_refl _) _
  have hbx := Box.new w #[.slice As s.length cs] 23
  have HC := Lib.hid (check_any A c l (w.alloc (.cells #[.slice As s.length cs] 23)) (hS.up hb0) hl)
  have HB := Lib.hid (And.intro hb0 hbx)
  have HS := Lib.hid (And.intro hS (And.intro hs hK))
  clear hS hs hK hb0 hbx
  by_cases q1 : chk l = 0
  · obtain ⟨ha, ho⟩ := chk_zero q1
    obtain ⟨s0, h0⟩ := alk_pos ha
    obtain ⟨⟨t1, t2, t3⟩, hd, hall⟩ := alk_facts ha h0
    obtain ⟨b, off, rfl, hb, hat⟩ := HS.out.1.1 (List.getElem?_eq_some_iff.1 h0).1
    have hat0 := hat 0 s0 h0
    obtain ⟨t, ht⟩ : ∃ t : Nat, s0.th = (t : Int) := ⟨s0.th.toNat, by omega⟩
    have htn : thn l = t := by unfold thn; rw [h0]; show s0.th.toNat = t; omega
    have hdn : dln l = s0.data.length := by unfold dln; rw [h0]; rfl
    have i0 : 0 < l.length := (List.getElem?_eq_some_iff.1 h0).1
    have he0 : exe l s = if t ≤ l.length then 60 else if s.length ≠ s0.data.length then 1 else 0 := by
      unfold exe
      rw [if_neg (fun h => h q1), htn, hdn]
    have HAT := Lib.hid hat0
    rw [q1] at HC
    obtain ⟨m, hm⟩ : ∃ m, s0.data.length = m := ⟨_, rfl⟩
    rw [hm] at he0 hdn hd
    have HM := Lib.hid hm
    have HALL := Lib.hid (And.intro ha (fun u hu => (hall u hu).1.2.2.trans hm))
    have HALL2 := Lib.hid (fun u hu => (hall u hu).2)
    have HDN := Lib.hid (And.intro htn hdn)
    have HL : Hid (l.length = l.length) := rfl
    clear hat0 hat hall ha ho h0 htn hdn hm q1
    have t8 : t ≤ 8 := by omega
    by_cases q2 : t ≤ l.length
    · rw [if_pos q2] at he0
      have HF := Lib.hid (fun w' hb => ex_fail (w := w) (w' := w') he0 (by decide) hb)
      unfold ExPost
      unfold ExPost at HF
      clear he0
      generalize ex l s = X at *
      generalize exe l s = E at *
      generalize s.length = sl at *
      generalize l.length = n at *
      have i2 : (t : Int) - (n : Int) ≤ 0 := by omega
      have i1 : (0 : Int) < (n : Int) := by omega
      go_enter Tryd.func6, Tryd.ntmps6
      go_wp2_with fail
      refine HC.out.mono ?_
      rintro e w1 ⟨rfl, hb1⟩
      have hbw := HB.out.1.trans (hb1.mono HB.out.1.size)
      have hb2 : Below w1.heap.size w1 (w1.alloc (.cells #[.int .i64 (n : Int)] 3)) := (Below.refl _ w1).alloc (Nat.le_refl _) _
      have hbw2 := hbw.trans (hb2.mono hbw.size)
      obtain ⟨A1, c1, k0, k1, k2, k3, k4, hs1⟩ := HAT.out.up hb hbw2
      have hnb : (w1.alloc (.cells #[.int .i64 (n : Int)] 3)).cell? ⟨w1.heap.size, 0, none⟩ = some (.int .i64 (n : Int)) := (Box.new w1 #[.int .i64 (n : Int)] 3).cell 0
      have hsb : (w1.alloc (.cells #[.int .i64 (n : Int)] 3)).cell? ⟨w.heap.size, 0, none⟩ = some (.slice As sl cs) := ((HB.out.2.below hb1).below hb2).cell 0
      simp only [Nat.zero_mul, Nat.add_zero] at k0 k1 k2 k3 k4
      rw [ht] at k2
      rw [HM.out] at k4
      have hz : (w1.alloc (.cells #[.int .i64 (n : Int)] 3)).heap.size = w1.heap.size + 1 := by simp
      have H2 := Lib.hid hbw2
      have hk2 := Lib.hid (And.intro k2 (And.intro hnb (And.intro hz (And.intro k4 hsb))))
      clear k0 k1 k3 k4 hs1 hbw2 hb2 hbw hb1 hsb hnb hz
      go_wp2_with fail
      clear k2
      obtain ⟨k2, hnb, hz, k4, hsb⟩ := hk2.out
      generalize w1.alloc (.cells #[.int .i64 (n : Int)] 3) = w2 at *
      have hwr : IntKind.i64.wrap ((t : Int) - (n : Int)) = ((t : Int) - (n : Int)) := by rw [IntKind.wrap_i64]; omega
      have n1 := World.new_ne w2 _ k2
      have n2 := World.new_ne w2 _ hnb
      go_region_held3 (fun w' => w'.cell? ⟨b, off + 2, none⟩ = some (.int .i64 (t : Int)) ∧ w'.cell? ⟨w1.heap.size, 0, none⟩ = some (.int .i64 (n : Int)))
        (first | exact ⟨k2, hnb⟩ | go_keep)
        (first | fail)
      have hb3 : Below w2.heap.size w2 (w2.alloc (.cells #[.int .i64 ((t : Int) - (n : Int))] 3)).drew := ((Below.refl _ w2).alloc (Nat.le_refl _) _).drew
      have hmb : (w2.alloc (.cells #[.int .i64 ((t : Int) - (n : Int))] 3)).drew.cell? ⟨w1.heap.size + 1, 0, none⟩ = some (.int .i64 ((t : Int) - (n : Int))) := by
        rw [← hz]
        exact (Box.new w2 #[.int .i64 ((t : Int) - (n : Int))] 3).drew.cell 0
      have hnb3 := (hb3.cell (p := ⟨w1.heap.size, 0, none⟩) (World.block_lt_of_cell? _ _ hnb)).trans hnb
      have hsb3 := (hb3.cell (p := ⟨w.heap.size, 0, none⟩) (World.block_lt_of_cell? _ _ hsb)).trans hsb
      have hk43 := (hb3.cell (p := ⟨b, off + 4, none⟩) (World.block_lt_of_cell? _ _ k4)).trans k4
      have H3 := Lib.hid (H2.out.trans (hb3.mono H2.out.size))
      clear k2 hnb hz k4 hsb n1 n2 hb3 hk2 hwr H2
      generalize (w2.alloc (.cells #[.int .i64 ((t : Int) - (n : Int))] 3)).drew = w3 at *
      clear hk43 hsb3 hnb3
      go_wp2_with fail
      go_ret2
      exact HF.out _ H3.out
    · rw [if_neg q2] at he0
      obtain ⟨q, hq⟩ : ∃ q, l.length + q = t := ⟨t - l.length, by omega⟩
      have hq0 : 0 < q := by omega
      by_cases q3 : s.length = m
      · rw [if_neg (fun h => h q3)] at he0
        have hex : ex l s = ((List.range m).map (exc l s q)).flatten := by
          unfold ex
          rw [if_pos he0, HDN.out.1, HDN.out.2, show t - l.length = q by omega]
        have HX := Lib.hid (And.intro hex he0)
        unfold ExPost
        clear hex he0 q2
        generalize hE : ex l s = X at *
        have HE := Lib.hid hE
        clear hE
        generalize exe l s = E at *
        generalize hsl2 : s.length = sl at *
        have HSL := Lib.hid hsl2
        subst q3
        clear hsl2
        generalize hln : l.length = n at *
        have HLN := Lib.hid hln
        clear hln
        have i2 : ¬ (q : Int) ≤ 0 := by omega
        have hp2 : 0 < n := i0
        have i1 : (0 : Int) < (n : Int) := by omega
        go_enter Tryd.func6, Tryd.ntmps6
        go_wp2_with fail
        refine HC.out.mono ?_
        rintro e w1 ⟨rfl, hb1⟩
        have hbw := HB.out.1.trans (hb1.mono HB.out.1.size)
        have hb2 : Below w1.heap.size w1 (w1.alloc (.cells #[.int .i64 (n : Int)] 3)) := (Below.refl _ w1).alloc (Nat.le_refl _) _
        have hbw2 := hbw.trans (hb2.mono hbw.size)
        obtain ⟨A1, c1, k0, k1, k2, k3, k4, hs1⟩ := HAT.out.up hb hbw2
        have hnb : (w1.alloc (.cells #[.int .i64 (n : Int)] 3)).cell? ⟨w1.heap.size, 0, none⟩ = some (.int .i64 (n : Int)) := (Box.new w1 #[.int .i64 (n : Int)] 3).cell 0
        have hsb : (w1.alloc (.cells #[.int .i64 (n : Int)] 3)).cell? ⟨w.heap.size, 0, none⟩ = some (.slice As sl cs) := ((HB.out.2.below hb1).below hb2).cell 0
        simp only [Nat.zero_mul, Nat.add_zero] at k0 k1 k2 k3 k4
        rw [ht] at k2
        rw [HM.out] at k4
        have hz : (w1.alloc (.cells #[.int .i64 (n : Int)] 3)).heap.size = w1.heap.size + 1 := by simp
        have H2 := Lib.hid hbw2
        have hk2 := Lib.hid (And.intro k2 (And.intro hnb (And.intro hz (And.intro k4 hsb))))
        clear k0 k1 k3 k4 hs1 hbw2 hb2 hbw hb1 hsb hnb hz
        go_wp2_with fail
        clear k2
        obtain ⟨k2, hnb, hz, k4, hsb⟩ := hk2.out
        generalize w1.alloc (.cells #[.int .i64 (n : Int)] 3) = w2 at *
        have hwr : IntKind.i64.wrap ((t : Int) - (n : Int)) = (q : Int) := by rw [IntKind.wrap_i64]; omega
        have n1 := World.new_ne w2 _ k2
        have n2 := World.new_ne w2 _ hnb
        go_region_held3 (fun w' => w'.cell? ⟨b, off + 2, none⟩ = some (.int .i64 (t : Int)) ∧ w'.cell? ⟨w1.heap.size, 0, none⟩ = some (.int .i64 (n : Int)))
          (first | exact ⟨k2, hnb⟩ | go_keep)
          (first | fail)
        have hb3 : Below w2.heap.size w2 (w2.alloc (.cells #[.int .i64 (q : Int)] 3)).drew := ((Below.refl _ w2).alloc (Nat.le_refl _) _).drew
        have hmb : (w2.alloc (.cells #[.int .i64 (q : Int)] 3)).drew.cell? ⟨w1.heap.size + 1, 0, none⟩ = some (.int .i64 (q : Int)) := by
          rw [← hz]
          exact (Box.new w2 #[.int .i64 (q : Int)] 3).drew.cell 0
        have hnb3 := (hb3.cell (p := ⟨w1.heap.size, 0, none⟩) (World.block_lt_of_cell? _ _ hnb)).trans hnb
        have hsb3 := (hb3.cell (p := ⟨w.heap.size, 0, none⟩) (World.block_lt_of_cell? _ _ hsb)).trans hsb
        have hk43 := (hb3.cell (p := ⟨b, off + 4, none⟩) (World.block_lt_of_cell? _ _ k4)).trans k4
        have H3 := Lib.hid (H2.out.trans (hb3.mono H2.out.size))
        clear k2 hnb hz k4 hsb n1 n2 hb3 hk2 hwr H2
        generalize (w2.alloc (.cells #[.int .i64 (q : Int)] 3)).drew = w3 at *
        go_wp2_with fail
        go_quiet (fail)
        have HW := Lib.hid (And.intro (H3.out.trans ((below_drewN w3 nq).mono H3.out.size)) (And.intro hmb (And.intro hnb3 hsb3)))
        clear hk43
        generalize hw4 : w3.drewN nq = w4 at *
        have hmb4 : w4.cell? ⟨w1.heap.size + 1, 0, none⟩ = some (.int .i64 (q : Int)) := by rw [← hw4]; exact hmb
        have hnb4 : w4.cell? ⟨w1.heap.size, 0, none⟩ = some (.int .i64 (n : Int)) := by rw [← hw4]; exact hnb3
        clear hmb hnb3 hsb3
        go_wp2_with fail
        have hsb4 : w4.cell? ⟨w.heap.size, 0, none⟩ = some (.slice As sl cs) := by rw [← hw4]; exact HW.out.2.2.2
        have HREST := Lib.hid (fun (Bx : Nat) W A9 c9 (hx : W.cell? ⟨Bx, 0, none⟩ = some (.slice A9 t c9)) (hbW : Below w4.heap.size w4 W) (hs9 : Sl W A9 (idxs l ++ oths q) c9) =>
          ex_rest (some ⟨b, off, none⟩) As A9 c cs c9 sl n q t (w1.heap.size + 1) w.heap.size Bx w1.heap.size l s W (HS.out.2.2.below (HW.out.1.trans (hbW.mono HW.out.1.size))) (HS.out.1.up (HW.out.1.trans (hbW.mono HW.out.1.size))) (HS.out.2.1.up (HW.out.1.trans (hbW.mono HW.out.1.size))) hs9
            ((hbW.cell (p := ⟨w1.heap.size + 1, 0, none⟩) (World.block_lt_of_cell? _ _ hmb4)).trans hmb4) ((hbW.cell (p := ⟨w.heap.size, 0, none⟩) (World.block_lt_of_cell? _ _ hsb4)).trans hsb4) hx ((hbW.cell (p := ⟨w1.heap.size, 0, none⟩) (World.block_lt_of_cell? _ _ hnb4)).trans hnb4)
            HLN.out HSL.out hq i0 hq0 t8 hd HALL.out.1 HALL.out.2)
        clear hsb4
        have HIX := Lib.hid (fun w' (hb' : Below w4.heap.size w4 w') => idx_any (some ⟨b, off, none⟩) c l w' (HS.out.1.up (HW.out.1.trans (hb'.mono HW.out.1.size))) (fun u hu => by have := HALL2.out u hu; omega) (by rw [HLN.out]; exact hl))
        rw [HLN.out] at HIX
        have HSK := Lib.hid (fun w' (h : Below w4.heap.size w4 w') => And.intro ((h.cell (p := ⟨w1.heap.size + 1, 0, none⟩) (World.block_lt_of_cell? _ _ hmb4)).trans hmb4) ((h.cell (p := ⟨w1.heap.size, 0, none⟩) (World.block_lt_of_cell? _ _ hnb4)).trans hnb4))
        have B4 := Lib.hid (Below.refl w4.heap.size w4).drew
        have HQ := Lib.hid hq
        have HIL := Lib.hid ((idxs_length l).trans HLN.out)
        have HOLN : Hid ((oths q).length = q) := oths_length q
        have HFLAT := Lib.hid (ex_flat l s sl q HALL.out.1 hq0 (by omega) hd (by rw [HLN.out]; omega))
        have j1 : (0 : Int) ≤ (n : Int) := by omega
        have hq8 : q ≤ 8 := by omega
        have ht8 : t ≤ 1000000 := by omega
        clear hq hw4 HC
        go_region_held3 (fun w' => w'.cell? ⟨w1.heap.size + 1, 0, none⟩ = some (.int .i64 (q : Int)) ∧ w'.cell? ⟨w1.heap.size, 0, none⟩ = some (.int .i64 (n : Int)))
          (with_reducible first | exact HSK.out _ B4.out | exact HSK.out _ B5.out | exact HSK.out _ B6.out | exact HSK.out _ B7.out | exact HSK.out _ (Bl.a (Below.refl _ _) _).drew | exact HSK.out _ (Bl.a B5.out _) | exact HSK.out _ (Bl.a B6.out _) | exact HSK.out _ (Bl.a B7.out _) | exact HSK.out _ (B7.out.setCell (by first | exact Nat.le_refl _ | exact B5.out.size | exact B6.out.size) _))
          (first
            | (go_at_call 14; (with_reducible refine (HIX.out _ (by with_reducible first | exact B4.out | exact (Bl.a (Below.refl _ _) _).drew)).mono ?_); rintro e w5 ⟨g5, c5, hg5, rfl, hO5, hb5⟩; rw [HIL.out]; have B5 := Lib.hid (bthen (a := w4) (by with_reducible first | exact B4.out | exact (Bl.a (Below.refl _ _) _).drew) hb5); have I5 := Lib.hid hO5.sl; have k5 : (n : Int) ≤ (c5 : Int) := (by have h := I5.out.2.1; rw [HIL.out] at h; omega); (first | (have X5 := Lib.hid (Box.below (Box.drew (Box.new w4 #[.slice none 0 0] 23)) hb5)) | skip); clear hb5 hO5 hg5)
            | (go_at_call 15; (with_reducible refine (oth_any q (by omega) _).mono ?_); rintro e w6 ⟨g6, c6, hg6, rfl, hO6, hb6⟩; rw [HOLN.out]; have hb56 := bthen (a := w5) (by with_reducible first | exact Below.refl _ _ | exact Bl.a (Below.refl _ _) _) hb6; have B6 := Lib.hid (bthen B5.out hb56); have I6 := Lib.hid (And.intro (I5.out.up hb56) hO6.sl); (first | (have X6 := Lib.hid (X5.out.below hb56)) | (have X6 := Lib.hid (Box.below (Box.new w5 #[.slice none 0 0] 23) hb6)) | skip); clear hb6 hb56 hO6 hg6)
            | (refine step_append_two (by rfl) (.tmp 37) (.tmp 39) (by rfl) (some ⟨g5, 0, none⟩) (idxs l) n n HIL.out (by rfl) (Sl.capn (I6.out.1.up (by with_reducible first | exact Below.refl _ _ | exact Bl.a (Below.refl _ _) _)) HIL.out hp2) (some ⟨g6, 0, none⟩) (oths q) q c6 HOLN.out (by rfl) (I6.out.2.up (by with_reducible first | exact Below.refl _ _ | exact Bl.a (Below.refl _ _) _)) hq0 (by omega) t HQ.out ht8 ?_; intro A7 c7 w7 ho7 hb7; have hb67 := bthen (a := w6) (by with_reducible first | exact Below.refl _ _ | exact Bl.a (Below.refl _ _) _) hb7; have B7 := Lib.hid (bthen B6.out hb67); have I7 := Lib.hid (Sl.of_own' ho7 (by rw [List.length_append, HIL.out, HOLN.out]; exact HQ.out.symm)); have L7 := Lib.hid (fun b off (e : A7 = some ⟨b, off, none⟩) => (World.ownsRow.lt ho7 b (by rw [e]; rfl)).1); (first | (have X7 := Lib.hid (X6.out.below hb67)) | (have X7 := Lib.hid (Box.below (Box.new w6 #[.slice none 0 0] 23) hb7)) | skip); clear hb7 hb67 ho7; (first | (have x7 := X7.out.cell 0; have f7 := X7.out.frozen 0) | skip))
            | fail)
        all_goals
          first
            | (have HFB := Lib.hid (fin_box (v := .slice A7 t c7) X7.out B7.out (by first | exact Nat.le_refl _ | exact B5.out.size | exact B6.out.size) I7.out (fun b off e => by have h7 := L7.out b off e; (try simp only [World.size_alloc] at h7); first | omega | (have h6 := X6.out.lt; omega))); clear x7 f7)
            | (have HFB := Lib.hid (fin_new (v := .slice A7 t c7) (T := 23) B7.out I7.out))
          have HE9 := Lib.hid (HREST.out _ _ A7 c7 HFB.out.1 HFB.out.2.1 HFB.out.2.2)
          clear k5
          have hc9 := HFB.out.1
          go_wp2_with fail
          (with_reducible refine HE9.out.mono ?_)
          rintro e w9 ⟨g9, c9, hg9, rfl, hR9, hb9⟩
          have hcat := cat_any (some ⟨g9, 0, none⟩) c9 _ w9 hR9 (by rw [HFLAT.out.1]; omega) HFLAT.out.2
          rw [HFLAT.out.1, ← HX.out.1] at hcat
          rw [HFLAT.out.1]
          have H9 := Lib.hid (And.intro hcat (HW.out.1.trans ((HFB.out.2.1.trans (hb9.mono HFB.out.2.1.size)).mono HW.out.1.size)))
          clear hcat hR9 hb9 hc9
          go_wp2_with fail
          (with_reducible refine H9.out.1.mono ?_)
          rintro e w10 ⟨A10, c10, rfl, hs10, hb10⟩
          go_wp2_with fail
          go_ret2
          exact ⟨A10, c10, by rw [HX.out.2]; rfl, hs10, H9.out.2.trans (hb10.mono H9.out.2.size)⟩
      · rw [if_pos q3] at he0
        have HF := Lib.hid (fun w' hb => ex_fail (w := w) (w' := w') he0 (by decide) hb)
        unfold ExPost
        unfold ExPost at HF
        clear he0 q2
        generalize ex l s = X at *
        generalize exe l s = E at *
        generalize s.length = sl at *
        generalize l.length = n at *
        have i2 : ¬ (q : Int) ≤ 0 := by omega
        have i3 : ((sl : Int) != (m : Int)) = true := by simp; omega
        have hp2 : 0 < n := i0
        have i1 : (0 : Int) < (n : Int) := by omega
        go_enter Tryd.func6, Tryd.ntmps6
        go_wp2_with fail
        refine HC.out.mono ?_
        rintro e w1 ⟨rfl, hb1⟩
        have hbw := HB.out.1.trans (hb1.mono HB.out.1.size)
        have hb2 : Below w1.heap.size w1 (w1.alloc (.cells #[.int .i64 (n : Int)] 3)) := (Below.refl _ w1).alloc (Nat.le_refl _) _
        have hbw2 := hbw.trans (hb2.mono hbw.size)
        obtain ⟨A1, c1, k0, k1, k2, k3, k4, hs1⟩ := HAT.out.up hb hbw2
        have hnb : (w1.alloc (.cells #[.int .i64 (n : Int)] 3)).cell? ⟨w1.heap.size, 0, none⟩ = some (.int .i64 (n : Int)) := (Box.new w1 #[.int .i64 (n : Int)] 3).cell 0
        have hsb : (w1.alloc (.cells #[.int .i64 (n : Int)] 3)).cell? ⟨w.heap.size, 0, none⟩ = some (.slice As sl cs) := ((HB.out.2.below hb1).below hb2).cell 0
        simp only [Nat.zero_mul, Nat.add_zero] at k0 k1 k2 k3 k4
        rw [ht] at k2
        rw [HM.out] at k4
        have hz : (w1.alloc (.cells #[.int .i64 (n : Int)] 3)).heap.size = w1.heap.size + 1 := by simp
        have H2 := Lib.hid hbw2
        have hk2 := Lib.hid (And.intro k2 (And.intro hnb (And.intro hz (And.intro k4 hsb))))
        clear k0 k1 k3 k4 hs1 hbw2 hb2 hbw hb1 hsb hnb hz
        go_wp2_with fail
        clear k2
        obtain ⟨k2, hnb, hz, k4, hsb⟩ := hk2.out
        generalize w1.alloc (.cells #[.int .i64 (n : Int)] 3) = w2 at *
        have hwr : IntKind.i64.wrap ((t : Int) - (n : Int)) = (q : Int) := by rw [IntKind.wrap_i64]; omega
        have n1 := World.new_ne w2 _ k2
        have n2 := World.new_ne w2 _ hnb
        go_region_held3 (fun w' => w'.cell? ⟨b, off + 2, none⟩ = some (.int .i64 (t : Int)) ∧ w'.cell? ⟨w1.heap.size, 0, none⟩ = some (.int .i64 (n : Int)))
          (first | exact ⟨k2, hnb⟩ | go_keep)
          (first | fail)
        have hb3 : Below w2.heap.size w2 (w2.alloc (.cells #[.int .i64 (q : Int)] 3)).drew := ((Below.refl _ w2).alloc (Nat.le_refl _) _).drew
        have hmb : (w2.alloc (.cells #[.int .i64 (q : Int)] 3)).drew.cell? ⟨w1.heap.size + 1, 0, none⟩ = some (.int .i64 (q : Int)) := by
          rw [← hz]
          exact (Box.new w2 #[.int .i64 (q : Int)] 3).drew.cell 0
        have hnb3 := (hb3.cell (p := ⟨w1.heap.size, 0, none⟩) (World.block_lt_of_cell? _ _ hnb)).trans hnb
        have hsb3 := (hb3.cell (p := ⟨w.heap.size, 0, none⟩) (World.block_lt_of_cell? _ _ hsb)).trans hsb
        have hk43 := (hb3.cell (p := ⟨b, off + 4, none⟩) (World.block_lt_of_cell? _ _ k4)).trans k4
        have H3 := Lib.hid (H2.out.trans (hb3.mono H2.out.size))
        clear k2 hnb hz k4 hsb n1 n2 hb3 hk2 hwr H2
        generalize (w2.alloc (.cells #[.int .i64 (q : Int)] 3)).drew = w3 at *
        go_wp2_with fail
        go_quiet (fail)
        go_wp2_with fail
        go_ret2
        exact HF.out _ (H3.out.trans ((below_drewN _ _).mono H3.out.size))
  · have he : exe l s = chk l := if_pos q1
    have HF := Lib.hid (fun w' hb => ex_fail (w := w) (w' := w') he q1 hb)
    have hb1 : (chk l != 0) = true := by simpa using q1
    unfold ExPost
    unfold ExPost at HF
    clear he
    generalize ex l s = X at *
    generalize exe l s = EE at *
    generalize chk l = E at *
    generalize s.length = sl at *
    generalize l.length = n at *
    go_enter Tryd.func6, Tryd.ntmps6
    go_wp2_with fail
    refine HC.out.mono ?_
    rintro e w1 ⟨rfl, hb2⟩
    go_wp2_with fail
    go_ret2
    exact HF.out _ (HB.out.1.trans (hb2.mono HB.out.1.size))
end Go.Proofs.YtjkojjimlebmjaaDoor
