import Derived.Test.YtkihimafeonibaaReadL
namespace Go.Proofs.Ytkihimafeonibaa
open Go.RowKit
set_option linter.unusedVariables false

theorem Box.grown {w w' : World} {b rd : Nat} {cs : Array Value} {t : TypeId} (h : Box w b cs t) (hg : w.grownBy w' (some rd)) (hne : b ≠ rd) : Box w' b cs t :=
  (hg.block b (heap_lt h) (fun e => hne (by injection e))).trans h

/-- What list reads where so much room is left. -/
def p3 (room : Nat) (l : List UInt8) : Option (List T × List UInt8) :=
  match room with
  | 0 => none
  | r + 1 => plist (pval r) (pn 0 0 l)

def zeroV : Array Value := #[.int .i64 0, .int .i64 0, .string ⟨#[]⟩, .slice none 0 0]

/-- The end of value: what has been read lies in the result's variable. -/
theorem RS.set_other {rd g : Nat} {w : World} {l : List UInt8} (h : RS rd w l) (hg : rd < g) (o : Nat) (v : Value) : RS rd (w.setCell ⟨g, o, none⟩ v) l :=
  h.keep fun k hk => Below.heap_setCell _ _ _ _ (by show k ≠ g; omega)

def set4 (w : World) (g : Nat) (a b c d : Value) : World := (((w.setCell ⟨g, 0, none⟩ a).setCell ⟨g, 1, none⟩ b).setCell ⟨g, 2, none⟩ c).setCell ⟨g, 3, none⟩ d
theorem set4_other (w : World) (g : Nat) (a b c d : Value) (k : Nat) (hk : k ≠ g) : (set4 w g a b c d).heap[k]? = w.heap[k]? := by
  unfold set4
  rw [Below.heap_setCell _ _ _ _ hk, Below.heap_setCell _ _ _ _ hk, Below.heap_setCell _ _ _ _ hk, Below.heap_setCell _ _ _ _ hk]
theorem set4_box {w : World} {g : Nat} {t : TypeId} {z0 z1 z2 z3 : Value} (h : Box w g #[z0, z1, z2, z3] t) (a b c d : Value) : Box (set4 w g a b c d) g #[a, b, c, d] t := by
  unfold Box at *
  unfold set4
  simp [World.setCell, Array.getElem?_modify, h]
theorem set4_grown (w : World) (g : Nat) (a b c d : Value) : w.grownBy (set4 w g a b c d) (some g) :=
  ⟨rfl, rfl, rfl, by unfold set4; simp [World.setCell], fun k _ hk => set4_other w g a b c d k (fun e => hk (by rw [e]))⟩
/-- The end of value: its result has been stored. -/
theorem fin4 {rd : Nat} {w w2 : World} {l1 : List UInt8} {t : TypeId} {z0 z1 z2 z3 : Value} (hgg : w.grownBy w2 (some rd)) (q2 : Box w2 w.heap.size #[z0, z1, z2, z3] t) (hR2 : RS rd w2 l1) (hrd : rd < w.heap.size) (a b c d : Value) :
    RS rd (set4 w2 w.heap.size a b c d) l1 ∧ w.grownBy (set4 w2 w.heap.size a b c d) (some rd) ∧
    (set4 w2 w.heap.size a b c d).cell? ⟨w.heap.size, 0, none⟩ = some a ∧ (set4 w2 w.heap.size a b c d).cell? ⟨w.heap.size, 1, none⟩ = some b ∧
    (set4 w2 w.heap.size a b c d).cell? ⟨w.heap.size, 2, none⟩ = some c ∧ (set4 w2 w.heap.size a b c d).cell? ⟨w.heap.size, 3, none⟩ = some d := by
  have hb := set4_box q2 a b c d
  exact ⟨hR2.keep fun k hk => set4_other _ _ _ _ _ _ k (by omega), grown_own hgg (set4_grown _ _ _ _ _ _) (fun i hi => by injection hi with hi; omega), hb.cell 0, hb.cell 1, hb.cell 2, hb.cell 3⟩

set_option maxHeartbeats 400000 in
set_option maxRecDepth 100000 in
theorem value_any0 (rd : Nat) (room : Nat) (l : List UInt8) (w : World) (hR : RS rd w l) (hl : l.length ≤ 1000000) (hroom : room ≤ 1000)
    (hL : ∀ (l : List UInt8) (w : World), RS rd w l → l.length ≤ 1000000 → Calls Try.prog 49 #[.pointer (some ⟨rd, 0, none⟩), .int .i64 room] w (LPost rd w (p3 room l))) :
    Calls Try.prog 35 #[.pointer (some ⟨rd, 0, none⟩), .int .i64 room] w (VPost rd w (pval room l)) := by
  have hrd := hR.lt
  have hR0 : RS rd (w.alloc (.cells zeroV 24)) l := hR.keep fun k hk => ((Below.refl w.heap.size w).alloc (Nat.le_refl _) _).block k (by omega)
  have hg0 := World.grownBy_alloc w (.cells zeroV 24) (some rd)
  have q0 := Box.new w zeroV 24
  have HL := Lib.hid hL
  clear hL hR
  unfold zeroV at *
  cases l with
  | nil =>
    have hx : pval room [] = none := by cases room <;> rfl
    have HX := Lib.hid hx
    have HC := Lib.hid (next_bad rd _ hR0)
    clear hx hR0
    go_enter Try.func35, Try.ntmps35
    go_wp2_with fail
    refine HC.out.mono ?_
    rintro e w1 ⟨rfl, hg1⟩
    go_wp2_with fail
    exact ⟨rfl, by rw [HX.out]; exact ⟨rfl, grown_trans hg0 hg1⟩⟩
  | cons b l =>
    have hb : (b.toNat : Int) < 256 := by have := b.toNat_lt; omega
    have HC := Lib.hid (next_good rd b l _ hR0)
    simp only [List.length_cons] at hl
    by_cases b1 : b.toNat = 1
    · have hx : pval room (b :: l) = pint (pn 0 0 l) := by cases room <;> simp [pval, b1]
      have HX := Lib.hid hx
      have hbi : bv b = .int .u8 1 := by unfold bv; rw [b1]; rfl
      have HBI := Lib.hid hbi
      clear hx hbi hR0 b1 hb HL
      go_enter Try.func35, Try.ntmps35
      go_wp2_with fail
      refine HC.out.mono ?_
      rintro e w1 ⟨rfl, hR1, hg1⟩
      have q1 := q0.grown hg1 (by omega)
      have HN := Lib.hid (rnum_any rd l w1 hR1)
      clear HC hR1
      rw [HBI.out]
      go_wp2_with fail
      refine HN.out.mono ?_
      intro e w2 hq
      cases hO : pn 0 0 l with
      | none =>
        rw [hO] at hq
        obtain ⟨rfl, hg2⟩ := hq
        have HO := Lib.hid hO
        clear hO HN
        go_wp2_with fail
        exact ⟨rfl, by rw [HX.out, HO.out]; exact ⟨rfl, grown_trans (grown_trans hg0 hg1) hg2⟩⟩
      | some x =>
        obtain ⟨u, l1⟩ := x
        rw [hO] at hq
        obtain ⟨rfl, hR2, hg2⟩ := hq
        simp only at hR2
        have hu := pn_lt hO
        have q2 := q1.grown hg2 (by omega)
        have c20 : w2.cell? ⟨w.heap.size, 0, none⟩ = some (.int .i64 0) := q2.cell 0
        have c21 : w2.cell? ⟨w.heap.size, 1, none⟩ = some (.int .i64 0) := q2.cell 1
        have c22 : w2.cell? ⟨w.heap.size, 2, none⟩ = some (.string ⟨#[]⟩) := q2.cell 2
        have c23 : w2.cell? ⟨w.heap.size, 3, none⟩ = some (.slice none 0 0) := q2.cell 3
        have f2 : ∀ i, w2.frozen? ⟨w.heap.size, i, none⟩ = false := fun i => by simp [World.frozen?, show w2.heap[w.heap.size]? = _ from q2]
        have HS := Lib.hid (signed_any u w2 (by omega))
        have HO := Lib.hid hO
        have hgg := grown_trans (grown_trans hg0 hg1) hg2
        have hfit := sgn_fit hu.1
        have HFIT := Lib.hid hfit
        unfold Fit at hfit
        clear hO hu q0 q1 hg0 hg1 hg2 HN
        go_wp2_with fail
        refine HS.out.mono ?_
        rintro e w3 ⟨rfl, rfl⟩
        clear HS
        go_wp2_with fail
        have hf4 := fin4 hgg q2 hR2 hrd (.int .i64 1) (.int .i64 (sgn u)) (.string ⟨#[]⟩) (.slice none 0 0)
        obtain ⟨k0, k1, k2, k3, k4, k5⟩ := hf4
        refine bodyPost_ret (v := .agg #[.int .i64 1, .int .i64 (sgn u), .string ⟨#[]⟩, .slice none 0 0]) ?_ rfl ?_
        · unfold set4 at k2 k3 k4 k5
          simp [results, Try.results35, go_sem, k2, k3, k4, k5]
        · rw [HX.out, HO.out]
          exact ⟨_, rfl, RdQ.int _ _ _ HFIT.out, k0, k1⟩
    by_cases b2 : b.toNat = 2
    · have hx : pval room (b :: l) = ptext (pn 0 0 l) := by cases room <;> simp [pval, b2]
      have HX := Lib.hid hx
      have hbi : bv b = .int .u8 2 := by unfold bv; rw [b2]; rfl
      have HBI := Lib.hid hbi
      clear hx hbi hR0 b1 b2 hb HL
      go_enter Try.func35, Try.ntmps35
      go_wp2_with fail
      refine HC.out.mono ?_
      rintro e w1 ⟨rfl, hR1, hg1⟩
      have q1 := q0.grown hg1 (by omega)
      have HN := Lib.hid (rnum_any rd l w1 hR1)
      clear HC hR1
      rw [HBI.out]
      go_wp2_with fail
      refine HN.out.mono ?_
      intro e w2 hq
      cases hO : pn 0 0 l with
      | none =>
        rw [hO] at hq
        obtain ⟨rfl, hg2⟩ := hq
        have HO := Lib.hid hO
        clear hO HN
        go_wp2_with fail
        exact ⟨rfl, by rw [HX.out, HO.out]; exact ⟨rfl, grown_trans (grown_trans hg0 hg1) hg2⟩⟩
      | some x =>
        obtain ⟨u, l1⟩ := x
        rw [hO] at hq
        obtain ⟨rfl, hR2, hg2⟩ := hq
        simp only at hR2
        have hu := pn_lt hO
        have hgg := grown_trans (grown_trans hg0 hg1) hg2
        have q2 := q1.grown hg2 (by omega)
        have HO := Lib.hid hO
        by_cases hlt : l1.length < u
        · have HT := Lib.hid (take_bad rd u l1 w2 hR2 hlt (by omega))
          have hx2 : pval room (b :: l) = none := by rw [HX.out, HO.out]; simp only [ptext]; rw [if_pos hlt]
          have HX2 := Lib.hid hx2
          clear hx2 HN hO hu hlt q0 q1 q2 hR2
          go_wp2_with fail
          refine HT.out.mono ?_
          rintro e w3 ⟨rfl, hg3⟩
          go_wp2_with fail
          exact ⟨rfl, by rw [HX2.out]; exact ⟨rfl, grown_trans hgg hg3⟩⟩
        · have HT := Lib.hid (take_good rd u l1 w2 hR2 (by omega))
          have hx2 : pval room (b :: l) = some (tText (l1.take u), l1.drop u) := by rw [HX.out, HO.out]; simp only [ptext]; rw [if_neg hlt]
          have HX2 := Lib.hid hx2
          have htl : (l1.take u).length = u := by rw [List.length_take]; omega
          have HTL := Lib.hid htl
          have hle : (l1.take u).length ≤ maxLen := le_maxLen (by omega)
          have HLE := Lib.hid hle
          have huI : (u : Int) ≤ 1000000 := by omega
          clear hx2 HN hO hu hlt q0 q1 hR2 htl hle
          go_wp2_with fail
          refine HT.out.mono ?_
          rintro e w3 ⟨A, c, rfl, hB3, hR3, hg3⟩
          have q2 := q2.grown hg3 (by omega)
          have hgg := grown_trans hgg hg3
          have hcv := conv_bs c hB3
          rw [HTL.out] at hcv
          have hrt := RdQ.text (w.heap.size ≤ ·) (set4 w3 w.heap.size (.int .i64 2) (.int .i64 0) (.string ⟨(l1.take u).toArray⟩) (.slice none 0 0)) (l1.take u) HLE.out
          have HRT := Lib.hid hrt
          clear hrt
          generalize (⟨(l1.take u).toArray⟩ : ByteArray) = str at *
          have c20 : w3.cell? ⟨w.heap.size, 0, none⟩ = some (.int .i64 0) := q2.cell 0
          have c21 : w3.cell? ⟨w.heap.size, 1, none⟩ = some (.int .i64 0) := q2.cell 1
          have c22 : w3.cell? ⟨w.heap.size, 2, none⟩ = some (.string ⟨#[]⟩) := q2.cell 2
          have c23 : w3.cell? ⟨w.heap.size, 3, none⟩ = some (.slice none 0 0) := q2.cell 3
          have f2 : ∀ i, w3.frozen? ⟨w.heap.size, i, none⟩ = false := fun i => by simp [World.frozen?, show w3.heap[w.heap.size]? = _ from q2]
          clear HT hg0 hg1 hg2 hg3 hB3
          go_wp2_with fail
          have hf4 := fin4 hgg q2 hR3 hrd (.int .i64 2) (.int .i64 0) (.string str) (.slice none 0 0)
          obtain ⟨k0, k1, k2, k3, k4, k5⟩ := hf4
          refine bodyPost_ret (v := .agg #[.int .i64 2, .int .i64 0, .string str, .slice none 0 0]) ?_ rfl ?_
          · unfold set4 at k2 k3 k4 k5
            simp [results, Try.results35, go_sem, k2, k3, k4, k5]
          · rw [HX2.out]
            exact ⟨_, rfl, HRT.out, k0, k1⟩
    by_cases b3 : b.toNat = 3
    · have hx : pval room (b :: l) = tlist (p3 room l) := by cases room <;> simp [pval, b3, tlist, p3]
      have HX := Lib.hid hx
      have hbi : bv b = .int .u8 3 := by unfold bv; rw [b3]; rfl
      have HBI := Lib.hid hbi
      have hL := HL.out l
      generalize p3 room l = O3 at *
      have HL3 := Lib.hid hL
      clear hx hbi hR0 b1 b2 b3 hb HL hL
      go_enter Try.func35, Try.ntmps35
      go_wp2_with fail
      refine HC.out.mono ?_
      rintro e w1 ⟨rfl, hR1, hg1⟩
      have q1 := q0.grown hg1 (by omega)
      have hz1 := q1.lt
      have HN := Lib.hid (HL3.out w1 hR1 (by omega))
      clear HC hR1 HL3
      rw [HBI.out]
      go_wp2_with fail
      refine HN.out.mono ?_
      intro e w2 hq
      cases O3 with
      | none =>
        obtain ⟨rfl, hg2⟩ := hq
        clear HN
        go_wp2_with fail
        exact ⟨rfl, by rw [HX.out]; exact ⟨rfl, grown_trans (grown_trans hg0 hg1) hg2⟩⟩
      | some x =>
        obtain ⟨ts, l1⟩ := x
        obtain ⟨A, c, xs, rfl, ho, hrow, hR2, hg2⟩ := hq
        simp only at ho hrow hR2
        have hgg := grown_trans (grown_trans hg0 hg1) hg2
        have q2 := q1.grown hg2 (by omega)
        have hol := ho.lt
        have hk := set4_grown w2 w.heap.size (.int .i64 3) (.int .i64 0) (.string ⟨#[]⟩) (.slice A ts.length c)
        have hlm : ts.length ≤ maxLen := by
          rcases ho.2 with ⟨_, h⟩ | ⟨g, cap, cur, _, _, _, h1, h2, _⟩
          · rw [h]; exact Nat.zero_le _
          · omega
        have hrt : RdQ (w.heap.size ≤ ·) (set4 w2 w.heap.size (.int .i64 3) (.int .i64 0) (.string ⟨#[]⟩) (.slice A ts.length c)) (tList ts) (.agg #[.int .i64 3, .int .i64 0, .string ⟨#[]⟩, .slice A ts.length c]) := by
          refine RowT.list (Q := (w1.heap.size ≤ ·)) (base := w1.heap.size) (hrow.keep (Q' := (w1.heap.size ≤ ·)) fun b hb _ => ⟨hb, set4_other _ _ _ _ _ _ b (by omega)⟩) (ho.kept hk (.inr (fun e => by have := hol _ e; omega))) hlm (fun b hb => by omega) (fun b hb => by omega)
        have HRT := Lib.hid hrt
        have c20 : w2.cell? ⟨w.heap.size, 0, none⟩ = some (.int .i64 0) := q2.cell 0
        have c21 : w2.cell? ⟨w.heap.size, 1, none⟩ = some (.int .i64 0) := q2.cell 1
        have c22 : w2.cell? ⟨w.heap.size, 2, none⟩ = some (.string ⟨#[]⟩) := q2.cell 2
        have c23 : w2.cell? ⟨w.heap.size, 3, none⟩ = some (.slice none 0 0) := q2.cell 3
        have f2 : ∀ i, w2.frozen? ⟨w.heap.size, i, none⟩ = false := fun i => by simp [World.frozen?, show w2.heap[w.heap.size]? = _ from q2]
        have hf4 := fin4 hgg q2 hR2 hrd (.int .i64 3) (.int .i64 0) (.string ⟨#[]⟩) (.slice A ts.length c)
        have HF4 := Lib.hid hf4
        clear hf4 hrt hk hlm hol ho hrow hg0 hg1 hg2 q1 HN
        go_wp2_with fail
        obtain ⟨k0, k1, k2, k3, k4, k5⟩ := HF4.out
        refine bodyPost_ret (v := .agg #[.int .i64 3, .int .i64 0, .string ⟨#[]⟩, .slice A ts.length c]) ?_ rfl ?_
        · unfold set4 at k2 k3 k4 k5
          simp [results, Try.results35, go_sem, k2, k3, k4, k5]
        · rw [HX.out]
          exact ⟨_, rfl, HRT.out, k0, k1⟩
    · have hx : pval room (b :: l) = none := by cases room <;> simp [pval, b1, b2, b3]
      have HX := Lib.hid hx
      have hb1 : ((b.toNat : Int) == 1) = false := by simp; omega
      have hb2 : ((b.toNat : Int) == 2) = false := by simp; omega
      have hb3 : ((b.toNat : Int) == 3) = false := by simp; omega
      have hb0 : (0 : Int) ≤ (b.toNat : Int) := by omega
      clear hx hR0 b1 b2 b3 HL
      go_enter Try.func35, Try.ntmps35
      go_wp2_with fail
      refine HC.out.mono ?_
      rintro e w1 ⟨rfl, hR1, hg1⟩
      clear HC
      unfold bv
      go_wp2_with fail
      exact ⟨rfl, by rw [HX.out]; exact ⟨rfl, grown_trans hg0 hg1⟩⟩

theorem value_any1 (rd : Nat) : ∀ (room : Nat) (l : List UInt8) (w : World), room ≤ 16 → RS rd w l → l.length ≤ 1000000 →
    Calls Try.prog 35 #[.pointer (some ⟨rd, 0, none⟩), .int .i64 room] w (VPost rd w (pval room l)) := by
  intro room
  induction room with
  | zero => exact fun l w _ hR hl => value_any0 rd 0 l w hR hl (by omega) (fun l w _ _ => list_bad rd w)
  | succ r ih =>
    intro l w hr hR hl
    refine value_any0 rd (r + 1) l w hR hl (by omega) (fun l w hR hl => ?_)
    have := list_any rd ((r + 1 : Nat) : Int) l (pval r) w hR hl (by omega) (by omega) (pval_len r) (fun l w hR hl => by
      have h := ih l w (by omega) hR hl
      rw [show (((r + 1 : Nat) : Int) - 1) = (r : Int) by omega]
      exact h)
    exact this
end Go.Proofs.Ytkihimafeonibaa
