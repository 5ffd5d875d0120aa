/- Join. -/
import Derived.Test.YtjkojjimlebmjaaDoorByCol
import Derived.Test.YtjkojjimlebmjaaDoorCheck
namespace Go.Proofs.YtjkojjimlebmjaaDoor
open Go.RowKit
set_option linter.unusedVariables false

theorem alkFrom_mem {o : Shr} : ∀ {l : List Shr} {b : Int}, alkFrom o b l = true → ∀ s ∈ l, (s.th = o.th ∧ s.mn = o.mn ∧ s.data.length = o.data.length) ∧ b < s.ix ∧ s.ix ≤ s.mn
  | [], _, _, s, hs => by cases hs
  | a :: l, b, h, s, hs => by
    simp only [alkFrom, Bool.and_eq_true, decide_eq_true_eq, same1] at h
    rcases List.mem_cons.1 hs with rfl | hs
    · exact ⟨h.1.1.1, h.1.1.2, h.1.2⟩
    · have := alkFrom_mem h.2 s hs
      exact ⟨this.1, by have := h.1.1.2; omega, this.2.2⟩
/-- What alike shares are like. -/
theorem alk_facts {l : List Shr} {s0 : Shr} (h : alk l = true) (h0 : l[0]? = some s0) : (1 ≤ s0.th ∧ s0.th ≤ s0.mn ∧ s0.mn ≤ 8) ∧ s0.data.length ≤ 64 ∧ ∀ s ∈ l, (s.th = s0.th ∧ s.mn = s0.mn ∧ s.data.length = s0.data.length) ∧ 0 < s.ix ∧ s.ix ≤ 8 := by
  rw [alk_cons h0] at h
  simp only [Bool.and_eq_true, decide_eq_true_eq] at h
  refine ⟨h.1.1, h.1.2, fun s hs => ?_⟩
  have := alkFrom_mem h.2 s hs
  exact ⟨this.1, this.2.1, by have h1 := this.2.2; have h2 := this.1.2.1; have := h.1.1.2.2; omega⟩
theorem chk_zero {l : List Shr} (h : chk l = 0) : alk l = true ∧ onee l = true := by
  unfold chk at h
  split at h
  · omega
  · rename_i h1
    split at h
    · omega
    · rename_i h2
      exact ⟨by simpa using h1, by simpa using h2⟩
theorem SS.take {w : World} {A : Option Addr} {l : List Shr} {c : Nat} (h : SS w A l c) (t : Nat) (ht : t ≤ l.length) : SS w A (l.take t) t := by
  have h1 := h.2.1
  have h2 := h.2.2.1
  refine ⟨fun hp => ?_, by simp; omega, by omega, fun hA => ?_⟩
  · rw [List.length_take] at hp
    obtain ⟨b, off, e, hb, hs⟩ := h.1 (by omega)
    refine ⟨b, off, e, hb, fun i s hi => hs i s ?_⟩
    rw [List.getElem?_take] at hi
    split at hi
    · exact hi
    · cases hi
  · have := (h.2.2.2 hA).1
    subst this
    simp at ht
    exact ⟨by simp, ht⟩

/-- The first shares, as many as are needed. -/
def fsts (l : List Shr) : List Shr := l.take ((l[0]?.map Shr.th).getD 0).toNat
/-- Join's error, and its secret. -/
def jne (l : List Shr) : Int := if chk l ≠ 0 then chk l else if (l.length : Int) < (l[0]?.map Shr.th).getD 0 then 60 else 0
def jn (l : List Shr) : List UInt8 := if jne l = 0 then (List.range ((l[0]?.map (·.data.length)).getD 0)).map fun place => hv (co (idxs (fsts l)) (colm (fsts l) place)) 0 else []
def JoinPost (l : List Shr) (w : World) (e : Ending) (w' : World) : Prop := ∃ A c, e = .returned (.tuple #[.slice A (jn l).length c, .int .i64 (jne l)]) ∧ Sl w' A (jn l) c ∧ Below w.heap.size w w'

set_option maxHeartbeats 1000000 in
set_option maxRecDepth 100000 in
theorem j1_any (place Bx : Nat) (A1 A2 : Option Addr) (c1 c2 : Nat) (xs ys : List UInt8) (W : World) (hK : KT W) (hx : W.cell? ⟨Bx, 0, none⟩ = some (.slice A1 xs.length c1)) (hS1 : Sl W A1 xs c1) (hS2 : Sl W A2 ys c2) (h1 : xs.length ≤ 1000) (h2 : ys.length ≤ 1000) :
    Calls Tryd.prog 29 #[.int .i64 (place : Int), .slice A2 ys.length c2, .pointer (some ⟨Bx, 0, none⟩)] W fun e w' => e = .returned (bv (hv (co xs ys) 0)) ∧ Below W.heap.size W w' := by
  have HT := Lib.hid (thru_any A1 c1 xs A2 c2 ys 0 W hK hS1 hS2 h1 h2)
  clear hK hS1 hS2
  generalize xs.length = n at *
  generalize ys.length = m at *
  unfold bv at *
  go_enter Tryd.func29, Tryd.ntmps29
  go_wp2_with fail
  refine HT.out.mono ?_
  rintro e w1 ⟨rfl, hb1⟩
  go_wp2_with fail
  go_ret
  exact ⟨rfl, hb1⟩

set_option maxHeartbeats 2000000 in
set_option maxRecDepth 100000 in
theorem join_any (A : Option Addr) (c : Nat) (l : List Shr) (w : World) (hK : KT w) (hS : SS w A l c) (hl : l.length ≤ 1000000) :
    Calls Tryd.prog 11 #[.slice A l.length c] w (JoinPost l w) := by
  have HC := Lib.hid (check_any A c l w hS hl)
  have HS := Lib.hid (And.intro hS hK)
  clear hS hK
  by_cases q1 : chk l = 0
  · obtain ⟨ha, ho⟩ := chk_zero q1
    obtain ⟨s0, h0⟩ := alk_pos ha
    obtain ⟨⟨t1, t2, t3⟩, hd, hall⟩ := alk_facts ha h0
    obtain ⟨b, off, rfl, hb, hat⟩ := HS.out.1.1 (List.getElem?_eq_some_iff.1 h0).1
    have hat0 := hat 0 s0 h0
    obtain ⟨t, ht⟩ : ∃ t : Nat, s0.th = (t : Int) := ⟨s0.th.toNat, by omega⟩
    have hje : jne l = if l.length < t then 60 else 0 := by
      unfold jne
      rw [if_neg (fun h => h q1), h0]
      show (if (l.length : Int) < s0.th then (60 : Int) else 0) = _
      rw [ht]
      by_cases h : l.length < t
      · rw [if_pos h, if_pos (by omega)]
      · rw [if_neg h, if_neg (by omega)]
    have HAT := Lib.hid hat0
    rw [q1] at HC
    by_cases q2 : l.length < t
    · rw [if_pos q2] at hje
      have hjn : jn l = [] := by unfold jn; rw [hje, if_neg (by decide)]
      have hfin : ∀ w', Below w.heap.size w w' → JoinPost l w (.returned (.tuple #[.slice none 0 0, .int .i64 60])) w' := fun w' hb => ⟨none, 0, by rw [hje, hjn]; rfl, by rw [hjn]; exact sl_none w', hb⟩
      have HF := Lib.hid hfin
      have i0 : 0 < l.length := (List.getElem?_eq_some_iff.1 h0).1
      clear hfin hjn hje hall hat ha ho h0 q1 hat0
      generalize l.length = n at *
      have i1 : (0 : Int) < (n : Int) := by omega
      have i2 : (n : Int) < (t : Int) := by omega
      go_enter Tryd.func11, Tryd.ntmps11
      go_wp2_with fail
      refine HC.out.mono ?_
      rintro e w1 ⟨rfl, hb1⟩
      obtain ⟨A1, c1, k0, k1, k2, k3, k4, hs1⟩ := HAT.out.up hb hb1
      simp only [Nat.zero_mul, Nat.add_zero] at k0 k1 k2 k3 k4
      rw [ht] at k2
      clear k0 k1 k3 k4 hs1
      go_wp2_with fail
      go_ret2
      exact HF.out _ hb1
    · rw [if_neg q2] at hje
      have hjn : jn l = (List.range s0.data.length).map fun place => hv (co (idxs (l.take t)) (colm (l.take t) place)) 0 := by
        unfold jn fsts
        rw [if_pos hje, h0]
        show ((List.range s0.data.length).map fun place => hv (co (idxs (l.take s0.th.toNat)) (colm (l.take s0.th.toNat) place)) 0) = _
        rw [ht]
        rfl
      have hmem : ∀ s ∈ l.take t, s ∈ l := fun s hs => List.mem_of_mem_take hs
      have hlt : (l.take t).length = t := by rw [List.length_take]; omega
      have HX := Lib.hid (fun w1 (hb1 : Below w.heap.size w w1) => idx_any (some ⟨b, off, none⟩) t (l.take t) w1 ((HS.out.1.up hb1).take t (by omega)) (fun s hs => by have := (hall s (hmem s hs)).2; omega) (by omega))
      rw [hlt] at HX
      have hil : (idxs (l.take t)).length = t := by simp [idxs]; omega
      have HB := Lib.hid (fun (Bx g cx : Nat) w1 (hb1 : Below w.heap.size w w1) (hbx : w1.cell? ⟨Bx, 0, none⟩ = some (.slice (some ⟨g, 0, none⟩) t cx)) (hsx : Sl w1 (some ⟨g, 0, none⟩) (idxs (l.take t)) cx) =>
        bcol_any (some ⟨b, off, none⟩) t s0.data.length (l.take t) 29 #[.pointer (some ⟨Bx, 0, none⟩)] (fun place => hv (co (idxs (l.take t)) (colm (l.take t) place)) 0) w1 (enters_of Tryd.func29 (by kernel_rfl) rfl) ((HS.out.1.up hb1).take t (by omega)) (by omega)
          (fun s hs => (hall s (hmem s hs)).1.2.2) (by omega) (by omega) (fun place A2 c2 W2 hp hlt2 hb2 hsl => by
            have hbB := hb1.trans (hb2.mono hb1.size)
            have := j1_any place Bx (some ⟨g, 0, none⟩) A2 cx c2 (idxs (l.take t)) (colm (l.take t) place) W2 (HS.out.2.below hbB) (by rw [hil]; exact (hb2.cell (p := ⟨Bx, 0, none⟩) (World.block_lt_of_cell? _ _ hbx)).trans hbx) (hsx.up hb2) hsl (by omega) (by rw [colm_length]; omega)
            rw [colm_length] at this
            exact this))
      rw [hlt, ← hjn] at HB
      have hjl : (jn l).length = s0.data.length := by rw [hjn]; simp
      have HJ := Lib.hid (And.intro hje hjl)
      have HIL := Lib.hid hil
      have i0 : 0 < l.length := (List.getElem?_eq_some_iff.1 h0).1
      have hcap := HS.out.1.2.1
      unfold JoinPost
      clear hjn hje hall hat ha ho h0 q1 hat0 hmem hlt hil hjl
      generalize jn l = J at *
      generalize jne l = E at *
      generalize l.length = n at *
      have i1 : (0 : Int) < (n : Int) := by omega
      have i2 : ¬ (n : Int) < (t : Int) := by omega
      have i3 : (t : Int) ≤ (c : Int) := by omega
      have i4 : (0 : Int) ≤ (t : Int) := by omega
      go_enter Tryd.func11, Tryd.ntmps11
      go_wp2_with fail
      refine HC.out.mono ?_
      rintro e w1 ⟨rfl, hb1⟩
      obtain ⟨A1, c1, k0, k1, k2, k3, k4, hs1⟩ := HAT.out.up hb hb1
      simp only [Nat.zero_mul, Nat.add_zero] at k0 k1 k2 k3 k4
      rw [ht] at k2
      clear k0 k1 k3 k4 hs1
      go_wp2_with fail
      refine (HX.out w1 hb1).mono ?_
      rintro e w2 ⟨g, cx, hg, rfl, hO, hb2⟩
      rw [HIL.out]
      have hb3 : Below w2.heap.size w2 (w2.alloc (.cells #[.slice (some ⟨g, 0, none⟩) t cx] 23)) := (Below.refl _ w2).alloc (Nat.le_refl _) _
      have hb12 := hb1.trans (hb2.mono hb1.size)
      have hb13 := hb12.trans (hb3.mono hb12.size)
      have HB2 := Lib.hid (And.intro (HB.out w2.heap.size g cx _ hb13 ((Box.new w2 #[.slice (some ⟨g, 0, none⟩) t cx] 23).cell 0) (hO.sl.up hb3)) hb13)
      clear hO hb2 hb3 hb12 hb13 HX HB k2 hb1
      go_wp2_with fail
      refine HB2.out.1.mono ?_
      rintro e w4 ⟨g4, c4, hg4, rfl, hO4, hb4⟩
      have hsl := hO4.sl
      go_wp2_with fail
      go_ret2
      exact ⟨some ⟨g4, 0, none⟩, c4, by rw [HJ.out.1]; rfl, hsl, HB2.out.2.trans (hb4.mono HB2.out.2.size)⟩
  · have hje : jne l = chk l := if_pos q1
    have hjn : jn l = [] := by unfold jn; rw [hje, if_neg q1]
    have hfin : ∀ w', Below w.heap.size w w' → JoinPost l w (.returned (.tuple #[.slice none 0 0, .int .i64 (chk l)])) w' := fun w' hb => ⟨none, 0, by rw [hje, hjn]; rfl, by rw [hjn]; exact sl_none w', hb⟩
    have HF := Lib.hid hfin
    have hb1 : (chk l != 0) = true := by simpa using q1
    clear hfin hjn hje
    generalize chk l = E at *
    generalize l.length = n at *
    go_enter Tryd.func11, Tryd.ntmps11
    go_wp2_with fail
    refine HC.out.mono ?_
    rintro e w1 ⟨rfl, hb1⟩
    go_wp2_with fail
    go_ret2
    exact HF.out _ hb1
end Go.Proofs.YtjkojjimlebmjaaDoor
