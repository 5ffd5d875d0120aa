/- The reference's Normal, Union, Meet, Minus, Covers. -/
import Derived.Test.YtnmlfdmlcpgaaaaRSpans
import Derived.Test.YtnmlfdmlcpgaaaaCovP
namespace Go.Proofs.Ytnmlfdmlcpgaaaa
open Go.RowKit
set_option linter.unusedVariables false

set_option maxHeartbeats 1000000 in
set_option maxRecDepth 100000 in
theorem refNormal_any (A : Option Addr) (c : Nat) (l : List (Int × Int)) (w : World) (hS : Sl w A l c) (hl : l.length ≤ 1000000) :
    Calls Try.prog 13 #[.slice A l.length c] w (RowPost (nl (hasB l) 1024) w) := by
  have H1 := Lib.hid (refDays_any A c l w hS hl)
  clear hS
  go_enter Try.func13, Try.ntmps13
  go_wp2_with fail
  refine H1.out.mono ?_
  rintro e w1 ⟨g, rfl, hg, hx, hb1⟩
  have H2 := Lib.hid (refSpans_any (hasB l) g w1 hx)
  have HB := Lib.hid hb1
  clear hx hb1 H1
  go_wp2_with fail
  refine H2.out.mono ?_
  rintro e w2 ⟨A2, c2, rfl, hS2, hb2⟩
  have hb := HB.out.trans (hb2.mono HB.out.size)
  have HS := Lib.hid hS2
  clear hS2 hb2
  go_wp2_with fail
  go_ret
  exact ⟨A2, c2, rfl, HS.out, hb⟩

set_option maxHeartbeats 1000000 in
set_option maxRecDepth 100000 in
theorem refUnion_any (A A' : Option Addr) (c c' : Nat) (l l' : List (Int × Int)) (w : World) (hS : Sl w A l c) (hS' : Sl w A' l' c') (hl : l.length ≤ 1000000) (hl' : l'.length ≤ 1000000) :
    Calls Try.prog 15 #[.slice A l.length c, .slice A' l'.length c'] w (RowPost (nl (fun d => hasB l d || hasB l' d) 1024) w) := by
  have H1 := Lib.hid (refDays_any A c l w hS hl)
  have HS := Lib.hid hS'
  clear hS hS'
  go_enter Try.func15, Try.ntmps15
  go_wp2_with fail
  refine H1.out.mono ?_
  rintro e w1 ⟨gx, rfl, hgx, hx, hb1⟩
  have H2 := Lib.hid (refDays_any A' c' l' w1 (HS.out.up hb1) hl')
  have HX := Lib.hid hx
  have HB := Lib.hid hb1
  clear hx hb1 H1 HS
  go_wp2_with fail
  refine H2.out.mono ?_
  rintro e w2 ⟨gy, rfl, hgy, hy, hb2⟩
  have hne : gx ≠ gy := by have := HX.out.lt; omega
  have hne2 : ¬ gy = gx := fun h => hne h.symm
  have hxb := HX.out.below hb2
  have hb := HB.out.trans (hb2.mono HB.out.size)
  have h0 := And.intro hxb (And.intro hy hb)
  have H0 := Lib.hid h0
  clear hxb hy hb hb2 H2 HX HB h0
  go_wp2_with fail
  go_loopw [7] (fun i wr => ∃ m : Nat, m ≤ 1024 ∧ i = .int .i64 m ∧ Box wr gx (bcells (fun d => if d < m then (hasB l d) || (hasB l' d) else hasB l d)) 4 ∧ Box wr gy (bcells (hasB l')) 4 ∧ Below w.heap.size w wr) (fun i _ => 1024 - (intOf i).toNat)
  case atStart =>
    refine ⟨0, by omega, rfl, ?_, H0.out.2⟩
    rw [bcells_congr (g := hasB l) fun d _ => by simp]
    exact H0.out.1
  case round =>
    clear H0
    obtain ⟨m, hm, rfl, hx, hy, hbw⟩ := hrel
    have HX := Lib.hid hx
    have HY := Lib.hid hy
    have HB := Lib.hid hbw
    clear hx hy hbw
    by_cases hlt : m < 1024
    · have cx := HX.out.cell m
      have cy := HY.out.cell m
      have fx := HX.out.frozen m
      rw [show (bcells (fun d => if d < m then (hasB l d) || (hasB l' d) else hasB l d))[m]? = some (.bool (hasB l m)) by rw [show (bcells (fun d => if d < m then (hasB l d) || (hasB l' d) else hasB l d))[m]? = some (.bool (if m < m then _ else hasB l m)) from arr_get _ _ _ hlt]; simp] at cx
      rw [show (bcells (hasB l'))[m]? = some (.bool (hasB l' m)) from arr_get _ _ _ hlt] at cy
      have HE : Hid ((bcells (fun d => if d < m then (hasB l d) || (hasB l' d) else hasB l d)).setIfInBounds m (.bool ((hasB l m) || (hasB l' m))) = bcells (fun d => if d < m + 1 then (hasB l d) || (hasB l' d) else hasB l d)) := by
        refine Lib.hid ?_
        unfold bcells
        rw [arr_set]
        refine arr_congr fun j _ => ?_
        by_cases e : j = m
        · subst e; simp
        · rw [if_neg e]
          have : (j < m + 1) = (j < m) := by apply propext; omega
          simp only [this]
      have b1 : (0 : Int) ≤ (m : Int) ∧ (m : Int) < 1024 := by omega
      generalize hasB l m = X at *
      generalize hasB l' m = Y at *
      have hst : ∀ V, V = (X || Y) → Box (wr.setCell ⟨gx, m, none⟩ (.bool V)) gx (bcells (fun d => if d < m + 1 then (hasB l d) || (hasB l' d) else hasB l d)) 4 ∧ Box (wr.setCell ⟨gx, m, none⟩ (.bool V)) gy (bcells (hasB l')) 4 ∧ Below w.heap.size w (wr.setCell ⟨gx, m, none⟩ (.bool V)) := by
        rintro V rfl
        refine ⟨?_, HY.out.grown (set_grown_at wr gx m _) (by simp; omega), HB.out.setCell (by simp; omega) _⟩
        have := HX.out.set (i := m) (v := .bool (X || Y))
        rw [HE.out] at this
        exact this
      have HST := Lib.hid hst
      clear hst HE
      cases X <;> cases Y <;>
      · go_wp2_with fail
        go_roundw
        case rel => exact ⟨m + 1, by omega, by go_num, HST.out _ rfl⟩
        case measure => simp [intOf]; omega
    · obtain rfl : m = 1024 := by omega
      have hx := HX.out
      rw [bcells_congr (g := fun d => hasB l d || hasB l' d) fun d hd => by simp [hd]] at hx
      have H3 := Lib.hid (refSpans_any _ gx wr hx)
      clear hx
      go_wp2_with fail
      refine H3.out.mono ?_
      rintro e w3 ⟨A3, c3, rfl, hS3, hb3⟩
      have hb := HB.out.trans (hb3.mono HB.out.size)
      have HS3 := Lib.hid hS3
      clear hS3 hb3
      go_wp2_with fail
      go_ret
      exact ⟨A3, c3, rfl, HS3.out, hb⟩

set_option maxHeartbeats 1000000 in
set_option maxRecDepth 100000 in
theorem refMeet_any (A A' : Option Addr) (c c' : Nat) (l l' : List (Int × Int)) (w : World) (hS : Sl w A l c) (hS' : Sl w A' l' c') (hl : l.length ≤ 1000000) (hl' : l'.length ≤ 1000000) :
    Calls Try.prog 17 #[.slice A l.length c, .slice A' l'.length c'] w (RowPost (nl (fun d => hasB l d && hasB l' d) 1024) w) := by
  have H1 := Lib.hid (refDays_any A c l w hS hl)
  have HS := Lib.hid hS'
  clear hS hS'
  go_enter Try.func17, Try.ntmps17
  go_wp2_with fail
  refine H1.out.mono ?_
  rintro e w1 ⟨gx, rfl, hgx, hx, hb1⟩
  have H2 := Lib.hid (refDays_any A' c' l' w1 (HS.out.up hb1) hl')
  have HX := Lib.hid hx
  have HB := Lib.hid hb1
  clear hx hb1 H1 HS
  go_wp2_with fail
  refine H2.out.mono ?_
  rintro e w2 ⟨gy, rfl, hgy, hy, hb2⟩
  have hne : gx ≠ gy := by have := HX.out.lt; omega
  have hne2 : ¬ gy = gx := fun h => hne h.symm
  have hxb := HX.out.below hb2
  have hb := HB.out.trans (hb2.mono HB.out.size)
  have h0 := And.intro hxb (And.intro hy hb)
  have H0 := Lib.hid h0
  clear hxb hy hb hb2 H2 HX HB h0
  go_wp2_with fail
  go_loopw [7] (fun i wr => ∃ m : Nat, m ≤ 1024 ∧ i = .int .i64 m ∧ Box wr gx (bcells (fun d => if d < m then (hasB l d) && (hasB l' d) else hasB l d)) 4 ∧ Box wr gy (bcells (hasB l')) 4 ∧ Below w.heap.size w wr) (fun i _ => 1024 - (intOf i).toNat)
  case atStart =>
    refine ⟨0, by omega, rfl, ?_, H0.out.2⟩
    rw [bcells_congr (g := hasB l) fun d _ => by simp]
    exact H0.out.1
  case round =>
    clear H0
    obtain ⟨m, hm, rfl, hx, hy, hbw⟩ := hrel
    have HX := Lib.hid hx
    have HY := Lib.hid hy
    have HB := Lib.hid hbw
    clear hx hy hbw
    by_cases hlt : m < 1024
    · have cx := HX.out.cell m
      have cy := HY.out.cell m
      have fx := HX.out.frozen m
      rw [show (bcells (fun d => if d < m then (hasB l d) && (hasB l' d) else hasB l d))[m]? = some (.bool (hasB l m)) by rw [show (bcells (fun d => if d < m then (hasB l d) && (hasB l' d) else hasB l d))[m]? = some (.bool (if m < m then _ else hasB l m)) from arr_get _ _ _ hlt]; simp] at cx
      rw [show (bcells (hasB l'))[m]? = some (.bool (hasB l' m)) from arr_get _ _ _ hlt] at cy
      have HE : Hid ((bcells (fun d => if d < m then (hasB l d) && (hasB l' d) else hasB l d)).setIfInBounds m (.bool ((hasB l m) && (hasB l' m))) = bcells (fun d => if d < m + 1 then (hasB l d) && (hasB l' d) else hasB l d)) := by
        refine Lib.hid ?_
        unfold bcells
        rw [arr_set]
        refine arr_congr fun j _ => ?_
        by_cases e : j = m
        · subst e; simp
        · rw [if_neg e]
          have : (j < m + 1) = (j < m) := by apply propext; omega
          simp only [this]
      have b1 : (0 : Int) ≤ (m : Int) ∧ (m : Int) < 1024 := by omega
      generalize hasB l m = X at *
      generalize hasB l' m = Y at *
      have hst : ∀ V, V = (X && Y) → Box (wr.setCell ⟨gx, m, none⟩ (.bool V)) gx (bcells (fun d => if d < m + 1 then (hasB l d) && (hasB l' d) else hasB l d)) 4 ∧ Box (wr.setCell ⟨gx, m, none⟩ (.bool V)) gy (bcells (hasB l')) 4 ∧ Below w.heap.size w (wr.setCell ⟨gx, m, none⟩ (.bool V)) := by
        rintro V rfl
        refine ⟨?_, HY.out.grown (set_grown_at wr gx m _) (by simp; omega), HB.out.setCell (by simp; omega) _⟩
        have := HX.out.set (i := m) (v := .bool (X && Y))
        rw [HE.out] at this
        exact this
      have HST := Lib.hid hst
      clear hst HE
      cases X <;> cases Y <;>
      · go_wp2_with fail
        go_roundw
        case rel => exact ⟨m + 1, by omega, by go_num, HST.out _ rfl⟩
        case measure => simp [intOf]; omega
    · obtain rfl : m = 1024 := by omega
      have hx := HX.out
      rw [bcells_congr (g := fun d => hasB l d && hasB l' d) fun d hd => by simp [hd]] at hx
      have H3 := Lib.hid (refSpans_any _ gx wr hx)
      clear hx
      go_wp2_with fail
      refine H3.out.mono ?_
      rintro e w3 ⟨A3, c3, rfl, hS3, hb3⟩
      have hb := HB.out.trans (hb3.mono HB.out.size)
      have HS3 := Lib.hid hS3
      clear hS3 hb3
      go_wp2_with fail
      go_ret
      exact ⟨A3, c3, rfl, HS3.out, hb⟩

set_option maxHeartbeats 1000000 in
set_option maxRecDepth 100000 in
theorem refMinus_any (A A' : Option Addr) (c c' : Nat) (l l' : List (Int × Int)) (w : World) (hS : Sl w A l c) (hS' : Sl w A' l' c') (hl : l.length ≤ 1000000) (hl' : l'.length ≤ 1000000) :
    Calls Try.prog 19 #[.slice A l.length c, .slice A' l'.length c'] w (RowPost (nl (fun d => hasB l d && !hasB l' d) 1024) w) := by
  have H1 := Lib.hid (refDays_any A c l w hS hl)
  have HS := Lib.hid hS'
  clear hS hS'
  go_enter Try.func19, Try.ntmps19
  go_wp2_with fail
  refine H1.out.mono ?_
  rintro e w1 ⟨gx, rfl, hgx, hx, hb1⟩
  have H2 := Lib.hid (refDays_any A' c' l' w1 (HS.out.up hb1) hl')
  have HX := Lib.hid hx
  have HB := Lib.hid hb1
  clear hx hb1 H1 HS
  go_wp2_with fail
  refine H2.out.mono ?_
  rintro e w2 ⟨gy, rfl, hgy, hy, hb2⟩
  have hne : gx ≠ gy := by have := HX.out.lt; omega
  have hne2 : ¬ gy = gx := fun h => hne h.symm
  have hxb := HX.out.below hb2
  have hb := HB.out.trans (hb2.mono HB.out.size)
  have h0 := And.intro hxb (And.intro hy hb)
  have H0 := Lib.hid h0
  clear hxb hy hb hb2 H2 HX HB h0
  go_wp2_with fail
  go_loopw [7] (fun i wr => ∃ m : Nat, m ≤ 1024 ∧ i = .int .i64 m ∧ Box wr gx (bcells (fun d => if d < m then (hasB l d) && !(hasB l' d) else hasB l d)) 4 ∧ Box wr gy (bcells (hasB l')) 4 ∧ Below w.heap.size w wr) (fun i _ => 1024 - (intOf i).toNat)
  case atStart =>
    refine ⟨0, by omega, rfl, ?_, H0.out.2⟩
    rw [bcells_congr (g := hasB l) fun d _ => by simp]
    exact H0.out.1
  case round =>
    clear H0
    obtain ⟨m, hm, rfl, hx, hy, hbw⟩ := hrel
    have HX := Lib.hid hx
    have HY := Lib.hid hy
    have HB := Lib.hid hbw
    clear hx hy hbw
    by_cases hlt : m < 1024
    · have cx := HX.out.cell m
      have cy := HY.out.cell m
      have fx := HX.out.frozen m
      rw [show (bcells (fun d => if d < m then (hasB l d) && !(hasB l' d) else hasB l d))[m]? = some (.bool (hasB l m)) by rw [show (bcells (fun d => if d < m then (hasB l d) && !(hasB l' d) else hasB l d))[m]? = some (.bool (if m < m then _ else hasB l m)) from arr_get _ _ _ hlt]; simp] at cx
      rw [show (bcells (hasB l'))[m]? = some (.bool (hasB l' m)) from arr_get _ _ _ hlt] at cy
      have HE : Hid ((bcells (fun d => if d < m then (hasB l d) && !(hasB l' d) else hasB l d)).setIfInBounds m (.bool ((hasB l m) && !(hasB l' m))) = bcells (fun d => if d < m + 1 then (hasB l d) && !(hasB l' d) else hasB l d)) := by
        refine Lib.hid ?_
        unfold bcells
        rw [arr_set]
        refine arr_congr fun j _ => ?_
        by_cases e : j = m
        · subst e; simp
        · rw [if_neg e]
          have : (j < m + 1) = (j < m) := by apply propext; omega
          simp only [this]
      have b1 : (0 : Int) ≤ (m : Int) ∧ (m : Int) < 1024 := by omega
      generalize hasB l m = X at *
      generalize hasB l' m = Y at *
      have hst : ∀ V, V = (X && !Y) → Box (wr.setCell ⟨gx, m, none⟩ (.bool V)) gx (bcells (fun d => if d < m + 1 then (hasB l d) && !(hasB l' d) else hasB l d)) 4 ∧ Box (wr.setCell ⟨gx, m, none⟩ (.bool V)) gy (bcells (hasB l')) 4 ∧ Below w.heap.size w (wr.setCell ⟨gx, m, none⟩ (.bool V)) := by
        rintro V rfl
        refine ⟨?_, HY.out.grown (set_grown_at wr gx m _) (by simp; omega), HB.out.setCell (by simp; omega) _⟩
        have := HX.out.set (i := m) (v := .bool (X && !Y))
        rw [HE.out] at this
        exact this
      have HST := Lib.hid hst
      clear hst HE
      cases X <;> cases Y <;>
      · go_wp2_with fail
        go_roundw
        case rel => exact ⟨m + 1, by omega, by go_num, HST.out _ rfl⟩
        case measure => simp [intOf]; omega
    · obtain rfl : m = 1024 := by omega
      have hx := HX.out
      rw [bcells_congr (g := fun d => hasB l d && !hasB l' d) fun d hd => by simp [hd]] at hx
      have H3 := Lib.hid (refSpans_any _ gx wr hx)
      clear hx
      go_wp2_with fail
      refine H3.out.mono ?_
      rintro e w3 ⟨A3, c3, rfl, hS3, hb3⟩
      have hb := HB.out.trans (hb3.mono HB.out.size)
      have HS3 := Lib.hid hS3
      clear hS3 hb3
      go_wp2_with fail
      go_ret
      exact ⟨A3, c3, rfl, HS3.out, hb⟩

set_option maxHeartbeats 1000000 in
set_option maxRecDepth 100000 in
theorem refCovers_any (A : Option Addr) (c : Nat) (l : List (Int × Int)) (s : Int × Int) (w : World) (hS : Sl w A l c) (hl : l.length ≤ 1000000) :
    Calls Try.prog 23 #[.slice A l.length c, .agg #[.int .i64 s.1, .int .i64 s.2]] w fun e w' => e = .returned (.bool (cov l s)) ∧ Below w.heap.size w w' := by
  obtain ⟨a, z⟩ := s
  dsimp only
  have hx := Box.new w #[.int .i64 a, .int .i64 z] 31
  have hb := (Below.refl w.heap.size w).alloc (Nat.le_refl _) (.cells #[.int .i64 a, .int .i64 z] 31)
  have HX := Lib.hid hx
  have HB := Lib.hid hb
  have HS := Lib.hid (hS.up hb)
  have hw : w.heap.size < (w.alloc (.cells #[.int .i64 a, .int .i64 z] 31)).heap.size := hx.lt
  have HW := Lib.hid hw
  clear hS hx hb hw
  by_cases h1 : z ≤ a
  · have hr : cov l (a, z) = true := by unfold cov; simp [h1]
    have HR := Lib.hid hr
    clear hr
    go_enter Try.func23, Try.ntmps23
    go_wp2_with fail
    go_ret
    exact ⟨by rw [HR.out]; rfl, HB.out⟩
  · have d1 : decide (z ≤ a) = false := decide_eq_false h1
    by_cases h2 : a < 0
    · have hr : cov l (a, z) = false := by unfold cov; simp [h1, h2]
      have HR := Lib.hid hr
      clear hr
      go_enter Try.func23, Try.ntmps23
      go_wp2_with fail
      go_ret
      exact ⟨by rw [HR.out]; rfl, HB.out⟩
    · have d2 : decide (a < 0) = false := decide_eq_false h2
      by_cases h3 : 1024 < z
      · have hr : cov l (a, z) = false := by unfold cov; simp [h1, h3]
        have HR := Lib.hid hr
        clear hr
        go_enter Try.func23, Try.ntmps23
        go_wp2_with fail
        go_ret
        exact ⟨by rw [HR.out]; rfl, HB.out⟩
      · have d3 : decide (1024 < z) = false := decide_eq_false h3
        obtain ⟨p, rfl⟩ : ∃ p : Nat, a = (p : Int) := ⟨a.toNat, by omega⟩
        obtain ⟨q, rfl⟩ : ∃ q : Nat, z = (q : Int) := ⟨z.toNat, by omega⟩
        have HC := Lib.hid (cov_iff (l := l) (p := p) (q := q) (by omega))
        have H1 := Lib.hid (refDays_any A c l _ HS.out hl)
        have hpq : p < q := by omega
        have hq : q ≤ 1024 := by omega
        clear h2 h3 d2 d3
        have d2 : decide ((p : Int) < 0) = false := decide_eq_false (by omega)
        have d3 : decide ((1024 : Int) < (q : Int)) = false := decide_eq_false (by omega)
        have d4 : decide (1024 < q) = false := decide_eq_false (by omega)
        go_enter Try.func23, Try.ntmps23
        go_wp2_with fail
        refine H1.out.mono ?_
        rintro e w1 ⟨g, rfl, hg, hd, hb1⟩
        have hx1 := HX.out.below hb1
        have hbw := HB.out.trans (hb1.mono HB.out.size)
        have H0 := Lib.hid (And.intro hx1 (And.intro hd hbw))
        have c0 := hx1.cell 0
        simp only [List.getElem?_toArray, List.getElem?_cons_zero] at c0
        clear hx1 hd hbw hb1 H1 HX HS HB
        go_wp2_with fail
        clear c0
        go_loopw [6] (fun i wr => ∃ m : Nat, p ≤ m ∧ m ≤ q ∧ i = .int .i64 m ∧ (∀ k, p ≤ k → k < m → hasB l k = true) ∧ wr = w1) (fun i _ => 1024 - (intOf i).toNat)
        case atStart => exact ⟨p, Nat.le_refl _, by omega, rfl, fun k h1 h2 => by omega, rfl⟩
        case round =>
          obtain ⟨m, hpm, hmq, rfl, hall, rfl⟩ := hrel
          have HA := Lib.hid hall
          clear hall
          have c1 := H0.out.1.cell 1
          simp only [List.getElem?_toArray, List.getElem?_cons_succ, List.getElem?_cons_zero] at c1
          by_cases hlt : m < q
          · have cd := H0.out.2.1.cell m
            rw [show (bcells (hasB l))[m]? = some (.bool (hasB l m)) from arr_get _ _ _ (by omega)] at cd
            have b1 : (0 : Int) ≤ (m : Int) ∧ (m : Int) < 1024 := by omega
            cases hh : hasB l m
            · rw [hh] at cd
              have HH := Lib.hid hh
              go_wp2_with fail
              go_ret
              refine ⟨ret_bool ?_, H0.out.2.2⟩
              cases hcv : cov l ((p : Int), (q : Int))
              · rfl
              · have := HC.out.1 hcv m hpm hlt
                rw [HH.out] at this
                cases this
            · rw [hh] at cd
              have HH := Lib.hid hh
              go_wp2_with fail
              go_roundw
              case rel =>
                refine ⟨m + 1, by omega, by omega, by go_num, fun k h1 h2 => ?_, by simp⟩
                by_cases e : k = m
                · subst e; exact HH.out
                · exact HA.out k h1 (by omega)
              case measure => simp [intOf]; omega
          · obtain rfl : m = q := by omega
            go_wp2_with fail
            go_ret
            exact ⟨by rw [HC.out.2 HA.out]; rfl, H0.out.2.2⟩
end Go.Proofs.Ytnmlfdmlcpgaaaa
