import Derived.Test.YtkihimafeonibaaSane2
import Derived.Test.YtkihimafeonibaaFew
import Derived.Deep.RegionHeld3
namespace Go.Proofs.Ytkihimafeonibaa
open Go.RowKit
set_option linter.unusedVariables false

theorem same_refl (t : T) : same t t = true := by
  induction t with
  | nil => rfl
  | mk k n s len f ih =>
    simp only [same, beq_self_eq_true, Bool.true_and]
    exact allTo_eq.2 fun i _ => ih i

/-- Two values side by side in a new block. -/
theorem pair_rds {w : World} {g : Nat} {t t' : T} {c0 c1 c2 c3 d0 d1 d2 d3 : Value} (h : Box w g #[c0, c1, c2, c3, d0, d1, d2, d3] 24)
    (hr : Rd w.heap.size w t (.agg #[c0, c1, c2, c3])) (hr' : Rd w.heap.size w t' (.agg #[d0, d1, d2, d3])) : RdS w.heap.size w 2 (fun i => if i = 0 then t else t') (some ⟨g, 0, none⟩) := by
  intro _
  refine ⟨g, 0, rfl, h.lt, fun i hi => ?_⟩
  match i, hi with
  | 0, _ => exact ⟨_, _, _, _, h.cell 0, h.cell 1, h.cell 2, h.cell 3, hr⟩
  | 1, _ => exact ⟨_, _, _, _, h.cell 4, h.cell 5, h.cell 6, h.cell 7, hr'⟩

set_option maxHeartbeats 1000000 in
set_option maxRecDepth 100000 in
theorem lawSame_any (t t' : T) (v v' : Value) (w : World) (hrd : Rd w.heap.size w t v) (hrd' : Rd w.heap.size w t' v') :
    Calls Try.prog 5 #[v, v'] w fun e w' => e = .returned (.bool true) ∧ Below w.heap.size w w' := by
  obtain ⟨k, n, s, len, f, rfl⟩ := hrd.ex
  obtain ⟨k', n', s', len', f', rfl⟩ := hrd'.ex
  have h0 := hrd
  have h0' := hrd'
  obtain ⟨a, cap, rfl, h1, h2, h3, h4, _⟩ := h0
  obtain ⟨a', cap', rfl, h1', h2', h3', h4', _⟩ := h0'
  generalize hT : T.mk k n s len f = t at *
  generalize hT' : T.mk k' n' s' len' f' = t' at *
  clear hT hT' h1 h2 h3 h4 h1' h2' h3' h4'
  have hb := ((Below.refl w.heap.size w).alloc (Nat.le_refl _) (.cells #[.int .i64 k, .int .i64 n, .string s, .slice a len cap] 24)).alloc (by simp) (.cells #[.int .i64 k', .int .i64 n', .string s', .slice a' len' cap'] 24)
  have q1 := (Box.new w #[.int .i64 k, .int .i64 n, .string s, .slice a len cap] 24).alloc (.cells #[.int .i64 k', .int .i64 n', .string s', .slice a' len' cap'] 24)
  have q2 := Box.new (w.alloc (.cells #[.int .i64 k, .int .i64 n, .string s, .slice a len cap] 24)) #[.int .i64 k', .int .i64 n', .string s', .slice a' len' cap'] 24
  simp only [World.size_alloc] at q2
  have hrd := hrd.up hb
  have hrd' := hrd'.up hb
  have hbw := hb
  clear hb
  go_enter Try.func5, Try.ntmps5
  go_wp2_with fail
  refine (sane_any _).mono ?_
  rintro e w1 ⟨rfl, hb1⟩
  have q1 := q1.below hb1
  have q2 := q2.below hb1
  have hrd := hrd.up hb1
  have hrd' := hrd'.up hb1
  have hbw := hbw.trans (hb1.mono hbw.size)
  clear hb1
  have c10 := q1.cell 0
  have c11 := q1.cell 1
  have c12 := q1.cell 2
  have c13 := q1.cell 3
  have c20 := q2.cell 0
  have c21 := q2.cell 1
  have c22 := q2.cell 2
  have c23 := q2.cell 3
  simp only [List.getElem?_toArray, List.getElem?_cons_zero, List.getElem?_cons_succ] at c10 c11 c12 c13 c20 c21 c22 c23
  have hb1 := (Below.refl w1.heap.size w1).alloc (Nat.le_refl _) (.cells #[.int .i64 k, .int .i64 n, .string s, .slice a len cap, .int .i64 k', .int .i64 n', .string s', .slice a' len' cap'] 24)
  have q3 := Box.new w1 #[.int .i64 k, .int .i64 n, .string s, .slice a len cap, .int .i64 k', .int .i64 n', .string s', .slice a' len' cap'] 24
  have q1 := q1.below hb1
  have q2 := q2.below hb1
  have hrd := hrd.up hb1
  have hrd' := hrd'.up hb1
  have hbw := hbw.trans (hb1.mono hbw.size)
  have HC := Lib.hid (few_any 2 2 _ _ _ (by unfold maxLen; omega) (pair_rds q3 hrd hrd'))
  clear hb1 q3
  go_wp2_with fail
  refine HC.out.mono ?_
  rintro e w2 ⟨rfl, hb1⟩
  have q1 := q1.below hb1
  have q2 := q2.below hb1
  have hrd := hrd.up hb1
  have hrd' := hrd'.up hb1
  have hbw := hbw.trans (hb1.mono hbw.size)
  clear hb1 HC c10 c11 c12 c13 c20 c21 c22 c23
  cases allTo (fun i => few1 (if i = 0 then t else t') 20) 2
  · go_wp2_with fail
    go_ret
    exact ⟨rfl, hbw⟩
  · go_wp2_with fail
    have c10 := q1.cell 0
    have c11 := q1.cell 1
    have c12 := q1.cell 2
    have c13 := q1.cell 3
    have c20 := q2.cell 0
    have c21 := q2.cell 1
    have c22 := q2.cell 2
    have c23 := q2.cell 3
    simp only [List.getElem?_toArray, List.getElem?_cons_zero, List.getElem?_cons_succ] at c10 c11 c12 c13 c20 c21 c22 c23
    have hr1 := hrd.drew
    have hr1' := hrd'.drew
    have p1 : Box w2.drew _ _ _ := q1
    have p2 : Box w2.drew _ _ _ := q2
    have hbw := hbw.drew
    have S1 := Lib.hid (fun W (h : Rd W.heap.size W t _) (h' : Rd W.heap.size W t' _) => same_any t t' (.agg #[.int .i64 k, .int .i64 n, .string s, .slice a len cap]) (.agg #[.int .i64 k', .int .i64 n', .string s', .slice a' len' cap']) W h h')
    have S2 := Lib.hid (fun W (h : Rd W.heap.size W t _) (h' : Rd W.heap.size W t' _) => refSame_any t t' (.agg #[.int .i64 k, .int .i64 n, .string s, .slice a len cap]) (.agg #[.int .i64 k', .int .i64 n', .string s', .slice a' len' cap']) W h h')
    have S3 := Lib.hid (fun W (h : Rd W.heap.size W t _) => same_any t t (.agg #[.int .i64 k, .int .i64 n, .string s, .slice a len cap]) (.agg #[.int .i64 k, .int .i64 n, .string s, .slice a len cap]) W h h)
    have S4 := Lib.hid (fun W (h : Rd W.heap.size W t' _) => same_any t' t' (.agg #[.int .i64 k', .int .i64 n', .string s', .slice a' len' cap']) (.agg #[.int .i64 k', .int .i64 n', .string s', .slice a' len' cap']) W h h)
    rw [same_refl] at S3 S4
    generalize same t t' = X at *
    go_region_held3 (fun w' => w'.cell? ⟨w.heap.size, 0, none⟩ = some (.int .i64 k) ∧ w'.cell? ⟨w.heap.size, 1, none⟩ = some (.int .i64 n) ∧ w'.cell? ⟨w.heap.size, 2, none⟩ = some (.string s) ∧ w'.cell? ⟨w.heap.size, 3, none⟩ = some (.slice a len cap) ∧
        w'.cell? ⟨w.heap.size + 1, 0, none⟩ = some (.int .i64 k') ∧ w'.cell? ⟨w.heap.size + 1, 1, none⟩ = some (.int .i64 n') ∧ w'.cell? ⟨w.heap.size + 1, 2, none⟩ = some (.string s') ∧ w'.cell? ⟨w.heap.size + 1, 3, none⟩ = some (.slice a' len' cap'))
      (first | exact ⟨p1.cell 0, p1.cell 1, p1.cell 2, p1.cell 3, p2.cell 0, p2.cell 1, p2.cell 2, p2.cell 3⟩ | go_keep)
      (first
        | (go_at_call 20; (with_reducible refine (S2.out _ hr1 hr1').mono ?_); rintro e w3 ⟨rfl, hb3⟩; have p1 := p1.below hb3; have p2 := p2.below hb3; have hr1 := hr1.up hb3; have hr1' := hr1'.up hb3; have hbw := hbw.trans (hb3.mono hbw.size))
        | (go_at_call 21; (with_reducible refine (S1.out _ hr1 hr1').mono ?_); rintro e w3 ⟨rfl, hb3⟩; have p1 := p1.below hb3; have p2 := p2.below hb3; have hr1 := hr1.up hb3; have hr1' := hr1'.up hb3; have hbw := hbw.trans (hb3.mono hbw.size))
        | (go_at_call 21; (with_reducible refine (S3.out _ hr1).mono ?_); rintro e w3 ⟨rfl, hb3⟩; have p1 := p1.below hb3; have p2 := p2.below hb3; have hr1 := hr1.up hb3; have hr1' := hr1'.up hb3; have hbw := hbw.trans (hb3.mono hbw.size))
        | (go_at_call 21; (with_reducible refine (S4.out _ hr1').mono ?_); rintro e w3 ⟨rfl, hb3⟩; have p1 := p1.below hb3; have p2 := p2.below hb3; have hr1 := hr1.up hb3; have hr1' := hr1'.up hb3; have hbw := hbw.trans (hb3.mono hbw.size))
        | fail)
    all_goals
      go_wp2_with fail
      go_ret
      exact ⟨rfl, hbw⟩
end Go.Proofs.Ytkihimafeonibaa
