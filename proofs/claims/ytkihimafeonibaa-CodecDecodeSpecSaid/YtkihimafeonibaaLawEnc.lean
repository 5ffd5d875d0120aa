/- The law that Encode, Size and Check are the reference's. -/
import Derived.Test.YtkihimafeonibaaSane2
import Derived.Test.YtkihimafeonibaaUnify
import Derived.Deep.RegionHeld3
namespace Go.Proofs.Ytkihimafeonibaa
open Go.RowKit
set_option linter.unusedVariables false

/-- One value alone in a new block. -/
theorem one_rds {w : World} {g : Nat} {t : T} {c0 c1 c2 c3 : Value} (h : Box w g #[c0, c1, c2, c3] 24)
    (hr : Rd w.heap.size w t (.agg #[c0, c1, c2, c3])) : RdS w.heap.size w 1 (fun _ => t) (some ⟨g, 0, none⟩) := by
  intro _
  refine ⟨g, 0, rfl, h.lt, fun i hi => ?_⟩
  match i, hi with
  | 0, _ => exact ⟨_, _, _, _, h.cell 0, h.cell 1, h.cell 2, h.cell 3, hr⟩
theorem all_one {p : Bool} : allTo (fun _ => p) 1 = p := by simp [allTo]

set_option maxHeartbeats 1000000 in
set_option maxRecDepth 100000 in
theorem lawEnc_any (t : T) (v : Value) (w : World) (hrd : Rd w.heap.size w t v) :
    Calls Try.prog 3 #[v] w fun e w' => e = .returned (.bool true) ∧ Below w.heap.size w w' := by
  obtain ⟨k, n, s, len, f, rfl⟩ := hrd.ex
  have hrd1 := hrd
  obtain ⟨a, cap, rfl, h1, h2, h3, h4, _⟩ := hrd1
  generalize hT : T.mk k n s len f = t at *
  clear hT h1 h2 h3 h4
  have hb := (Below.refl w.heap.size w).alloc (Nat.le_refl _) (.cells #[.int .i64 k, .int .i64 n, .string s, .slice a len cap] 24)
  have q1 := Box.new w #[.int .i64 k, .int .i64 n, .string s, .slice a len cap] 24
  have hrd := hrd.up hb
  have hbw := hb
  clear hb
  go_enter Try.func3, Try.ntmps3
  go_wp2_with fail
  refine (sane_any _).mono ?_
  rintro e w1 ⟨rfl, hb1⟩
  have q1 := q1.below hb1
  have hrd := hrd.up hb1
  have hbw := hbw.trans (hb1.mono hbw.size)
  clear hb1
  have c10 := q1.cell 0
  have c11 := q1.cell 1
  have c12 := q1.cell 2
  have c13 := q1.cell 3
  simp only [List.getElem?_toArray, List.getElem?_cons_zero, List.getElem?_cons_succ] at c10 c11 c12 c13
  have hb1 := (Below.refl w1.heap.size w1).alloc (Nat.le_refl _) (.cells #[.int .i64 k, .int .i64 n, .string s, .slice a len cap] 24)
  have q3 := Box.new w1 #[.int .i64 k, .int .i64 n, .string s, .slice a len cap] 24
  have q1 := q1.below hb1
  have hrd := hrd.up hb1
  have hbw := hbw.trans (hb1.mono hbw.size)
  have HC := Lib.hid (few_any 1 1 _ _ _ (by unfold maxLen; omega) (one_rds q3 hrd))
  rw [all_one] at HC
  clear hb1 q3
  go_wp2_with fail
  refine HC.out.mono ?_
  rintro e w2 ⟨rfl, hb1⟩
  have q1 := q1.below hb1
  have hrd := hrd.up hb1
  have hbw := hbw.trans (hb1.mono hbw.size)
  clear hb1 HC c10 c11 c12 c13
  cases hfew : few1 t 20
  · clear hfew
    go_wp2_with fail
    go_ret
    exact ⟨rfl, hbw⟩
  · have hsm := few1_small hrd.short hfew
    have c10 := q1.cell 0
    have c11 := q1.cell 1
    have c12 := q1.cell 2
    have c13 := q1.cell 3
    simp only [List.getElem?_toArray, List.getElem?_cons_zero, List.getElem?_cons_succ] at c10 c11 c12 c13
    have HC := Lib.hid (encode_any t _ _ hrd hfew)
    have HF := Lib.hid hfew
    have HS := Lib.hid hsm
    clear hfew hsm
    go_wp2_with fail
    refine HC.out.mono ?_
    rintro e w3 ⟨A1, C1, rfl, ho1, hb1⟩
    have q1 := q1.below hb1
    have hrd := hrd.up hb1
    have hbw := hbw.trans (hb1.mono hbw.size)
    clear hb1 HC c10 c11 c12 c13
    have c10 := q1.cell 0
    have c11 := q1.cell 1
    have c12 := q1.cell 2
    have c13 := q1.cell 3
    simp only [List.getElem?_toArray, List.getElem?_cons_zero, List.getElem?_cons_succ] at c10 c11 c12 c13
    have HC := Lib.hid (refEncode_any t _ _ hrd HF.out)
    go_wp2_with fail
    refine HC.out.mono ?_
    rintro e w4 ⟨A2, C2, rfl, ho2, hb1⟩
    have q1 := q1.below hb1
    have hrd := hrd.up hb1
    have ho1 := own_below ho1 hb1
    have hbw := hbw.trans (hb1.mono hbw.size)
    clear hb1 HC c10 c11 c12 c13
    have c10 := q1.cell 0
    have c11 := q1.cell 1
    have c12 := q1.cell 2
    have c13 := q1.cell 3
    simp only [List.getElem?_toArray, List.getElem?_cons_zero, List.getElem?_cons_succ] at c10 c11 c12 c13
    have HC := Lib.hid (size_any t _ _ hrd HF.out)
    go_wp2_with fail
    refine HC.out.mono ?_
    rintro e w5 ⟨rfl, hb1⟩
    have q1 := q1.below hb1
    have hrd := hrd.up hb1
    have ho1 := own_below ho1 hb1
    have ho2 := own_below ho2 hb1
    have hbw := hbw.trans (hb1.mono hbw.size)
    clear hb1 HC c10 c11 c12 c13
    have c10 := q1.cell 0
    have c11 := q1.cell 1
    have c12 := q1.cell 2
    have c13 := q1.cell 3
    simp only [List.getElem?_toArray, List.getElem?_cons_zero, List.getElem?_cons_succ] at c10 c11 c12 c13
    have HC := Lib.hid (refSize_any t _ _ hrd HF.out)
    go_wp2_with fail
    refine HC.out.mono ?_
    rintro e w6 ⟨rfl, hb1⟩
    have q1 := q1.below hb1
    have hrd := hrd.up hb1
    have ho1 := own_below ho1 hb1
    have ho2 := own_below ho2 hb1
    have hbw := hbw.trans (hb1.mono hbw.size)
    clear hb1 HC c10 c11 c12 c13
    go_wp2_with fail
    have hb1 := (Below.refl w6.heap.size w6).drew
    have hr1 := hrd.drew
    have p1 : Box w6.drew _ _ _ := q1
    have ho1 := own_below ho1 hb1
    have ho2 := own_below ho2 hb1
    have hbw := hbw.drew
    have S1 := Lib.hid (fun W (h : Rd W.heap.size W t _) => check_any t (.agg #[.int .i64 k, .int .i64 n, .string s, .slice a len cap]) W h (by have := HS.out; omega))
    have S2 := Lib.hid (fun W (h : Rd W.heap.size W t _) => refCheck_any t (.agg #[.int .i64 k, .int .i64 n, .string s, .slice a len cap]) W h (by have := HS.out; omega))
    clear hrd q1 hb1 HF HS
    generalize chk t = C at *
    generalize out t = O at *
    go_region_held3 (fun w' => w'.cell? ⟨w.heap.size, 0, none⟩ = some (.int .i64 k) ∧ w'.cell? ⟨w.heap.size, 1, none⟩ = some (.int .i64 n) ∧ w'.cell? ⟨w.heap.size, 2, none⟩ = some (.string s) ∧ w'.cell? ⟨w.heap.size, 3, none⟩ = some (.slice a len cap) ∧
        (convert 27 9 (.slice A1 O.length C1)).run Try.prog w' = .ok (.string ⟨O.toArray⟩) w' ∧ (convert 27 9 (.slice A2 O.length C2)).run Try.prog w' = .ok (.string ⟨O.toArray⟩) w')
      (first | exact ⟨p1.cell 0, p1.cell 1, p1.cell 2, p1.cell 3, run_str_own ho1, run_str_own ho2⟩ | go_keep)
      (first
        | (go_at_call 16; (with_reducible refine (S1.out _ hr1).mono ?_); rintro e w7 ⟨rfl, hb3⟩; have p1 := p1.below hb3; have hr1 := hr1.up hb3; have ho1 := own_below ho1 hb3; have ho2 := own_below ho2 hb3; have hbw := hbw.trans (hb3.mono hbw.size))
        | (go_at_call 17; (with_reducible refine (S2.out _ hr1).mono ?_); rintro e w7 ⟨rfl, hb3⟩; have p1 := p1.below hb3; have hr1 := hr1.up hb3; have ho1 := own_below ho1 hb3; have ho2 := own_below ho2 hb3; have hbw := hbw.trans (hb3.mono hbw.size))
        | fail)
    all_goals
      go_wp2_with fail
      go_ret
      exact ⟨rfl, hbw⟩
end Go.Proofs.Ytkihimafeonibaa
