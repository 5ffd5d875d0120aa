import Derived.Test.YtkihimafeonibaaSane
namespace Go.Proofs.Ytkihimafeonibaa
open Go.RowKit
set_option linter.unusedVariables false

theorem RdQ.up {Q : Nat → Prop} {w w' : World} {t : T} {v : Value} (h : RdQ Q w t v) (hb : Below w.heap.size w w') : RdQ Q w' t v := h.keep fun b h1 h2 => ⟨h1, hb.block b h2⟩
theorem tInt_rd (w : World) (n : Int) (h : Fit n) : Rd w.heap.size w (tInt n) (.agg #[.int .i64 1, .int .i64 n, .string ⟨#[]⟩, .slice none 0 0]) := (RdQ.int (fun _ => True) w n h).rd
theorem tText_rd (w : World) (s : List UInt8) (h : s.length ≤ maxLen) : Rd w.heap.size w (tText s) (.agg #[.int .i64 2, .int .i64 0, .string ⟨s.toArray⟩, .slice none 0 0]) := (RdQ.text (fun _ => True) w s h).rd
theorem tV_rd {w : World} {g : Nat} (h : Box w g #[.int .i64 1, .int .i64 100, .string ⟨#[]⟩, .slice none 0 0, .int .i64 2, .int .i64 0, .string ⟨#[97, 98]⟩, .slice none 0 0] 24) :
    Rd w.heap.size w tV (.agg #[.int .i64 3, .int .i64 0, .string ⟨#[]⟩, .slice (some ⟨g, 0, none⟩) 2 2]) := by
  refine ⟨some ⟨g, 0, none⟩, 2, rfl, by unfold Fit; omega, by unfold Fit; omega, by unfold maxLen; simp [ByteArray.size], by unfold maxLen; omega, fun _ => ⟨g, 0, rfl, h.lt, fun i hi => ?_⟩⟩
  match i, hi with
  | 0, _ => exact ⟨_, _, _, _, h.cell 0, h.cell 1, h.cell 2, h.cell 3, tInt_rd w 100 (by unfold Fit; omega)⟩
  | 1, _ => exact ⟨_, _, _, _, h.cell 4, h.cell 5, h.cell 6, h.cell 7, tText_rd w [97, 98] (by unfold maxLen; simp)⟩

set_option maxHeartbeats 1000000 in
set_option maxRecDepth 100000 in
theorem sane_any (w : World) : Calls Try.prog 10 #[] w fun e w' => e = .returned (.bool true) ∧ Below w.heap.size w w' := by
  go_enter Try.func10, Try.ntmps10
  go_wp2_with fail
  refine (Int_any (-3) _).mono ?_
  rintro e w1 ⟨rfl, hb1⟩
  have HC := Lib.hid (encode_good (tInt (-3)) _ w1 (tInt_rd w1 (-3) (by unfold Fit; omega)) (by simp [dep, tInt]) chk_m3 (by rw [enc_m3]; simp))
  rw [enc_m3] at HC
  go_wp2_with fail
  refine HC.out.mono ?_
  rintro e w2 ⟨u, rfl, ho1, hb2⟩
  obtain ⟨A1, c1, rfl⟩ := own_form ho1
  have hbw := hb1.trans (hb2.mono hb1.size)
  clear HC hb1 hb2
  go_wp2_with fail
  refine (Int_any 100 _).mono ?_
  rintro e w3 ⟨rfl, hb1⟩
  have ho1 := own_below ho1 hb1
  have hbw := hbw.trans (hb1.mono hbw.size)
  clear hb1
  go_wp2_with fail
  refine (Text_any ⟨#[97, 98]⟩ _).mono ?_
  rintro e w4 ⟨rfl, hb1⟩
  have ho1 := own_below ho1 hb1
  have hbw := hbw.trans (hb1.mono hbw.size)
  clear hb1
  have q1 := Box.new w4 #[.int .i64 1, .int .i64 100, .string ⟨#[]⟩, .slice none 0 0, .int .i64 2, .int .i64 0, .string ⟨#[97, 98]⟩, .slice none 0 0] 24
  have hb1 := (Below.refl w4.heap.size w4).alloc (Nat.le_refl _) (.cells #[.int .i64 1, .int .i64 100, .string ⟨#[]⟩, .slice none 0 0, .int .i64 2, .int .i64 0, .string ⟨#[97, 98]⟩, .slice none 0 0] 24)
  have ho1 := own_below ho1 hb1
  have hbw := hbw.trans (hb1.mono hbw.size)
  clear hb1
  go_wp2_with fail
  refine (List_any _ 2 2 _).mono ?_
  rintro e w5 ⟨rfl, hb1⟩
  have ho1 := own_below ho1 hb1
  have q1 := q1.below hb1
  have hbw := hbw.trans (hb1.mono hbw.size)
  clear hb1
  generalize w4.heap.size = g at *
  have q3 := Box.new w5 #[.int .i64 3, .int .i64 0, .string ⟨#[]⟩, .slice (some ⟨g, 0, none⟩) 2 2] 24
  have hb1 := (Below.refl w5.heap.size w5).alloc (Nat.le_refl _) (.cells #[.int .i64 3, .int .i64 0, .string ⟨#[]⟩, .slice (some ⟨g, 0, none⟩) 2 2] 24)
  have ho1 := own_below ho1 hb1
  have q1 := q1.below hb1
  have hbw := hbw.trans (hb1.mono hbw.size)
  clear hb1
  have HC := Lib.hid (encode_good tV _ _ (tV_rd q1) (by simp [dep, tV, tInt, tText, maxTo]) chk_tV (by rw [enc_tV]; simp))
  rw [enc_tV] at HC
  go_wp2_with fail
  refine HC.out.mono ?_
  rintro e w6 ⟨u, rfl, ho2, hb1⟩
  obtain ⟨A2, c2, rfl⟩ := own_form ho2
  have ho1 := own_below ho1 hb1
  have q1 := q1.below hb1
  have q3 := q3.below hb1
  have hbw := hbw.trans (hb1.mono hbw.size)
  clear hb1 HC
  obtain ⟨hB2, hc21, hc22⟩ := Bs.of_own ho2
  have HC := Lib.hid (decode_any _ _ _ _ hB2 hc21 hc22 (by simp))
  rw [dec_eq] at HC
  go_wp2_with fail
  refine HC.out.mono ?_
  rintro e w7 ⟨v, rfl, hrq, hb1⟩
  have ho1 := own_below ho1 hb1
  have ho2 := own_below ho2 hb1
  have q1 := q1.below hb1
  have q3 := q3.below hb1
  have hbw := hbw.trans (hb1.mono hbw.size)
  clear hb1 HC hB2
  obtain ⟨k1, n1, s1, a1, m1, c7, rfl⟩ := hrq.form
  have hl3 := q3.lt
  have c30 := q3.cell 0
  have c31 := q3.cell 1
  have c32 := q3.cell 2
  have c33 := q3.cell 3
  simp only [List.getElem?_toArray, List.getElem?_cons_zero, List.getElem?_cons_succ] at c30 c31 c32 c33
  have q6 := Box.new w7 #[.int .i64 k1, .int .i64 n1, .string s1, .slice a1 m1 c7] 24
  have hb1 := (Below.refl w7.heap.size w7).alloc (Nat.le_refl _) (.cells #[.int .i64 k1, .int .i64 n1, .string s1, .slice a1 m1 c7] 24)
  have ho1 := own_below ho1 hb1
  have ho2 := own_below ho2 hb1
  have q1 := q1.below hb1
  have q3 := q3.below hb1
  have hrq := hrq.up hb1
  have hbw := hbw.trans (hb1.mono hbw.size)
  clear hb1
  have HC := Lib.hid (size_good tV _ _ (tV_rd q1) (by simp [dep, tV, tInt, tText, maxTo]) chk_tV (by rw [enc_tV]; simp))
  rw [enc_tV] at HC
  go_wp2_with fail
  refine HC.out.mono ?_
  rintro e w8 ⟨rfl, hb1⟩
  have ho1 := own_below ho1 hb1
  have ho2 := own_below ho2 hb1
  have q1 := q1.below hb1
  have q3 := q3.below hb1
  have q6 := q6.below hb1
  have hrq := hrq.up hb1
  have hbw := hbw.trans (hb1.mono hbw.size)
  clear hb1 c30 c31 c32 c33 hl3 HC
  have hcv1 := run_str_own ho1
  have hcv2 := run_str_own ho2
  simp only [List.length_cons, List.length_nil, Nat.zero_add, Nat.reduceAdd] at hcv1 hcv2
  have c30 := q3.cell 0
  have c31 := q3.cell 1
  have c32 := q3.cell 2
  have c33 := q3.cell 3
  have c60 := q6.cell 0
  have c61 := q6.cell 1
  have c62 := q6.cell 2
  have c63 := q6.cell 3
  simp only [List.getElem?_toArray, List.getElem?_cons_zero, List.getElem?_cons_succ] at c30 c31 c32 c33 c60 c61 c62 c63
  have HC := Lib.hid (same_any tV (tList [tInt 100, tText [97, 98]]) _ _ w8 (tV_rd q1) hrq.rd)
  rw [dec_same] at HC
  clear ho1 ho2 q1 q3 q6 hrq
  go_wp2_with fail
  refine HC.out.mono ?_
  rintro e w9 ⟨rfl, hb1⟩
  have hbw := hbw.trans (hb1.mono hbw.size)
  clear hb1 HC hcv1 hcv2 c30 c31 c32 c33 c60 c61 c62 c63
  go_wp2_with fail
  refine (Text_any ⟨#[]⟩ _).mono ?_
  rintro e w10 ⟨rfl, hb1⟩
  have hbw := hbw.trans (hb1.mono hbw.size)
  clear hb1
  go_wp2_with fail
  refine (List_any none 0 0 _).mono ?_
  rintro e w11 ⟨rfl, hb1⟩
  have hbw := hbw.trans (hb1.mono hbw.size)
  clear hb1
  have HC := Lib.hid (same_any (tText []) (tList []) _ _ w11 (tText_rd w11 [] (by unfold maxLen; simp)) (RdQ.rd (Q := fun _ => True) (v := .agg #[.int .i64 3, .int .i64 0, .string ⟨#[]⟩, .slice none 0 0]) ⟨none, 0, rfl, by unfold Fit; omega, by unfold Fit; omega, by unfold maxLen; simp [ByteArray.size], by unfold maxLen; simp, fun h => absurd h (by simp)⟩))
  rw [same_empty] at HC
  go_wp2_with fail
  refine HC.out.mono ?_
  rintro e w12 ⟨rfl, hb1⟩
  have hbw := hbw.trans (hb1.mono hbw.size)
  clear hb1 HC
  go_wp2_with fail
  have q9 := Box.new w12 #[.string (badStr 0), .string (badStr 1), .string (badStr 2), .string (badStr 3)] 9
  have hb1 := (Below.refl w12.heap.size w12).alloc (Nat.le_refl _) (.cells #[.string (badStr 0), .string (badStr 1), .string (badStr 2), .string (badStr 3)] 9)
  have hbw := hbw.trans (hb1.mono hbw.size)
  clear hb1
  generalize w12.heap.size = g9 at *
  go_loopw [79] (fun i wr => ∃ j : Nat, j ≤ 4 ∧ i = .int .i64 j ∧ Box wr g9 #[.string (badStr 0), .string (badStr 1), .string (badStr 2), .string (badStr 3)] 9 ∧ Below w.heap.size w wr) (fun i _ => 4 - (intOf i).toNat)
  case atStart => exact ⟨0, by omega, rfl, q9, hbw⟩
  case round =>
    clear q9 hbw
    obtain ⟨j, hj, rfl, q9, hbw⟩ := hrel
    by_cases hlt : j < 4
    · have hcell : wr.cell? ⟨g9, j, none⟩ = some (.string (badStr j)) := by
        match j, hlt with
        | 0, _ => exact q9.cell 0
        | 1, _ => exact q9.cell 1
        | 2, _ => exact q9.cell 2
        | 3, _ => exact q9.cell 3
      have hs3 := bad_size j
      obtain ⟨c, wc, hcv, hb1, hB, hc1, hc2⟩ := conv_str wr (badStr j) (by unfold maxLen; omega)
      have HC := Lib.hid (decode_any (badStr j).data.toList _ c wc hB hc1 hc2 (by show (badStr j).size ≤ _; omega))
      rw [bad_none] at HC
      have hsz : (badStr j).data.toList.length = (badStr j).size := rfl
      rw [hsz] at HC
      have q9 := q9.below hb1
      have hbw := hbw.trans (hb1.mono hbw.size)
      clear hsz hb1 hB hc1 hc2
      generalize badStr j = bs at *
      go_wp2_with fail
      refine HC.out.mono ?_
      rintro e w13 ⟨rfl, hb1⟩
      have q9 := q9.below hb1
      have hbw := hbw.trans (hb1.mono hbw.size)
      clear hb1 HC hcv hcell
      have hb2 := (Below.refl w13.heap.size w13).alloc (Nat.le_refl _) (.cells #[.int .i64 0, .int .i64 0, .string ⟨#[]⟩, .slice none 0 0] 24)
      have q9 := q9.below hb2
      have hbw := hbw.trans (hb2.mono hbw.size)
      go_wp2_with fail
      go_roundw
      case rel => exact ⟨j + 1, by omega, by go_num, q9, hbw⟩
      case measure => simp [intOf]; omega
    · have HC := Lib.hid (check_any (.mk 0 0 ⟨#[]⟩ 0 (fun _ => .nil)) (.agg #[.int .i64 0, .int .i64 0, .string ⟨#[]⟩, .slice none 0 0]) wr ⟨none, 0, rfl, by unfold Fit; omega, by unfold Fit; omega, by unfold maxLen; simp [ByteArray.size], by unfold maxLen; simp, fun h => absurd h (by simp)⟩ (by simp [dep]))
      rw [show chk (.mk 0 0 ⟨#[]⟩ 0 (fun _ => .nil)) = 1 from by simp [chk, wfB]] at HC
      go_wp2_with fail
      refine HC.out.mono ?_
      rintro e w14 ⟨rfl, hb1⟩
      have hbw := hbw.trans (hb1.mono hbw.size)
      go_wp2_with fail
      go_ret
      exact ⟨rfl, hbw⟩
end Go.Proofs.Ytkihimafeonibaa
