/- The law that different values have different encodings. -/
import Derived.Test.YtemlkklcjemjcaaLawSame
import Derived.Test.YtemlkklcjemjcaaUnify
import Derived.Test.YtemlkklcjemjcaaPlain2
import Derived.BigQuiet
namespace Go.Proofs.Ytemlkklcjemjcaa
open Go.RowKit
set_option linter.unusedVariables false

theorem take_ne {t t' : T} (hl : Lim t) (hl' : Lim t') (hc : chk t = 0) (hc' : chk t' = 0) (hs : same t t' = false) (n : Nat) (hn : n = min (enc t).length (enc t').length) : (enc t).take n ≠ (enc t').take n := by
  intro h
  have : same t t' = true := by
    rcases Nat.le_total (enc t).length (enc t').length with hle | hle
    · have e : n = (enc t).length := by omega
      rw [e, List.take_length] at h
      refine enc_prefix hl hl' hc hc' (r := (enc t').drop (enc t).length) (r' := []) ?_
      rw [List.append_nil]
      conv => lhs; lhs; rw [h]
      exact List.take_append_drop _ _
    · have e : n = (enc t').length := by omega
      rw [e, List.take_length] at h
      refine enc_prefix hl hl' hc hc' (r := []) (r' := (enc t).drop (enc t').length) ?_
      rw [List.append_nil]
      conv => rhs; lhs; rw [← h]
      exact (List.take_append_drop _ _).symm
  rw [this] at hs
  cases hs

theorem conv_take {w : World} {B c n : Nat} {A : Option Addr} {l : List UInt8} (h : w.ownsRow B 5 1 (.slice A l.length c) l.length (l.map bv)) (hn : n ≤ l.length) :
    (convert 27 9 (.slice A n c)).run Try.prog w = .ok (.string ⟨(l.take n).toArray⟩) w := by
  have := conv_bs c ((Bs.of_own h).1.take (n := n))
  rw [List.length_take, Nat.min_eq_left hn] at this
  exact this

set_option maxHeartbeats 1000000 in
set_option maxRecDepth 100000 in
theorem lawDiff_any (t t' : T) (v v' : Value) (w : World) (hrd : Rd w.heap.size w t v) (hrd' : Rd w.heap.size w t' v') :
    Calls Try.prog 7 #[v, v'] w fun e w' => e = .returned (.bool true) ∧ Below w.heap.size w w' := by
  obtain ⟨k, n, s, len, f, rfl⟩ := hrd.ex
  obtain ⟨k', n', s', len', f', rfl⟩ := hrd'.ex
  have h0 := hrd
  have h0' := hrd'
  obtain ⟨a, cap, rfl, h1, h2, h3, h4, _⟩ := h0
  obtain ⟨a', cap', rfl, h1', h2', h3', h4', _⟩ := h0'
  generalize hT : T.mk k n s len f = t at *
  generalize hT' : T.mk k' n' s' len' f' = t' at *
  clear hT hT' h1 h2 h3 h4 h1' h2' h3' h4'
  have hb := ((Below.refl w.heap.size w).alloc (Nat.le_refl _) (.cells #[.int .i64 k, .int .i64 n, .string s, .slice a len cap] 24)).alloc (by simp) (.cells #[.int .i64 k', .int .i64 n', .string s', .slice a' len' cap'] 24)
  have q1 := (Box.new w #[.int .i64 k, .int .i64 n, .string s, .slice a len cap] 24).alloc (.cells #[.int .i64 k', .int .i64 n', .string s', .slice a' len' cap'] 24)
  have q2 := Box.new (w.alloc (.cells #[.int .i64 k, .int .i64 n, .string s, .slice a len cap] 24)) #[.int .i64 k', .int .i64 n', .string s', .slice a' len' cap'] 24
  simp only [World.size_alloc] at q2
  have hrd := hrd.up hb
  have hrd' := hrd'.up hb
  have hbw := hb
  clear hb
  go_enter Try.func7, Try.ntmps7
  go_wp2_with fail
  refine (sane_any _).mono ?_
  rintro e w1 ⟨rfl, hb1⟩
  have q1 := q1.below hb1
  have q2 := q2.below hb1
  have hrd := hrd.up hb1
  have hrd' := hrd'.up hb1
  have hbw := hbw.trans (hb1.mono hbw.size)
  clear hb1
  have c10 := q1.cell 0
  have c11 := q1.cell 1
  have c12 := q1.cell 2
  have c13 := q1.cell 3
  have c20 := q2.cell 0
  have c21 := q2.cell 1
  have c22 := q2.cell 2
  have c23 := q2.cell 3
  simp only [List.getElem?_toArray, List.getElem?_cons_zero, List.getElem?_cons_succ] at c10 c11 c12 c13 c20 c21 c22 c23
  have hb1 := (Below.refl w1.heap.size w1).alloc (Nat.le_refl _) (.cells #[.int .i64 k, .int .i64 n, .string s, .slice a len cap, .int .i64 k', .int .i64 n', .string s', .slice a' len' cap'] 24)
  have q3 := Box.new w1 #[.int .i64 k, .int .i64 n, .string s, .slice a len cap, .int .i64 k', .int .i64 n', .string s', .slice a' len' cap'] 24
  have q1 := q1.below hb1
  have q2 := q2.below hb1
  have hrd := hrd.up hb1
  have hrd' := hrd'.up hb1
  have hbw := hbw.trans (hb1.mono hbw.size)
  have HC := Lib.hid (few_any 2 2 _ _ _ (by unfold maxLen; omega) (pair_rds q3 hrd hrd'))
  clear hb1 q3
  go_wp2_with fail
  refine HC.out.mono ?_
  rintro e w2 ⟨rfl, hb1⟩
  have q1 := q1.below hb1
  have q2 := q2.below hb1
  have hrd := hrd.up hb1
  have hrd' := hrd'.up hb1
  have hbw := hbw.trans (hb1.mono hbw.size)
  clear hb1 HC c10 c11 c12 c13 c20 c21 c22 c23
  cases hfew : allTo (fun i => few1 (if i = 0 then t else t') 20) 2
  · clear hfew
    go_wp2_with fail
    go_ret
    exact ⟨rfl, hbw⟩
  · have hf1 : few1 t 20 = true := allTo_eq.1 hfew 0 (by omega)
    have hf2 : few1 t' 20 = true := allTo_eq.1 hfew 1 (by omega)
    have hl1 := hrd.lim
    have hl2 := hrd'.lim
    have hs1 := few1_small hrd.short hf1
    have hs2 := few1_small hrd'.short hf2
    clear hfew
    have c10 := q1.cell 0
    have c11 := q1.cell 1
    have c12 := q1.cell 2
    have c13 := q1.cell 3
    have c20 := q2.cell 0
    have c21 := q2.cell 1
    have c22 := q2.cell 2
    have c23 := q2.cell 3
    simp only [List.getElem?_toArray, List.getElem?_cons_zero, List.getElem?_cons_succ] at c10 c11 c12 c13 c20 c21 c22 c23
    have HC := Lib.hid (encode_any t _ _ hrd hf1)
    have F2 := Lib.hid hf2
    have L1 := Lib.hid hl1
    have L2 := Lib.hid hl2
    have S1 := Lib.hid hs1
    have S2 := Lib.hid hs2
    clear hf1 hf2 hl1 hl2 hs1 hs2
    go_wp2_with fail
    refine HC.out.mono ?_
    rintro e w3 ⟨A1, C1, rfl, ho1, hb1⟩
    have q1 := q1.below hb1
    have q2 := q2.below hb1
    have hrd := hrd.up hb1
    have hrd' := hrd'.up hb1
    have hbw := hbw.trans (hb1.mono hbw.size)
    clear hb1 HC c10 c11 c12 c13 c20 c21 c22 c23
    have c10 := q1.cell 0
    have c11 := q1.cell 1
    have c12 := q1.cell 2
    have c13 := q1.cell 3
    have c20 := q2.cell 0
    have c21 := q2.cell 1
    have c22 := q2.cell 2
    have c23 := q2.cell 3
    simp only [List.getElem?_toArray, List.getElem?_cons_zero, List.getElem?_cons_succ] at c10 c11 c12 c13 c20 c21 c22 c23
    have HC := Lib.hid (encode_any t' _ _ hrd' F2.out)
    go_wp2_with fail
    refine HC.out.mono ?_
    rintro e w4 ⟨A2, C2, rfl, ho2, hb1⟩
    have ho1 := own_below ho1 hb1
    have q1 := q1.below hb1
    have q2 := q2.below hb1
    have hrd := hrd.up hb1
    have hrd' := hrd'.up hb1
    have hbw := hbw.trans (hb1.mono hbw.size)
    clear hb1 HC c10 c11 c12 c13 c20 c21 c22 c23 F2
    by_cases k1 : chk t = 0
    case neg =>
      clear q1 q2 hrd hrd' ho1 ho2
      generalize chk t = X at *
      generalize chk t' = X' at *
      go_wp2_with fail
      go_ret
      exact ⟨rfl, hbw⟩
    by_cases k2 : chk t' = 0
    case neg =>
      clear q1 q2 hrd hrd' ho1 ho2
      generalize chk t = X at *
      generalize chk t' = X' at *
      go_wp2_with fail
      go_ret
      exact ⟨rfl, hbw⟩
    have hO : out t = enc t := by unfold out; rw [if_pos k1]
    have hO' : out t' = enc t' := by unfold out; rw [if_pos k2]
    rw [hO] at ho1
    rw [hO'] at ho2
    rw [hO, hO', k1, k2]
    clear hO hO'
    have K1 := Lib.hid k1
    have K2 := Lib.hid k2
    clear k1 k2
    have c10 := q1.cell 0
    have c11 := q1.cell 1
    have c12 := q1.cell 2
    have c13 := q1.cell 3
    have c20 := q2.cell 0
    have c21 := q2.cell 1
    have c22 := q2.cell 2
    have c23 := q2.cell 3
    simp only [List.getElem?_toArray, List.getElem?_cons_zero, List.getElem?_cons_succ] at c10 c11 c12 c13 c20 c21 c22 c23
    have HC := Lib.hid (same_any t t' _ _ _ hrd hrd')
    go_wp2_with fail
    refine HC.out.mono ?_
    rintro e w5 ⟨rfl, hb1⟩
    have ho1 := own_below ho1 hb1
    have ho2 := own_below ho2 hb1
    have hbw := hbw.trans (hb1.mono hbw.size)
    clear hb1 HC c10 c11 c12 c13 c20 c21 c22 c23 q1 q2 hrd hrd'
    cases hsame : same t t'
    · have hne := fun n hn => take_ne L1.out L2.out K1.out K2.out hsame n hn
      clear hsame L1 L2 S1 S2 K1 K2
      generalize enc t = E at *
      generalize enc t' = E' at *
      by_cases hle : E.length ≤ E'.length
      · have hne := hne E.length (by omega)
        obtain ⟨_, d1, d2⟩ := Bs.of_own ho1
        obtain ⟨_, d3, d4⟩ := Bs.of_own ho2
        have hcv1 := fun W (h : Below w5.heap.size w5 W) => conv_take (own_below ho1 h) (Nat.le_refl E.length)
        have hcv2 := fun W (h : Below w5.heap.size w5 W) => conv_take (own_below ho2 h) hle
        have hnn : (⟨(E.take E.length).toArray⟩ : ByteArray).toList ≠ (⟨(E'.take E.length).toArray⟩ : ByteArray).toList := by rw [toList_of, toList_of]; exact hne
        generalize (⟨(E.take E.length).toArray⟩ : ByteArray) = s1 at *
        generalize (⟨(E'.take E.length).toArray⟩ : ByteArray) = s2 at *
        unfold maxLen at *
        clear ho1 ho2 hne
        generalize E.length = m at *
        generalize E'.length = m' at *
        have i1 : (0 : Int) ≤ (m : Int) := by omega
        have i2 : (m : Int) ≤ (m' : Int) := by omega
        have i3 : (m : Int) ≤ (C1 : Int) := by omega
        have i4 : (m : Int) ≤ (C2 : Int) := by omega
        have hcv1 := hcv1 w5.drew ((Below.refl w5.heap.size w5).drew)
        have hcv2 := hcv2 w5.drew ((Below.refl w5.heap.size w5).drew)
        go_wp2_with fail
        go_region_held3 (fun w' => (convert 27 9 (.slice A1 m C1)).run Try.prog w' = .ok (.string s1) w' ∧ (convert 27 9 (.slice A2 m C2)).run Try.prog w' = .ok (.string s2) w')
          (first | exact ⟨hcv1, hcv2⟩ | go_keep)
          (first | fail)
        all_goals
          go_wp2_with fail
          go_ret
          exact ⟨ret_bool (a := !(s1.toList == s2.toList)) (b := true) (by simpa using hnn), hbw.drew⟩
      · have hne := hne E'.length (by omega)
        obtain ⟨_, d1, d2⟩ := Bs.of_own ho1
        obtain ⟨_, d3, d4⟩ := Bs.of_own ho2
        have hcv1 := fun W (h : Below w5.heap.size w5 W) => conv_take (own_below ho1 h) (show E'.length ≤ E.length by omega)
        have hcv2 := fun W (h : Below w5.heap.size w5 W) => conv_take (own_below ho2 h) (Nat.le_refl E'.length)
        have hnn : (⟨(E.take E'.length).toArray⟩ : ByteArray).toList ≠ (⟨(E'.take E'.length).toArray⟩ : ByteArray).toList := by rw [toList_of, toList_of]; exact hne
        generalize (⟨(E.take E'.length).toArray⟩ : ByteArray) = s1 at *
        generalize (⟨(E'.take E'.length).toArray⟩ : ByteArray) = s2 at *
        unfold maxLen at *
        clear ho1 ho2 hne
        generalize E.length = m at *
        generalize E'.length = m' at *
        have i1 : (0 : Int) ≤ (m' : Int) := by omega
        have i2 : (m' : Int) ≤ (m : Int) := by omega
        have i3 : (m' : Int) ≤ (C1 : Int) := by omega
        have i4 : (m' : Int) ≤ (C2 : Int) := by omega
        have hcv1 := hcv1 w5.drew ((Below.refl w5.heap.size w5).drew)
        have hcv2 := hcv2 w5.drew ((Below.refl w5.heap.size w5).drew)
        go_wp2_with fail
        go_region_held3 (fun w' => (convert 27 9 (.slice A1 m' C1)).run Try.prog w' = .ok (.string s1) w' ∧ (convert 27 9 (.slice A2 m' C2)).run Try.prog w' = .ok (.string s2) w')
          (first | exact ⟨hcv1, hcv2⟩ | go_keep)
          (first | fail)
        all_goals
          go_wp2_with fail
          go_ret
          exact ⟨ret_bool (a := !(s1.toList == s2.toList)) (b := true) (by simpa using hnn), hbw.drew⟩
    · have he := same_enc t t' hsame
      rw [← he] at ho2
      rw [← he]
      clear hsame L1 L2 S1 S2 K1 K2 he
      generalize enc t = E at *
      have hcv1 := run_str_own ho1
      have hcv2 := run_str_own ho2
      go_wp2_with fail
      go_ret
      exact ⟨rfl, hbw⟩
end Go.Proofs.Ytemlkklcjemjcaa
