/- The law of the round trip. -/
import Derived.Test.YtkihimafeonibaaLawEnc
import Derived.Test.YtkihimafeonibaaLawSame
import Derived.Test.YtkihimafeonibaaPlain2
namespace Go.Proofs.Ytkihimafeonibaa
open Go.RowKit
set_option linter.unusedVariables false

theorem Bs.up {w w' : World} {A : Option Addr} {l : List UInt8} (h : Bs w.heap.size w A l) (hb : Below w.heap.size w w') : Bs w'.heap.size w' A l := by
  intro hl
  obtain ⟨b, off, rfl, hlt, hc⟩ := h hl
  have hs := hb.size
  exact ⟨b, off, rfl, by omega, fun j u hu => by rw [hb.cell (by exact hlt)]; exact hc j u hu⟩

def tZ : T := .mk 0 0 ⟨#[]⟩ 0 (fun _ => .nil)
theorem tZ_rd (w : World) : Rd w.heap.size w tZ (.agg #[.int .i64 0, .int .i64 0, .string ⟨#[]⟩, .slice none 0 0]) :=
  ⟨none, 0, rfl, by unfold Fit; omega, by unfold Fit; omega, by unfold maxLen; simp [ByteArray.size], by unfold maxLen; simp, fun h => absurd h (by simp)⟩

theorem dec_spec {l : List UInt8} {t : T} (h : decode l = some t) : enc t = l ∧ chk t = 0 ∧ dep t ≤ 16 := by
  unfold decode at h
  cases hp : pval 16 l with
  | none => rw [hp] at h; cases h
  | some x =>
    rw [hp] at h
    simp only at h
    split at h
    · rename_i hx
      injection h with h
      subst h
      obtain ⟨u, r⟩ := x
      simp only at hx
      subst hx
      obtain ⟨h1, h2, h3⟩ := pval_enc _ _ _ _ hp
      exact ⟨by rw [h1, List.append_nil], chk_ok h2 h3, h3⟩
    · cases h
theorem dec_enc {t : T} (hl : Lim t) (hc : chk t = 0) : ∃ t', decode (enc t) = some t' ∧ same t t' = true := by
  obtain ⟨h1, h2⟩ := chk_zero hc
  obtain ⟨t', h3, h4⟩ := enc_pval t 16 [] hl h1 h2
  rw [List.append_nil] at h3
  refine ⟨t', ?_, h4⟩
  unfold decode
  rw [h3]
  simp

set_option maxHeartbeats 1000000 in
set_option maxRecDepth 100000 in
theorem lawRound_any (t : T) (v : Value) (l : List UInt8) (A : Option Addr) (c : Nat) (w : World) (hrd : Rd w.heap.size w t v) (hB : Bs w.heap.size w A l) (hc1 : l.length ≤ c) (hc2 : c ≤ maxLen) :
    Calls Try.prog 6 #[v, .slice A l.length c] w fun e w' => e = .returned (.bool true) ∧ Below w.heap.size w w' := by
  obtain ⟨k, n, s, len, f, rfl⟩ := hrd.ex
  have hrd1 := hrd
  obtain ⟨a, cap, rfl, h1, h2, h3, h4, _⟩ := hrd1
  generalize hT : T.mk k n s len f = t at *
  clear hT h1 h2 h3 h4
  have hb := (Below.refl w.heap.size w).alloc (Nat.le_refl _) (.cells #[.int .i64 k, .int .i64 n, .string s, .slice a len cap] 24)
  have q1 := Box.new w #[.int .i64 k, .int .i64 n, .string s, .slice a len cap] 24
  have hrd := hrd.up hb
  have hbw := hb
  clear hb
  go_enter Try.func6, Try.ntmps6
  go_wp2_with fail
  refine (sane_any _).mono ?_
  rintro e w1 ⟨rfl, hb1⟩
  have q1 := q1.below hb1
  have hrd := hrd.up hb1
  have hbw := hbw.trans (hb1.mono hbw.size)
  clear hb1
  have c10 := q1.cell 0
  have c11 := q1.cell 1
  have c12 := q1.cell 2
  have c13 := q1.cell 3
  simp only [List.getElem?_toArray, List.getElem?_cons_zero, List.getElem?_cons_succ] at c10 c11 c12 c13
  have hb1 := (Below.refl w1.heap.size w1).alloc (Nat.le_refl _) (.cells #[.int .i64 k, .int .i64 n, .string s, .slice a len cap] 24)
  have q3 := Box.new w1 #[.int .i64 k, .int .i64 n, .string s, .slice a len cap] 24
  have q1 := q1.below hb1
  have hrd := hrd.up hb1
  have hbw := hbw.trans (hb1.mono hbw.size)
  have HC := Lib.hid (few_any 1 1 _ _ _ (by unfold maxLen; omega) (one_rds q3 hrd))
  rw [all_one] at HC
  clear hb1 q3
  go_wp2_with fail
  refine HC.out.mono ?_
  rintro e w2 ⟨rfl, hb1⟩
  have q1 := q1.below hb1
  have hrd := hrd.up hb1
  have hbw := hbw.trans (hb1.mono hbw.size)
  clear hb1 HC c10 c11 c12 c13
  cases hfew : few1 t 20
  · clear hfew
    go_wp2_with fail
    go_ret
    exact ⟨rfl, hbw⟩
  · by_cases hlen : 2000 < l.length
    · clear hfew
      generalize l.length = L at *
      go_wp2_with fail
      go_ret
      exact ⟨rfl, hbw⟩
    have hsm := few1_small hrd.short hfew
    have hlim := hrd.lim
    have c10 := q1.cell 0
    have c11 := q1.cell 1
    have c12 := q1.cell 2
    have c13 := q1.cell 3
    simp only [List.getElem?_toArray, List.getElem?_cons_zero, List.getElem?_cons_succ] at c10 c11 c12 c13
    have HC := Lib.hid (encode_any t _ _ hrd hfew)
    have HS := Lib.hid hsm
    have HL := Lib.hid hlim
    clear hfew hsm hlim
    go_wp2_with fail
    refine HC.out.mono ?_
    rintro e w3 ⟨A1, C1, rfl, ho1, hb1⟩
    have q1 := q1.below hb1
    have hrd := hrd.up hb1
    have hbw := hbw.trans (hb1.mono hbw.size)
    clear hb1 HC c10 c11 c12 c13
    have c10 := q1.cell 0
    have c11 := q1.cell 1
    have c12 := q1.cell 2
    have c13 := q1.cell 3
    simp only [List.getElem?_toArray, List.getElem?_cons_zero, List.getElem?_cons_succ] at c10 c11 c12 c13
    have HC := Lib.hid (check_any t _ _ hrd (by have := HS.out; omega))
    go_wp2_with fail
    refine HC.out.mono ?_
    rintro e w4 ⟨rfl, hb1⟩
    have q1 := q1.below hb1
    have hrd := hrd.up hb1
    have ho1 := own_below ho1 hb1
    have hbw := hbw.trans (hb1.mono hbw.size)
    clear hb1 HC c10 c11 c12 c13
    by_cases k1 : chk t = 0
    case neg =>
      clear q1 hrd ho1 HS HL
      generalize chk t = X at *
      have hBt := hB.up hbw
      have HC := Lib.hid (decode_any l A c _ hBt hc1 hc2 (by omega))
      clear hBt
      go_wp2_with fail
      refine HC.out.mono ?_
      rintro e w5 hD
      clear HC
      cases hdec : decode l with
      | none =>
        rw [hdec] at hD
        obtain ⟨rfl, hb1⟩ := hD
        have hbw := hbw.trans (hb1.mono hbw.size)
        clear hb1 hdec
        have hb1 := (Below.refl w5.heap.size w5).alloc (Nat.le_refl _) (.cells #[.int .i64 0, .int .i64 0, .string ⟨#[]⟩, .slice none 0 0] 24)
        have hbw := hbw.trans (hb1.mono hbw.size)
        have HC := Lib.hid (same_any tZ tZ _ _ _ (tZ_rd (w5.alloc (.cells #[.int .i64 0, .int .i64 0, .string ⟨#[]⟩, .slice none 0 0] 24))) (tZ_rd (w5.alloc (.cells #[.int .i64 0, .int .i64 0, .string ⟨#[]⟩, .slice none 0 0] 24))))
        rw [same_refl] at HC
        clear hb1
        go_wp2_with fail
        refine HC.out.mono ?_
        rintro e w6 ⟨rfl, hb1⟩
        have hbw := hbw.trans (hb1.mono hbw.size)
        clear hb1 HC
        go_wp2_with fail
        go_ret
        exact ⟨rfl, hbw⟩
      | some t2 =>
        rw [hdec] at hD
        obtain ⟨v2, rfl, hrq, hb1⟩ := hD
        have hbw := hbw.trans (hb1.mono hbw.size)
        clear hb1
        obtain ⟨he, hck, hdp⟩ := dec_spec hdec
        obtain ⟨k9, n9, s9, a9, m9, c9, rfl⟩ := hrq.form
        have hb1 := (Below.refl w5.heap.size w5).alloc (Nat.le_refl _) (.cells #[.int .i64 k9, .int .i64 n9, .string s9, .slice a9 m9 c9] 24)
        have q9 := Box.new w5 #[.int .i64 k9, .int .i64 n9, .string s9, .slice a9 m9 c9] 24
        have hr9 := hrq.rd.up hb1
        have hbw := hbw.trans (hb1.mono hbw.size)
        clear hb1 hdec hrq
        have HC := Lib.hid (encode_good t2 _ _ hr9 (by omega) hck (by rw [he]; omega))
        rw [he] at HC
        have HDP := Lib.hid hdp
        have HCK := Lib.hid hck
        clear hdp hck he
        go_wp2_with fail
        refine HC.out.mono ?_
        rintro e w6 ⟨u, rfl, ho, hb1⟩
        obtain ⟨A3, C3, rfl⟩ := own_form ho
        have q9 := q9.below hb1
        have hr9 := hr9.up hb1
        have hbw := hbw.trans (hb1.mono hbw.size)
        clear hb1 HC
        have hcv1 := run_str_own ho
        have hcv2 := conv_bs c (hB.up hbw)
        have c90 := q9.cell 0
        have c91 := q9.cell 1
        have c92 := q9.cell 2
        have c93 := q9.cell 3
        simp only [List.getElem?_toArray, List.getElem?_cons_zero, List.getElem?_cons_succ] at c90 c91 c92 c93
        have HC := Lib.hid (check_any t2 _ _ hr9 (by have := HDP.out; omega))
        rw [HCK.out] at HC
        clear ho q9 hr9
        go_wp2_with fail
        refine HC.out.mono ?_
        rintro e w7 ⟨rfl, hb1⟩
        have hbw := hbw.trans (hb1.mono hbw.size)
        clear hb1 HC hcv1 hcv2 c90 c91 c92 c93
        go_wp2_with fail
        go_ret
        exact ⟨rfl, hbw⟩
    have hO : out t = enc t := by unfold out; rw [if_pos k1]
    rw [hO] at ho1
    rw [hO, k1]
    clear hO
    obtain ⟨t', hde, hsa⟩ := dec_enc HL.out k1
    obtain ⟨hB2, hc21, hc22⟩ := Bs.of_own ho1
    have HC := Lib.hid (decode_any _ _ _ _ hB2 hc21 hc22 (by have := HS.out; omega))
    rw [hde] at HC
    clear hB2 ho1 k1 hde
    generalize (enc t).length = EL at *
    go_wp2_with fail
    refine HC.out.mono ?_
    rintro e w8 ⟨v8, rfl, hrq, hb1⟩
    have q1 := q1.below hb1
    have hrd := hrd.up hb1
    have hbw := hbw.trans (hb1.mono hbw.size)
    clear hb1 HC
    obtain ⟨k8, n8, s8, a8, m8, c8, rfl⟩ := hrq.form
    have hb1 := (Below.refl w8.heap.size w8).alloc (Nat.le_refl _) (.cells #[.int .i64 k8, .int .i64 n8, .string s8, .slice a8 m8 c8] 24)
    have q8 := Box.new w8 #[.int .i64 k8, .int .i64 n8, .string s8, .slice a8 m8 c8] 24
    have hr8 := hrq.rd.up hb1
    have q1 := q1.below hb1
    have hrd := hrd.up hb1
    have hbw := hbw.trans (hb1.mono hbw.size)
    clear hb1 hrq
    have c10 := q1.cell 0
    have c11 := q1.cell 1
    have c12 := q1.cell 2
    have c13 := q1.cell 3
    simp only [List.getElem?_toArray, List.getElem?_cons_zero, List.getElem?_cons_succ] at c10 c11 c12 c13
    have HC := Lib.hid (same_any t t' _ _ _ hrd hr8)
    rw [hsa] at HC
    have HSA := Lib.hid hsa
    clear hsa
    go_wp2_with fail
    refine HC.out.mono ?_
    rintro e w9 ⟨rfl, hb1⟩
    have q1 := q1.below hb1
    have q8 := q8.below hb1
    have hrd := hrd.up hb1
    have hr8 := hr8.up hb1
    have hbw := hbw.trans (hb1.mono hbw.size)
    clear hb1 HC c10 c11 c12 c13
    have c10 := q1.cell 0
    have c11 := q1.cell 1
    have c12 := q1.cell 2
    have c13 := q1.cell 3
    simp only [List.getElem?_toArray, List.getElem?_cons_zero, List.getElem?_cons_succ] at c10 c11 c12 c13
    have c80 := q8.cell 0
    have c81 := q8.cell 1
    have c82 := q8.cell 2
    have c83 := q8.cell 3
    simp only [List.getElem?_toArray, List.getElem?_cons_zero, List.getElem?_cons_succ] at c80 c81 c82 c83
    have HC := Lib.hid (refSame_any t t' _ _ _ hrd hr8)
    rw [HSA.out] at HC
    go_wp2_with fail
    refine HC.out.mono ?_
    rintro e w10 ⟨rfl, hb1⟩
    have hbw := hbw.trans (hb1.mono hbw.size)
    clear hb1 HC c10 c11 c12 c13 c80 c81 c82 c83 q1 q8 hrd hr8 HSA HS HL
    have hBt := hB.up hbw
    have HC := Lib.hid (decode_any l A c _ hBt hc1 hc2 (by omega))
    clear hBt
    go_wp2_with fail
    refine HC.out.mono ?_
    rintro e w5 hD
    clear HC
    cases hdec : decode l with
    | none =>
      rw [hdec] at hD
      obtain ⟨rfl, hb1⟩ := hD
      have hbw := hbw.trans (hb1.mono hbw.size)
      clear hb1 hdec
      have hb1 := (Below.refl w5.heap.size w5).alloc (Nat.le_refl _) (.cells #[.int .i64 0, .int .i64 0, .string ⟨#[]⟩, .slice none 0 0] 24)
      have hbw := hbw.trans (hb1.mono hbw.size)
      have HC := Lib.hid (same_any tZ tZ _ _ _ (tZ_rd (w5.alloc (.cells #[.int .i64 0, .int .i64 0, .string ⟨#[]⟩, .slice none 0 0] 24))) (tZ_rd (w5.alloc (.cells #[.int .i64 0, .int .i64 0, .string ⟨#[]⟩, .slice none 0 0] 24))))
      rw [same_refl] at HC
      clear hb1
      go_wp2_with fail
      refine HC.out.mono ?_
      rintro e w6 ⟨rfl, hb1⟩
      have hbw := hbw.trans (hb1.mono hbw.size)
      clear hb1 HC
      go_wp2_with fail
      go_ret
      exact ⟨rfl, hbw⟩
    | some t2 =>
      rw [hdec] at hD
      obtain ⟨v2, rfl, hrq, hb1⟩ := hD
      have hbw := hbw.trans (hb1.mono hbw.size)
      clear hb1
      obtain ⟨he, hck, hdp⟩ := dec_spec hdec
      obtain ⟨k9, n9, s9, a9, m9, c9, rfl⟩ := hrq.form
      have hb1 := (Below.refl w5.heap.size w5).alloc (Nat.le_refl _) (.cells #[.int .i64 k9, .int .i64 n9, .string s9, .slice a9 m9 c9] 24)
      have q9 := Box.new w5 #[.int .i64 k9, .int .i64 n9, .string s9, .slice a9 m9 c9] 24
      have hr9 := hrq.rd.up hb1
      have hbw := hbw.trans (hb1.mono hbw.size)
      clear hb1 hdec hrq
      have HC := Lib.hid (encode_good t2 _ _ hr9 (by omega) hck (by rw [he]; omega))
      rw [he] at HC
      have HDP := Lib.hid hdp
      have HCK := Lib.hid hck
      clear hdp hck he
      go_wp2_with fail
      refine HC.out.mono ?_
      rintro e w6 ⟨u, rfl, ho, hb1⟩
      obtain ⟨A3, C3, rfl⟩ := own_form ho
      have q9 := q9.below hb1
      have hr9 := hr9.up hb1
      have hbw := hbw.trans (hb1.mono hbw.size)
      clear hb1 HC
      have hcv1 := run_str_own ho
      have hcv2 := conv_bs c (hB.up hbw)
      have c90 := q9.cell 0
      have c91 := q9.cell 1
      have c92 := q9.cell 2
      have c93 := q9.cell 3
      simp only [List.getElem?_toArray, List.getElem?_cons_zero, List.getElem?_cons_succ] at c90 c91 c92 c93
      have HC := Lib.hid (check_any t2 _ _ hr9 (by have := HDP.out; omega))
      rw [HCK.out] at HC
      clear ho q9 hr9
      go_wp2_with fail
      refine HC.out.mono ?_
      rintro e w7 ⟨rfl, hb1⟩
      have hbw := hbw.trans (hb1.mono hbw.size)
      clear hb1 HC hcv1 hcv2 c90 c91 c92 c93
      go_wp2_with fail
      go_ret
      exact ⟨rfl, hbw⟩
end Go.Proofs.Ytkihimafeonibaa
