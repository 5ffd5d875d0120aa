/- LexBack. -/
import Derived.Test.YtojlibeecpmbnaaDoorFew
namespace Go.Proofs.YtojlibeecpmbnaaDoor
open Go.RowKit Go.Shelf
set_option linter.unusedVariables false
set_option linter.unusedSimpArgs false

theorem txo_cases (l : List Tk) : (txo l).2 = 0 ∨ (txo l).2 = 100 := by
  unfold txo
  split
  · exact .inl rfl
  · exact .inr rfl
/-- The second half of the law: of a source. -/
theorem lxo_three (s : List UInt8) (h : s.length ≤ 65536) : (∃ ts, lxo s = (ts, 0, 0)) ∨ ∃ j, lxo s = ([], j, 100) := by
  rw [lxo_of h]
  cases lex s with
  | ok ts => exact .inl ⟨ts, rfl⟩
  | no j => exact .inr ⟨j, rfl⟩

set_option maxHeartbeats 8000000 in
set_option maxRecDepth 100000 in
theorem lawBack_any (A : Option Addr) (c : Nat) (l : List Tk) (s : List UInt8) (w : World) (hK : KT w ∧ PT w) (hA : TT w A l c) (hl : s.length ≤ 9223372036854775807) :
    Calls Tryd.prog 5 #[.slice A l.length c, .string (bs s)] w (BoolPost true w) := by
  have HSN := Lib.hid (sane_any w hK.1 hK.2)
  have HKP := Lib.hid hK
  have HA := Lib.hid hA
  unfold BoolPost at HSN ⊢
  obtain ⟨L, hL⟩ : ∃ L, l.length = L := ⟨_, rfl⟩
  obtain ⟨M, hM⟩ : ∃ M, s.length = M := ⟨_, rfl⟩
  have HL := Lib.hid (And.intro hL hM)
  have hlem : ∀ wx, (Builtin.len_ #[9] 3 #[.string (bs s)]).run Tryd.prog wx = .ok (.int .i64 (M : Int)) wx := fun wx => by rw [bs_len s _ _ Tryd.underlying9, hM]
  rw [hM] at hl
  rw [hL]
  clear hK hL hM hA
  go_enter Tryd.func5, Tryd.ntmps5
  go_wp2_with fail
  refine HSN.out.mono ?_
  rintro e ws ⟨rfl, hbs⟩
  have HB := Lib.hid hbs
  have hfw := few_any l A c ws (HA.out.up hbs)
  rw [HL.out.1] at hfw
  have HFW := Lib.hid hfw
  unfold FewP at HFW
  clear hbs HSN hfw
  go_wp2_with fail
  refine HFW.out.mono ?_
  rintro e wf ⟨b, rfl, hb, hfew⟩
  have HB := Lib.hid (HB.out.trans (hb.mono HB.out.size))
  clear hb HFW
  cases b with
  | false =>
    clear hfew
    go_wp2_with fail
    go_ret
    exact ⟨rfl, HB.out⟩
  | true =>
  have h200 := hfew rfl
  clear hfew
  by_cases h3000 : 3000 < M
  case pos =>
    have hd : decide ((3000 : Int) < (M : Int)) = true := decide_eq_true (by omega)
    have hd2 : (3000 : Int) < (M : Int) := by omega
    go_wp2_with fail
    go_ret
    exact ⟨rfl, HB.out⟩
  have hd : decide ((3000 : Int) < (M : Int)) = false := decide_eq_false (by omega)
  have hd2 : ¬ (3000 : Int) < (M : Int) := by omega
  have htx := text_all l A c wf (HA.out.up HB.out) (HKP.out.1.below HB.out) (HKP.out.2.below HB.out) (by have := HL.out.1; omega)
  rw [HL.out.1] at htx
  have hbk := fun h => back_text (l := l) h (by have := HL.out.1; omega)
  obtain ⟨o, ho⟩ : ∃ o, txo l = o := ⟨_, rfl⟩
  have hoc := txo_cases l
  rw [ho] at htx hbk hoc
  obtain ⟨tx, ex⟩ := o
  unfold TextP at htx
  simp only at htx hbk hoc
  have HTX := Lib.hid htx
  have HBK := Lib.hid hbk
  clear ho htx hbk
  -- the second half, from whatever world
  have HSEC := Lib.hid (lxo_three s (by have := HL.out.2; omega))
  have HLS := Lib.hid (fun V (hb : Below w.heap.size w V) => lex_any s V (HKP.out.1.below hb) (by have := HL.out.2; omega))
  have HBS := Lib.hid (fun x (h : lxo s = (x, 0, 0)) => back_src (x := x) (by have := HL.out.2; omega) h)
  go_wp2_with fail
  refine HTX.out.mono ?_
  rintro e wt ⟨rfl, hbt⟩
  have HB := Lib.hid (HB.out.trans (hbt.mono HB.out.size))
  clear hbt HTX
  rcases hoc with he | he
  · subst he
    obtain ⟨m, hm, hsm⟩ := HBK.out rfl
    have hl1 := lex_any tx wt (HKP.out.1.below HB.out)
    have htl : tx.length ≤ 9223372036854775807 := by
      rcases Nat.lt_or_ge 65536 tx.length with h | h
      · have : lxo tx = ([], 0, 2) := if_pos h
        rw [this] at hm
        cases hm
      · omega
    have hl1 := hl1 htl
    rw [hm] at hl1
    have HL1 := Lib.hid hl1
    unfold LexP at HL1
    simp only at HL1
    obtain ⟨nm, hnm⟩ : ∃ n, m.length = n := ⟨_, rfl⟩
    rw [hnm] at HL1
    have HSM := Lib.hid (And.intro hsm hnm)
    clear hl1 hm hsm htl HBK hnm
    go_wp2_with fail
    refine HL1.out.mono ?_
    rintro e w1 ⟨A1, c1, rfl, hT1, hb⟩
    have HB := Lib.hid (HB.out.trans (hb.mono HB.out.size))
    have hq := same_any l m A A1 c c1 w1 (HA.out.up HB.out) hT1
    rw [HSM.out.1, HSM.out.2, HL.out.1] at hq
    have HQ := Lib.hid hq
    unfold BoolPost at HQ
    clear hb hT1 HL1 hq
    go_wp2_with fail
    refine HQ.out.mono ?_
    rintro e w2 ⟨rfl, hb⟩
    have HB := Lib.hid (HB.out.trans (hb.mono HB.out.size))
    clear hb HQ HSM
    rcases HSEC.out with ⟨x, hx⟩ | ⟨j, hx⟩
    · have hls := HLS.out _ HB.out
      rw [hx] at hls
      have hbs := HBS.out x hx
      have HLX := Lib.hid hls
      unfold LexP at HLX
      simp only at HLX
      obtain ⟨nx, hnx⟩ : ∃ n, x.length = n := ⟨_, rfl⟩
      rw [hnx] at HLX
      have HX := Lib.hid (And.intro hnx hbs)
      clear hls hbs hx hnx HSEC HLS HBS
      go_wp2_with fail
      refine HLX.out.mono ?_
      rintro e w3 ⟨A3, c3, rfl, hT3, hb⟩
      have HB := Lib.hid (HB.out.trans (hb.mono HB.out.size))
      have HT3 := Lib.hid hT3
      have htx := text_all x A3 c3 w3 hT3 (HKP.out.1.below HB.out) (HKP.out.2.below HB.out) (by have := HX.out.2.2.1; omega)
      rw [HX.out.1] at htx
      obtain ⟨m3, hm3, hs3⟩ := HX.out.2.2.2.2.2
      have hl3 := HX.out.2.2.2.2.1
      have he3 := HX.out.2.1
      obtain ⟨o3, ho3⟩ : ∃ o, txo x = o := ⟨_, rfl⟩
      rw [ho3] at htx hm3 hl3 he3
      obtain ⟨tx3, ex3⟩ := o3
      simp only at hm3 hl3 he3
      subst he3
      have HT4 := Lib.hid htx
      unfold TextP at HT4
      simp only at HT4
      have HM3 := Lib.hid (And.intro hm3 (And.intro hs3 hl3))
      clear hb hT3 HLX htx hm3 hs3 hl3 ho3
      go_wp2_with fail
      refine HT4.out.mono ?_
      rintro e w4 ⟨rfl, hb⟩
      have HB := Lib.hid (HB.out.trans (hb.mono HB.out.size))
      have HT3 := Lib.hid (HT3.out.up hb)
      have hl4 := lex_any tx3 w4 (HKP.out.1.below HB.out) (by have := HM3.out.2.2; omega)
      rw [HM3.out.1] at hl4
      have HL4 := Lib.hid hl4
      unfold LexP at HL4
      simp only at HL4
      obtain ⟨n3, hn3⟩ : ∃ n, m3.length = n := ⟨_, rfl⟩
      rw [hn3] at HL4
      have HN3 := Lib.hid hn3
      clear hb HT4 hl4 hn3
      go_wp2_with fail
      refine HL4.out.mono ?_
      rintro e w5 ⟨A5, c5, rfl, hT5, hb⟩
      have HB := Lib.hid (HB.out.trans (hb.mono HB.out.size))
      have hq := same_any x m3 A3 A5 c3 c5 w5 (HT3.out.up hb) hT5
      rw [HM3.out.2.1, HN3.out, HX.out.1] at hq
      have HQ := Lib.hid hq
      unfold BoolPost at HQ
      clear hb hT5 HL4 hq
      go_wp2_with fail
      refine HQ.out.mono ?_
      rintro e w6 ⟨rfl, hb⟩
      have HB := Lib.hid (HB.out.trans (hb.mono HB.out.size))
      clear hb HQ
      go_wp2_with fail
      go_ret
      exact ⟨rfl, HB.out⟩
    · have hls := HLS.out _ HB.out
      rw [hx] at hls
      have HLX := Lib.hid hls
      unfold LexP at HLX
      simp only at HLX
      clear hls hx HSEC HLS HBS
      go_wp2_with fail
      refine HLX.out.mono ?_
      rintro e w3 ⟨A3, c3, rfl, hT3, hb⟩
      have HB := Lib.hid (HB.out.trans (hb.mono HB.out.size))
      clear hb hT3 HLX
      go_wp2_with fail
      go_ret
      exact ⟨rfl, HB.out⟩
  · subst he
    clear HBK
    rcases HSEC.out with ⟨x, hx⟩ | ⟨j, hx⟩
    · have hls := HLS.out _ HB.out
      rw [hx] at hls
      have hbs := HBS.out x hx
      have HLX := Lib.hid hls
      unfold LexP at HLX
      simp only at HLX
      obtain ⟨nx, hnx⟩ : ∃ n, x.length = n := ⟨_, rfl⟩
      rw [hnx] at HLX
      have HX := Lib.hid (And.intro hnx hbs)
      clear hls hbs hx hnx HSEC HLS HBS
      go_wp2_with fail
      refine HLX.out.mono ?_
      rintro e w3 ⟨A3, c3, rfl, hT3, hb⟩
      have HB := Lib.hid (HB.out.trans (hb.mono HB.out.size))
      have HT3 := Lib.hid hT3
      have htx := text_all x A3 c3 w3 hT3 (HKP.out.1.below HB.out) (HKP.out.2.below HB.out) (by have := HX.out.2.2.1; omega)
      rw [HX.out.1] at htx
      obtain ⟨m3, hm3, hs3⟩ := HX.out.2.2.2.2.2
      have hl3 := HX.out.2.2.2.2.1
      have he3 := HX.out.2.1
      obtain ⟨o3, ho3⟩ : ∃ o, txo x = o := ⟨_, rfl⟩
      rw [ho3] at htx hm3 hl3 he3
      obtain ⟨tx3, ex3⟩ := o3
      simp only at hm3 hl3 he3
      subst he3
      have HT4 := Lib.hid htx
      unfold TextP at HT4
      simp only at HT4
      have HM3 := Lib.hid (And.intro hm3 (And.intro hs3 hl3))
      clear hb hT3 HLX htx hm3 hs3 hl3 ho3
      go_wp2_with fail
      refine HT4.out.mono ?_
      rintro e w4 ⟨rfl, hb⟩
      have HB := Lib.hid (HB.out.trans (hb.mono HB.out.size))
      have HT3 := Lib.hid (HT3.out.up hb)
      have hl4 := lex_any tx3 w4 (HKP.out.1.below HB.out) (by have := HM3.out.2.2; omega)
      rw [HM3.out.1] at hl4
      have HL4 := Lib.hid hl4
      unfold LexP at HL4
      simp only at HL4
      obtain ⟨n3, hn3⟩ : ∃ n, m3.length = n := ⟨_, rfl⟩
      rw [hn3] at HL4
      have HN3 := Lib.hid hn3
      clear hb HT4 hl4 hn3
      go_wp2_with fail
      refine HL4.out.mono ?_
      rintro e w5 ⟨A5, c5, rfl, hT5, hb⟩
      have HB := Lib.hid (HB.out.trans (hb.mono HB.out.size))
      have hq := same_any x m3 A3 A5 c3 c5 w5 (HT3.out.up hb) hT5
      rw [HM3.out.2.1, HN3.out, HX.out.1] at hq
      have HQ := Lib.hid hq
      unfold BoolPost at HQ
      clear hb hT5 HL4 hq
      go_wp2_with fail
      refine HQ.out.mono ?_
      rintro e w6 ⟨rfl, hb⟩
      have HB := Lib.hid (HB.out.trans (hb.mono HB.out.size))
      clear hb HQ
      go_wp2_with fail
      go_ret
      exact ⟨rfl, HB.out⟩
    · have hls := HLS.out _ HB.out
      rw [hx] at hls
      have HLX := Lib.hid hls
      unfold LexP at HLX
      simp only at HLX
      clear hls hx HSEC HLS HBS
      go_wp2_with fail
      refine HLX.out.mono ?_
      rintro e w3 ⟨A3, c3, rfl, hT3, hb⟩
      have HB := Lib.hid (HB.out.trans (hb.mono HB.out.size))
      clear hb hT3 HLX
      go_wp2_with fail
      go_ret
      exact ⟨rfl, HB.out⟩
end Go.Proofs.YtojlibeecpmbnaaDoor
