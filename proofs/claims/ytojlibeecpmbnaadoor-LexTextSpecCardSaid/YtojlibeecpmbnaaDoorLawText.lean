/- LexTextSpec. -/
import Derived.Test.YtojlibeecpmbnaaDoorRTxt
import Derived.Test.YtojlibeecpmbnaaDoorFew
namespace Go.Proofs.YtojlibeecpmbnaaDoor
open Go.RowKit Go.Shelf
set_option linter.unusedVariables false
set_option linter.unusedSimpArgs false

set_option maxHeartbeats 8000000 in
set_option maxRecDepth 100000 in
theorem lawText_any (A : Option Addr) (c : Nat) (a : List Tk) (B : Option Addr) (d : Nat) (b : List Tk) (s : List UInt8) (w : World) (hK : KT w ∧ PT w) (hA : TT w A a c) (hB : TT w B b d) (hl : s.length ≤ 9223372036854775807) :
    Calls Tryd.prog 4 #[.slice A a.length c, .slice B b.length d, .string (bs s)] w (BoolPost true w) := by
  have HSN := Lib.hid (sane_any w hK.1 hK.2)
  have HKP := Lib.hid hK
  have HA := Lib.hid hA
  have HBB := Lib.hid hB
  unfold BoolPost at HSN ⊢
  obtain ⟨N, hN⟩ : ∃ N, s.length = N := ⟨_, rfl⟩
  have hlem : ∀ wx, (Builtin.len_ #[9] 3 #[.string (bs s)]).run Tryd.prog wx = .ok (.int .i64 (N : Int)) wx := fun wx => by rw [bs_len s _ _ Tryd.underlying9, hN]
  rw [hN] at hl
  obtain ⟨L, hL⟩ : ∃ L, a.length = L := ⟨_, rfl⟩
  obtain ⟨M, hM⟩ : ∃ M, b.length = M := ⟨_, rfl⟩
  have HL := Lib.hid (And.intro hL hM)
  rw [hL, hM]
  clear hK hA hB hN hL hM
  go_enter Tryd.func4, Tryd.ntmps4
  go_wp2_with fail
  refine HSN.out.mono ?_
  rintro e ws ⟨rfl, hbs⟩
  have HB := Lib.hid hbs
  have hfw := few_any a A c ws (HA.out.up hbs)
  rw [HL.out.1] at hfw
  have HFW := Lib.hid hfw
  unfold FewP at HFW
  clear hbs HSN hfw
  go_wp2_with fail
  refine HFW.out.mono ?_
  rintro e wf ⟨q, rfl, hb, hfew⟩
  have HB := Lib.hid (HB.out.trans (hb.mono HB.out.size))
  clear hb HFW
  cases q with
  | false =>
    clear hfew
    go_wp2_with fail
    go_ret
    exact ⟨rfl, HB.out⟩
  | true =>
  have hL200 := hfew rfl
  clear hfew
  have hfw := few_any b B d wf (HBB.out.up HB.out)
  rw [HL.out.2] at hfw
  have HFW := Lib.hid hfw
  unfold FewP at HFW
  clear hfw
  go_wp2_with fail
  refine HFW.out.mono ?_
  rintro e wg ⟨q, rfl, hb, hfew⟩
  have HB := Lib.hid (HB.out.trans (hb.mono HB.out.size))
  clear hb HFW
  cases q with
  | false =>
    clear hfew
    go_wp2_with fail
    go_ret
    exact ⟨rfl, HB.out⟩
  | true =>
  clear hfew
  by_cases h1000 : 1000 < N
  case pos =>
    have hd : decide ((1000 : Int) < (N : Int)) = true := decide_eq_true (by omega)
    have hd2 : (1000 : Int) < (N : Int) := by omega
    go_wp2_with fail
    go_ret
    exact ⟨rfl, HB.out⟩
  have hd : decide ((1000 : Int) < (N : Int)) = false := decide_eq_false (by omega)
  have hd2 : ¬ (1000 : Int) < (N : Int) := by omega
  have htx := text_all a A c wg (HA.out.up HB.out) (HKP.out.1.below HB.out) (HKP.out.2.below HB.out) (by have := HL.out.1; omega)
  have hrx := fun (wx : World) (h : TT wx A a c) => rText_any a A c wx h (by have := HL.out.1; omega)
  obtain ⟨o, ho⟩ : ∃ o, txo a = o := ⟨_, rfl⟩
  rw [ho] at htx hrx
  obtain ⟨x, er⟩ := o
  unfold TextP at htx hrx
  simp only [HL.out.1] at htx hrx
  have HTX := Lib.hid htx
  have HRX := Lib.hid hrx
  clear htx hrx ho
  go_wp2_with fail
  refine HTX.out.mono ?_
  rintro e w1 ⟨rfl, hb⟩
  have HB := Lib.hid (HB.out.trans (hb.mono HB.out.size))
  have HR := Lib.hid (HRX.out w1 (HA.out.up HB.out))
  clear hb HTX HRX
  go_wp2_with fail
  refine HR.out.mono ?_
  rintro e w2 ⟨rfl, hb⟩
  have HB := Lib.hid (HB.out.trans (hb.mono HB.out.size))
  obtain ⟨m, hm⟩ : ∃ m, smt a b = m := ⟨_, rfl⟩
  have h1 := same_any a b A B c d w2 (HA.out.up HB.out) (HBB.out.up HB.out)
  have h2 := fun (wx : World) (h3 : TT wx A a c) (h4 : TT wx B b d) => rsame_any a b A B c d wx h3 h4
  rw [hm, HL.out.1, HL.out.2] at h1
  simp only [hm, HL.out.1, HL.out.2] at h2
  have HS1 := Lib.hid h1
  have HS2 := Lib.hid h2
  unfold BoolPost at HS1 HS2
  clear hb HR h1 h2 hm
  go_wp2_with fail
  refine HS1.out.mono ?_
  rintro e w3 ⟨rfl, hb⟩
  have HB := Lib.hid (HB.out.trans (hb.mono HB.out.size))
  have HR := Lib.hid (HS2.out w3 (HA.out.up HB.out) (HBB.out.up HB.out))
  clear hb HS1 HS2
  go_wp2_with fail
  refine HR.out.mono ?_
  rintro e w4 ⟨rfl, hb⟩
  have HB := Lib.hid (HB.out.trans (hb.mono HB.out.size))
  have h1 := same_any a a A A c c w4 (HA.out.up HB.out) (HA.out.up HB.out)
  rw [smt_refl, HL.out.1] at h1
  have HS1 := Lib.hid h1
  unfold BoolPost at HS1
  clear hb HR h1
  go_wp2_with fail
  refine HS1.out.mono ?_
  rintro e w5 ⟨rfl, hb⟩
  have HB := Lib.hid (HB.out.trans (hb.mono HB.out.size))
  obtain ⟨k, hk⟩ : ∃ k, nm s = k := ⟨_, rfl⟩
  have h1 := name_all s w5 (HKP.out.1.below HB.out)
  have h2 := rName_all s w5
  rw [hk] at h1 h2
  have HN1 := Lib.hid h1
  have HN2 := Lib.hid h2
  unfold QBool at HN1 HN2
  clear hb HS1 h1 h2 hk
  go_wp2_with fail
  refine HN1.out.mono ?_
  rintro e w6 ⟨rfl, hw⟩
  obtain rfl := hw.symm
  go_wp2_with fail
  refine HN2.out.mono ?_
  rintro e w6 ⟨rfl, hw⟩
  obtain rfl := hw.symm
  go_wp2_with fail
  go_ret
  exact ⟨rfl, HB.out⟩
end Go.Proofs.YtojlibeecpmbnaaDoor
