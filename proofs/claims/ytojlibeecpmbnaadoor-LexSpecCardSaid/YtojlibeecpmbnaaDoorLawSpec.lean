/- LexSpec. -/
import Derived.Test.YtojlibeecpmbnaaDoorRLex
namespace Go.Proofs.YtojlibeecpmbnaaDoor
open Go.RowKit Go.Shelf
set_option linter.unusedVariables false
set_option linter.unusedSimpArgs false

set_option maxHeartbeats 8000000 in
set_option maxRecDepth 100000 in
theorem lawSpec_any (s : List UInt8) (w : World) (hK : KT w ∧ PT w) (hl : s.length ≤ 9223372036854775807) :
    Calls Tryd.prog 3 #[.string (bs s)] w (BoolPost true w) := by
  have HSN := Lib.hid (sane_any w hK.1 hK.2)
  have HKP := Lib.hid hK
  have HLL := Lib.hid hl
  unfold BoolPost at HSN ⊢
  obtain ⟨L, hL⟩ : ∃ L, s.length = L := ⟨_, rfl⟩
  have hlen : ∀ wx, (Builtin.len_ #[9] 3 #[.string (bs s)]).run Tryd.prog wx = .ok (.int .i64 (L : Int)) wx := fun wx => by rw [bs_len s _ _ Tryd.underlying9, hL]
  rw [hL] at hl
  clear hK hL
  go_enter Tryd.func3, Tryd.ntmps3
  go_wp2_with fail
  refine HSN.out.mono ?_
  rintro e ws ⟨rfl, hbs⟩
  have HB := Lib.hid hbs
  clear hbs HSN
  by_cases h7 : 70000 < L
  case pos =>
    have hd : decide ((70000 : Int) < (L : Int)) = true := decide_eq_true (by omega)
    have hd2 : (70000 : Int) < (L : Int) := by omega
    go_wp2_with fail
    go_ret
    exact ⟨rfl, HB.out⟩
  have hd : decide ((70000 : Int) < (L : Int)) = false := decide_eq_false (by omega)
  have hd2 : ¬ (70000 : Int) < (L : Int) := by omega
  have HLX := Lib.hid (lex_any s ws (HKP.out.1.below HB.out) HLL.out)
  have HRX := Lib.hid (fun (wx : World) => rlex_any s wx HLL.out)
  obtain ⟨o, ho⟩ : ∃ o, lxo s = o := ⟨_, rfl⟩
  rw [ho] at HLX
  have HRX := Lib.hid (fun (wx : World) => show Calls Tryd.prog 13 #[.string (bs s)] wx (LexP o wx) from ho ▸ HRX.out wx)
  clear ho
  obtain ⟨ts, k, er⟩ := o
  unfold LexP at HLX HRX
  simp only at HLX HRX
  go_wp2_with fail
  refine HLX.out.mono ?_
  rintro e w1 ⟨A1, c1, rfl, hT1, hb1⟩
  have HT1 := Lib.hid hT1
  have HB := Lib.hid (HB.out.trans (hb1.mono HB.out.size))
  have HR := Lib.hid (HRX.out w1)
  clear hT1 hb1 HLX HRX
  go_wp2_with fail
  refine HR.out.mono ?_
  rintro e w2 ⟨A2, c2, rfl, hT2, hb2⟩
  have HB := Lib.hid (HB.out.trans (hb2.mono HB.out.size))
  have HEQ := Lib.hid (requal_any ts ts A1 A2 c1 c2 w2 (HT1.out.up hb2) hT2)
  rw [eqt_refl] at HEQ
  unfold BoolPost at HEQ
  clear hT2 hb2 HR HT1
  go_wp2_with fail
  refine HEQ.out.mono ?_
  rintro e w3 ⟨rfl, hb3⟩
  have HB := Lib.hid (HB.out.trans (hb3.mono HB.out.size))
  clear hb3 HEQ
  go_wp2_with fail
  go_ret
  exact ⟨rfl, HB.out⟩
end Go.Proofs.YtojlibeecpmbnaaDoor
