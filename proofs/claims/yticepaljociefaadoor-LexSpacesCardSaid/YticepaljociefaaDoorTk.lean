/- What the scanner does at a byte of each class. -/
import Derived.Test.YticepaljociefaaDoorSc
namespace Go.Proofs.YticepaljociefaaDoor
open Go.RowKit Go.Shelf
set_option linter.unusedVariables false

/-- The panic at a place. -/
def BadP (sb lo i : Nat) (w : World) (e : Ending) (w' : World) : Prop := e = .panicked [{ v := .iface 42 (.int .i64 (i : Int)), recovered := false }] ∧ Fr sb lo w w'
/-- What a step leaves. -/
def StP (s : St) (sb lo : Nat) (src : List UInt8) (i : Nat) (out : List Tk) (w : World) (e : Ending) (w' : World) : Prop :=
  match s with
  | .bad => BadP sb lo i w e w'
  | .skip m => TakeP sb lo src (i + m) out w e w'
  | .tok k t n m => TakeP sb lo src (i + m) (out ++ [⟨k, t, n, i⟩]) w e w'

theorem refuse_any (sb lo : Nat) (src : List UInt8) (i : Nat) (v : Value) (out : List Tk) (w : World) (hS : SC w sb lo src i v out) :
    Calls Tryd.prog 41 #[.pointer (some ⟨sb, 0, none⟩)] w (BadP sb lo i w) := by
  unfold BadP
  have c1 : w.cell? ⟨sb, 1, none⟩ = some (.int .i64 (i : Int)) := hS.box.cell 1
  clear hS
  go_enter Tryd.func41, Tryd.ntmps41
  go_wp2_with fail
  exact ⟨rfl, rfl, Fr.refl _ _ _⟩

theorem passBlank_any (sb lo : Nat) (src : List UInt8) (i : Nat) (v : Value) (out : List Tk) (w : World) (hS : SC w sb lo src i v out) (hi : i ≤ 1000000) :
    Calls Tryd.prog 42 #[.pointer (some ⟨sb, 0, none⟩)] w (TakeP sb lo src (i + 1) out w) := by
  unfold TakeP
  have c1 : w.cell? ⟨sb, 1, none⟩ = some (.int .i64 (i : Int)) := hS.box.cell 1
  have f1 := hS.box.frozen 1
  obtain ⟨j, hj⟩ : ∃ j, i + 1 = j := ⟨_, rfl⟩
  have him : (i : Int) + 1 = (j : Int) := by omega
  have HS := Lib.hid (hS.at_ j)
  rw [hj]
  clear hS hj
  go_enter Tryd.func42, Tryd.ntmps42
  go_wp2_with fail
  refine bodyPost_end (results_none Tryd.results42 _ _ _) rfl ?_
  exact ⟨rfl, ⟨_, HS.out⟩, Fr.set _ _ _⟩

set_option maxHeartbeats 1000000 in
set_option maxRecDepth 100000 in
theorem takeSign_any (sb lo : Nat) (src : List UInt8) (i : Nat) (v : Value) (out : List Tk) (w : World) (hS : SC w sb lo src i v out) (hi : i < src.length) (hl : src.length ≤ 1000000) (ho : out.length ≤ i) :
    Calls Tryd.prog 45 #[.pointer (some ⟨sb, 0, none⟩)] w (TakeP sb lo src (i + 1) (out ++ [⟨3, (src.drop i).take 1, 0, i⟩]) w) := by
  have HL := Lib.hid (left_any sb lo src i v out w hS (by omega) hl)
  obtain ⟨R, hR⟩ : ∃ R, src.drop i = R := ⟨_, rfl⟩
  have hRl : 1 ≤ R.length := by rw [← hR, List.length_drop]; omega
  have hcut : ∀ wx, (Instr.slice 9 (.string (bs R)) none (some (.int .i64 1)) none).run Tryd.prog wx = .ok (.string (bs (R.take 1))) wx := fun wx => bs_upto (i := 1) hRl _ Tryd.underlying9 wx
  have HT := Lib.hid (fun V (hb : Below w.heap.size w V) => take_any sb lo src i 1 v out 3 0 0 (R.take 1) V (hS.below hb) (by omega) (by omega))
  have HSZ := Lib.hid hS.size
  rw [hR] at HL ⊢
  unfold LStr at HL
  unfold TakeP at HT ⊢
  clear hS hR hRl
  go_enter Tryd.func45, Tryd.ntmps45
  go_wp2_with fail
  refine HL.out.mono ?_
  rintro e w1 ⟨rfl, hb⟩
  have HB := Lib.hid hb
  clear hb HL
  go_wp2_with fail
  refine (HT.out w1 HB.out).mono ?_
  rintro e w2 ⟨rfl, hs2, hf2⟩
  have HF := Lib.hid (And.intro hs2 ((Fr.of_below (HB.out.mono HSZ.out)).trans hf2))
  clear hs2 hf2
  go_wp2_with fail
  refine bodyPost_end (results_none Tryd.results45 _ _ _) rfl ?_
  exact ⟨rfl, HF.out.1, HF.out.2⟩

set_option maxHeartbeats 1000000 in
set_option maxRecDepth 100000 in
theorem takeName_any (sb lo : Nat) (src : List UInt8) (i : Nat) (v : Value) (out : List Tk) (w : World) (hS : SC w sb lo src i v out) (hK : KT w) (hi : i < src.length) (hl : src.length ≤ 1000000) (ho : out.length ≤ i) :
    Calls Tryd.prog 43 #[.pointer (some ⟨sb, 0, none⟩)] w (StP (stc 2 (src.drop i)) sb lo src i out w) := by
  have HL := Lib.hid (left_any sb lo src i v out w hS (by omega) hl)
  obtain ⟨R, hR⟩ : ∃ R, src.drop i = R := ⟨_, rfl⟩
  have hRl : i + R.length ≤ 1000000 := by rw [← hR, List.length_drop]; omega
  obtain ⟨tw, htw⟩ : ∃ tw, R.takeWhile isP = tw := ⟨_, rfl⟩
  have htl : tw.length ≤ R.length := by rw [← htw]; exact tw_len R
  have HBG := Lib.hid (fun V (hb : Below w.heap.size w V) => beginning_of 40 isP R V (by omega) (fun b => continuesName_any b V (hK.below hb)) (enters_of Tryd.func40 (by kernel_rfl) rfl))
  have HNM := Lib.hid (fun V (hb : Below w.heap.size w V) => name_any tw V (hK.below hb) (by omega))
  have HT := Lib.hid (fun V (hb : Below w.heap.size w V) => take_any sb lo src i tw.length v out 1 0 0 tw V (hS.below hb) (by omega) (by omega))
  have HRF := Lib.hid (fun V (hb : Below w.heap.size w V) => refuse_any sb lo src i v out V (hS.below hb))
  have HSZ := Lib.hid hS.size
  have hlen : ∀ wx, (Builtin.len_ #[9] 3 #[.string (bs tw)]).run Tryd.prog wx = .ok (.int .i64 (tw.length : Int)) wx := fun wx => by rw [bs_len tw _ _ Tryd.underlying9]
  rw [hR] at HL ⊢
  rw [stc2]
  rw [htw] at HBG ⊢
  unfold LStr at HL
  unfold QStr at HBG
  unfold QBool at HNM
  unfold TakeP at HT
  unfold BadP at HRF
  obtain ⟨L, hL⟩ : ∃ L, tw.length = L := ⟨_, rfl⟩
  rw [hL] at HT hlen ⊢
  clear hS hR hRl htl hK htw hL
  cases hn : nm tw with
  | true =>
    rw [hn] at HNM
    rw [if_pos rfl]
    show Calls Tryd.prog 43 #[.pointer (some ⟨sb, 0, none⟩)] w (TakeP sb lo src (i + L) (out ++ [⟨1, tw, 0, i⟩]) w)
    unfold TakeP
    clear hn HRF
    go_enter Tryd.func43, Tryd.ntmps43
    go_wp2_with fail
    refine HL.out.mono ?_
    rintro e w1 ⟨rfl, hb⟩
    have HB := Lib.hid hb
    clear hb HL
    go_wp2_with fail
    refine (HBG.out w1 HB.out).mono ?_
    rintro e w1 ⟨rfl, rfl⟩
    go_wp2_with fail
    refine (HNM.out w1 HB.out).mono ?_
    rintro e w1 ⟨rfl, rfl⟩
    go_wp2_with fail
    refine (HT.out w1 HB.out).mono ?_
    rintro e w2 ⟨rfl, hs2, hf2⟩
    have HF := Lib.hid (And.intro hs2 ((Fr.of_below (HB.out.mono HSZ.out)).trans hf2))
    clear hs2 hf2
    go_wp2_with fail
    refine bodyPost_end (results_none Tryd.results43 _ _ _) rfl ?_
    exact ⟨rfl, HF.out.1, HF.out.2⟩
  | false =>
    rw [hn] at HNM
    rw [if_neg (by simp)]
    show Calls Tryd.prog 43 #[.pointer (some ⟨sb, 0, none⟩)] w (BadP sb lo i w)
    unfold BadP
    clear hn HT
    go_enter Tryd.func43, Tryd.ntmps43
    go_wp2_with fail
    refine HL.out.mono ?_
    rintro e w1 ⟨rfl, hb⟩
    have HB := Lib.hid hb
    clear hb HL
    go_wp2_with fail
    refine (HBG.out w1 HB.out).mono ?_
    rintro e w1 ⟨rfl, rfl⟩
    go_wp2_with fail
    refine (HNM.out w1 HB.out).mono ?_
    rintro e w1 ⟨rfl, rfl⟩
    go_wp2_with fail
    refine (HRF.out w1 HB.out).mono ?_
    rintro e w2 ⟨rfl, hf2⟩
    have HF := Lib.hid ((Fr.of_below (HB.out.mono HSZ.out)).trans hf2)
    clear hf2
    go_wp2_with fail
    exact ⟨rfl, rfl, HF.out⟩
end Go.Proofs.YticepaljociefaaDoor
