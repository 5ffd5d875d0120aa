/- What the scanner does at a digit and at a slash. -/
import Derived.Test.YticepaljociefaaDoorTk
namespace Go.Proofs.YticepaljociefaaDoor
open Go.RowKit Go.Shelf
set_option linter.unusedVariables false

theorem digits_ok (l : List UInt8) : (l.takeWhile isD).all isD = true := List.all_takeWhile
set_option maxHeartbeats 1000000 in
set_option maxRecDepth 100000 in
theorem takeNumber_any (sb lo : Nat) (src : List UInt8) (i : Nat) (v : Value) (out : List Tk) (w : World) (hS : SC w sb lo src i v out) (hK : KT w) (hi : i < src.length) (hl : src.length ≤ 1000000) (ho : out.length ≤ i) (hd : 0 < ((src.drop i).takeWhile isD).length) :
    Calls Tryd.prog 44 #[.pointer (some ⟨sb, 0, none⟩)] w (StP (stc 3 (src.drop i)) sb lo src i out w) := by
  have HL := Lib.hid (left_any sb lo src i v out w hS (by omega) hl)
  obtain ⟨R, hR⟩ : ∃ R, src.drop i = R := ⟨_, rfl⟩
  have hRl : i + R.length ≤ 1000000 := by rw [← hR, List.length_drop]; omega
  rw [hR] at hd
  have hall := digits_ok R
  obtain ⟨tw, htw⟩ : ∃ tw, R.takeWhile isD = tw := ⟨_, rfl⟩
  have htl : tw.length ≤ R.length := by rw [← htw]; exact tw_len R
  rw [htw] at hall hd
  have HBG := Lib.hid (fun V (hb : Below w.heap.size w V) => beginning_of 55 isD R V (by omega) (fun b => isDigit_any b V (hK.below hb)) (enters_of Tryd.func55 (by kernel_rfl) rfl))
  have HNM := Lib.hid (fun V => number_any tw V (by omega) hd hall)
  have HT := Lib.hid (fun (x : Nat) V (hb : Below w.heap.size w V) => take_any sb lo src i tw.length v out 2 (x : Int) 0 [] V (hS.below hb) (by omega) (by omega))
  have HRF := Lib.hid (fun V (hb : Below w.heap.size w V) => refuse_any sb lo src i v out V (hS.below hb))
  have HSZ := Lib.hid hS.size
  have hlen : ∀ wx, (Builtin.len_ #[9] 3 #[.string (bs tw)]).run Tryd.prog wx = .ok (.int .i64 (tw.length : Int)) wx := fun wx => by rw [bs_len tw _ _ Tryd.underlying9]
  rw [hR] at HL ⊢
  rw [stc3]
  rw [htw] at HBG ⊢
  unfold LStr at HL
  unfold QStr at HBG
  unfold QNum at HNM
  unfold TakeP at HT
  unfold BadP at HRF
  have hbe : bs [] = ⟨#[]⟩ := rfl
  rw [hbe] at HT
  obtain ⟨L, hL⟩ : ∃ L, tw.length = L := ⟨_, rfl⟩
  rw [hL] at HT hlen ⊢
  clear hS hR hRl htl hK htw hL hall hd hbe
  cases hn : num tw with
  | some x =>
    rw [hn] at HNM
    show Calls Tryd.prog 44 #[.pointer (some ⟨sb, 0, none⟩)] w (TakeP sb lo src (i + L) (out ++ [⟨2, [], x, i⟩]) w)
    unfold TakeP
    simp only [Option.getD_some, Option.isSome_some] at HNM
    have HT := Lib.hid (HT.out x)
    clear hn HRF
    go_enter Tryd.func44, Tryd.ntmps44
    go_wp2_with fail
    refine HL.out.mono ?_
    rintro e w1 ⟨rfl, hb⟩
    have HB := Lib.hid hb
    clear hb HL
    go_wp2_with fail
    refine (HBG.out w1 HB.out).mono ?_
    rintro e w1 ⟨rfl, rfl⟩
    go_wp2_with fail
    refine (HNM.out w1).mono ?_
    rintro e w1 ⟨rfl, rfl⟩
    go_wp2_with fail
    refine (HT.out w1 HB.out).mono ?_
    rintro e w2 ⟨rfl, hs2, hf2⟩
    have HF := Lib.hid (And.intro hs2 ((Fr.of_below (HB.out.mono HSZ.out)).trans hf2))
    clear hs2 hf2
    go_wp2_with fail
    refine bodyPost_end (results_none Tryd.results44 _ _ _) rfl ?_
    exact ⟨rfl, HF.out.1, HF.out.2⟩
  | none =>
    rw [hn] at HNM
    show Calls Tryd.prog 44 #[.pointer (some ⟨sb, 0, none⟩)] w (BadP sb lo i w)
    unfold BadP
    simp only [Option.getD_none, Option.isSome_none] at HNM
    clear hn HT
    go_enter Tryd.func44, Tryd.ntmps44
    go_wp2_with fail
    refine HL.out.mono ?_
    rintro e w1 ⟨rfl, hb⟩
    have HB := Lib.hid hb
    clear hb HL
    go_wp2_with fail
    refine (HBG.out w1 HB.out).mono ?_
    rintro e w1 ⟨rfl, rfl⟩
    go_wp2_with fail
    refine (HNM.out w1).mono ?_
    rintro e w1 ⟨rfl, rfl⟩
    go_wp2_with fail
    refine (HRF.out w1 HB.out).mono ?_
    rintro e w2 ⟨rfl, hf2⟩
    have HF := Lib.hid ((Fr.of_below (HB.out.mono HSZ.out)).trans hf2)
    clear hf2
    go_wp2_with fail
    exact ⟨rfl, rfl, HF.out⟩

attribute [local go_sem] bs_toList bs_e
set_option maxRecDepth 100000 in
theorem liteHas_any (l : List UInt8) (w : World) (hl : l.length ≤ 1000000) : Calls Tryd.prog 62 #[.string (bs l), .string (bs [47, 47])] w (QBool (l.take 2 == [47, 47]) w) := by
  unfold QBool
  have hlen : ∀ wx, (Builtin.len_ #[9] 3 #[.string (bs l)]).run Tryd.prog wx = .ok (.int .i64 (l.length : Int)) wx := fun wx => bs_len l _ _ Tryd.underlying9 wx
  have hlen2 : ∀ wx, (Builtin.len_ #[9] 3 #[.string (bs [47, 47])]).run Tryd.prog wx = .ok (.int .i64 2) wx := fun wx => bs_len _ _ _ Tryd.underlying9 wx
  obtain ⟨L, hL⟩ : ∃ L, l.length = L := ⟨_, rfl⟩
  rw [hL] at hlen
  by_cases h : 2 ≤ L
  · have hcut : ∀ wx, (Instr.slice 9 (.string (bs l)) none (some (.int .i64 2)) none).run Tryd.prog wx = .ok (.string (bs (l.take 2))) wx := fun wx => bs_upto (i := 2) (by omega) _ Tryd.underlying9 wx
    obtain ⟨p, hp⟩ : ∃ p, l.take 2 = p := ⟨_, rfl⟩
    obtain ⟨q, hq⟩ : ∃ q, (p == [47, 47]) = q := ⟨_, rfl⟩
    rw [hp] at hcut ⊢
    rw [hq]
    have hd : decide ((2 : Int) ≤ (L : Int)) = true := decide_eq_true (by omega)
    have hd2 : (2 : Int) ≤ (L : Int) := by omega
    obtain ⟨s2, hs2⟩ : ∃ s, bs [47, 47] = s := ⟨_, rfl⟩
    have ht2 : s2.toList = [47, 47] := by rw [← hs2]; exact bs_toList _
    rw [hs2] at hlen2 ⊢
    clear hp hL hs2
    go_enter Tryd.func62, Tryd.ntmps62
    go_wp2_with fail
    go_ret
    exact ⟨rfl, rfl⟩
  · have hd : decide ((2 : Int) ≤ (L : Int)) = false := decide_eq_false (by omega)
    have hd2 : ¬ (2 : Int) ≤ (L : Int) := by omega
    have hq : (l.take 2 == [47, 47]) = false := by
      rw [beq_eq_false_iff_ne]
      intro e
      have := congrArg List.length e
      rw [List.length_take] at this
      simp at this
      omega
    rw [hq]
    obtain ⟨s2, hs2⟩ : ∃ s, bs [47, 47] = s := ⟨_, rfl⟩
    rw [hs2] at hlen2 ⊢
    clear hL hs2 hq
    go_enter Tryd.func62, Tryd.ntmps62
    go_wp2_with fail
    go_ret
    exact ⟨rfl, rfl⟩
theorem has_any (l : List UInt8) (w : World) (hl : l.length ≤ 1000000) : Calls Tryd.prog 57 #[.string (bs l), .string (bs [47, 47])] w (QBool (l.take 2 == [47, 47]) w) := by
  have HC := Lib.hid (liteHas_any l w hl)
  obtain ⟨q, hq⟩ : ∃ q, (l.take 2 == [47, 47]) = q := ⟨_, rfl⟩
  obtain ⟨s2, hs2⟩ : ∃ s, bs [47, 47] = s := ⟨_, rfl⟩
  rw [hq, hs2] at HC
  rw [hq, hs2]
  unfold QBool at HC ⊢
  clear hq hs2
  go_enter Tryd.func57, Tryd.ntmps57
  go_wp2_with fail
  refine HC.out.mono ?_
  rintro e w1 ⟨rfl, rfl⟩
  go_wp2_with fail
  go_ret
  exact ⟨rfl, rfl⟩

set_option maxHeartbeats 1000000 in
set_option maxRecDepth 100000 in
theorem slash_any (sb lo : Nat) (src : List UInt8) (i : Nat) (v : Value) (out : List Tk) (w : World) (hS : SC w sb lo src i v out) (hi : i < src.length) (hl : src.length ≤ 1000000) (ho : out.length ≤ i) :
    Calls Tryd.prog 46 #[.pointer (some ⟨sb, 0, none⟩)] w (StP (stc 6 (src.drop i)) sb lo src i out w) := by
  have HL := Lib.hid (fun V (hb : Below w.heap.size w V) => left_any sb lo src i v out V (hS.below hb) (by omega) hl)
  have HSG := Lib.hid (fun V (hb : Below w.heap.size w V) => takeSign_any sb lo src i v out V (hS.below hb) hi hl ho)
  obtain ⟨R, hR⟩ : ∃ R, src.drop i = R := ⟨_, rfl⟩
  have hRl : i + R.length ≤ 1000000 := by rw [← hR, List.length_drop]; omega
  have HPX := Lib.hid (fun V => has_any R V (by omega))
  have hbe : bs [47, 47] = ⟨#[47, 47]⟩ := rfl
  rw [hbe] at HPX
  rw [hR] at HL HSG ⊢
  rw [stc6]
  unfold LStr at HL
  unfold QBool at HPX
  unfold TakeP at HSG
  have HSZ := Lib.hid hS.size
  have HS := Lib.hid hS
  clear hR hS hbe
  by_cases hp : R.take 2 = [47, 47]
  · rw [if_pos hp]
    have hq : (R.take 2 == [47, 47]) = true := by rw [hp]; rfl
    rw [hq] at HPX
    obtain ⟨tw, htw⟩ : ∃ tw, R.takeWhile noLf = tw := ⟨_, rfl⟩
    have htl : tw.length ≤ R.length := by rw [← htw]; exact tw_len R
    have HBG := Lib.hid (fun V => beginning_of 58 noLf R V (by omega) (fun b => continuesLine_any b V) (enters_of Tryd.func58 (by kernel_rfl) rfl))
    have hlen : ∀ wx, (Builtin.len_ #[9] 3 #[.string (bs tw)]).run Tryd.prog wx = .ok (.int .i64 (tw.length : Int)) wx := fun wx => by rw [bs_len tw _ _ Tryd.underlying9]
    rw [htw] at HBG ⊢
    show Calls Tryd.prog 46 #[.pointer (some ⟨sb, 0, none⟩)] w (TakeP sb lo src (i + tw.length) out w)
    unfold TakeP
    unfold QStr at HBG
    obtain ⟨L, hL⟩ : ∃ L, tw.length = L := ⟨_, rfl⟩
    rw [hL] at hlen htl ⊢
    obtain ⟨j, hj⟩ : ∃ j, i + L = j := ⟨_, rfl⟩
    have him : (i : Int) + (L : Int) = (j : Int) := by omega
    have hj6 : j ≤ 1000000 := by omega
    have hwj : IntKind.i64.wrap (j : Int) = (j : Int) := by rw [IntKind.wrap_i64]; omega
    rw [hj]
    clear hp hq htw hL hj HSG
    go_enter Tryd.func46, Tryd.ntmps46
    go_wp2_with fail
    refine (HL.out w (Below.refl _ _)).mono ?_
    rintro e w1 ⟨rfl, hb⟩
    have HB := Lib.hid hb
    clear hb
    go_wp2_with fail
    refine (HPX.out w1).mono ?_
    rintro e w1 ⟨rfl, rfl⟩
    go_wp2_with fail
    have HD := Lib.hid (fun V (hb : Below w.heap.size w V) => show (fun w' => w'.cell? ⟨sb, 1, none⟩ = some (.int .i64 (i : Int))) V from (HS.out.below hb).box.cell 1)
    have HBW := Lib.hid (show Below w.heap.size w w1.drew from HB.out.drew)
    have HDW := Lib.hid (HD.out _ HBW.out)
    refine wp_region_later 11 (fun w' => w'.cell? ⟨sb, 1, none⟩ = some (.int .i64 (i : Int))) (by kernel_rfl) ?_
    refine takeL (d := some 5) (i := 0) (v := ?v0) rfl rfl (by kernel_rfl) (by kernel_rfl) (by kernel_rfl) (fun _ _ _ h => h) rfl (by kernel_rfl) (Or.inl ⟨by rfl, ?y0⟩) HDW.out ?r0
    case y0 =>
      intro w hSw
      try dsimp only at hSw
      go_simp
      all_goals with_reducible rfl
    try simp only [Act.put, List.setIfInBounds_toArray, List.set_cons_zero, List.set_cons_succ]
    refine takeL (d := some 6) (i := 1) (v := ?v1) rfl rfl (by kernel_rfl) (by kernel_rfl) (by kernel_rfl) (fun _ _ _ h => h) rfl (by kernel_rfl) (Or.inl ⟨by rfl, ?y1⟩) HDW.out ?r1
    case y1 =>
      intro w hSw
      try dsimp only at hSw
      go_simp
      all_goals with_reducible rfl
    try simp only [Act.put, List.setIfInBounds_toArray, List.set_cons_zero, List.set_cons_succ]
    refine takeL (d := some 7) (i := 2) (v := ?v2) rfl rfl (by kernel_rfl) (by kernel_rfl) (by kernel_rfl) (fun _ _ _ h => h) rfl (by kernel_rfl) (Or.inl ⟨by rfl, ?y2⟩) HDW.out ?r2
    case y2 =>
      intro w hSw
      try dsimp only at hSw
      go_simp
      all_goals with_reducible rfl
    try simp only [Act.put, List.setIfInBounds_toArray, List.set_cons_zero, List.set_cons_succ]
    refine takeL (d := some 8) (i := 3) (v := ?v3) rfl rfl (by kernel_rfl) (by kernel_rfl) (by kernel_rfl) (fun _ _ _ h => h) rfl (by kernel_rfl) (Or.inl ⟨by rfl, ?y3⟩) HDW.out ?r3
    case y3 =>
      intro w hSw
      try dsimp only at hSw
      go_simp
      all_goals with_reducible rfl
    try simp only [Act.put, List.setIfInBounds_toArray, List.set_cons_zero, List.set_cons_succ]
    refine takeL (d := some 9) (i := 4) (v := ?v4) rfl rfl (by kernel_rfl) (by kernel_rfl) (by kernel_rfl) (fun _ _ _ h => h) rfl (by kernel_rfl) (Or.inl ⟨by rfl, ?y4⟩) HDW.out ?r4
    case y4 =>
      intro w hSw
      try dsimp only at hSw
      go_simp
      all_goals with_reducible rfl
    try simp only [Act.put, List.setIfInBounds_toArray, List.set_cons_zero, List.set_cons_succ]
    refine oneL (i := 5) (by kernel_rfl) rfl (fun K' hK => ?_)
    go_simp
    refine (HL.out _ HBW.out).mono ?_
    rintro e w2 ⟨rfl, hb⟩
    have HB2 := Lib.hid (HBW.out.trans (hb.mono HBW.out.size))
    clear hb
    go_simp
    refine hK.out _ _ (fun _ => HD.out _ HB2.out) ?_
    clear hK
    refine oneL (i := 6) (by kernel_rfl) rfl (fun K' hK => ?_)
    go_simp
    refine (HBG.out w2).mono ?_
    rintro e w2 ⟨rfl, rfl⟩
    go_simp
    refine hK.out _ _ (fun _ => HD.out _ HB2.out) ?_
    clear hK
    refine oneL (i := 7) (by kernel_rfl) rfl (fun K' hK => ?_)
    go_simp
    refine hK.out _ _ (fun _ => HD.out _ HB2.out) ?_
    clear hK
    refine oneL (i := 8) (by kernel_rfl) rfl (fun K' hK => ?_)
    go_simp
    refine hK.out _ _ (fun _ => HD.out _ HB2.out) ?_
    clear hK
    refine oneL (i := 9) (by kernel_rfl) rfl (fun K' hK => ?_)
    go_simp
    refine hK.out _ _ (fun _ => HD.out _ HB2.out) ?_
    clear hK
    refine oneL (i := 10) (by kernel_rfl) rfl (fun K' hK => ?_)
    go_simp
    refine hK.out _ _ (fun _ => HD.out _ HB2.out) ?_
    clear hK
    have HX2 := Lib.hid (HS.out.below HB2.out)
    have z1 := HX2.out.box.cell 1
    have f1 := HX2.out.box.frozen 1
    have HSC := Lib.hid (HX2.out.at_ j)
    refine oneL (i := 11) (by kernel_rfl) rfl (fun K' hK => ?_)
    go_simp
    refine hK.out _ _ (fun e => by simp at e) ?_
    clear hK
    refine doneL (by kernel_rfl) ?_ _
    clear z1 f1
    go_wp2_with fail
    refine bodyPost_ret (results_none Tryd.results46 _ _ _) rfl ?_
    exact ⟨rfl, ⟨_, HSC.out⟩, (Fr.of_below (HB2.out.mono HSZ.out)).trans (Fr.set _ _ _)⟩
  · rw [if_neg hp]
    have hq : (R.take 2 == [47, 47]) = false := by simpa using hp
    rw [hq] at HPX
    show Calls Tryd.prog 46 #[.pointer (some ⟨sb, 0, none⟩)] w (TakeP sb lo src (i + 1) (out ++ [⟨3, R.take 1, 0, i⟩]) w)
    unfold TakeP
    clear hp hq
    go_enter Tryd.func46, Tryd.ntmps46
    go_wp2_with fail
    refine (HL.out w (Below.refl _ _)).mono ?_
    rintro e w1 ⟨rfl, hb⟩
    have HB := Lib.hid hb
    clear hb
    go_wp2_with fail
    refine (HPX.out w1).mono ?_
    rintro e w1 ⟨rfl, rfl⟩
    go_wp2_with fail
    refine (HSG.out w1 HB.out).mono ?_
    rintro e w2 ⟨rfl, hs2, hf2⟩
    have HF := Lib.hid (And.intro hs2 ((Fr.of_below (HB.out.mono HSZ.out)).trans hf2))
    clear hs2 hf2
    go_wp2_with fail
    refine bodyPost_end (results_none Tryd.results46 _ _ _) rfl ?_
    exact ⟨rfl, HF.out.1, HF.out.2⟩
end Go.Proofs.YticepaljociefaaDoor
