/- Check, Has. -/
import Derived.Test.YtnmlfdmlcpgaaaaRowS
import Derived.LoopTactic
import Derived.Deep.QuietTactic
import Derived.BigQuiet
namespace Go.Proofs.Ytnmlfdmlcpgaaaa
open Go.RowKit
set_option linter.unusedVariables false

/-- A span is in order. -/
def okS (s : Int × Int) : Bool := decide (0 ≤ s.1) && decide (s.1 < s.2) && decide (s.2 ≤ 1024)
def chk (l : List (Int × Int)) : Int := if l.all okS then 0 else 30

set_option maxHeartbeats 1000000 in
set_option maxRecDepth 100000 in
theorem check_any (A : Option Addr) (c : Nat) (l : List (Int × Int)) (w : World) (hS : Sl w A l c) (hl : l.length ≤ 1000000) :
    Calls Try.prog 9 #[.slice A l.length c] w fun e w' => e = .returned (.int .i64 (chk l)) ∧ Below w.heap.size w w' := by
  have HS := Lib.hid hS
  clear hS
  go_enter Try.func9, Try.ntmps9
  go_wp2_with fail
  go_loopw [7] (fun i wr => ∃ k : Nat, k ≤ l.length ∧ i = .int .i64 k ∧ (l.take k).all okS = true ∧ Below w.heap.size w wr) (fun i _ => l.length - (intOf i).toNat)
  case atStart => exact ⟨0, Nat.zero_le _, rfl, rfl, Below.refl _ _⟩
  case round =>
    obtain ⟨k, hk, rfl, hok, hbw⟩ := hrel
    have HOK := Lib.hid hok
    clear hok
    by_cases hlt : k < l.length
    · obtain ⟨b, off, rfl, hbl, hc⟩ := HS.out.1 (by omega)
      obtain ⟨sp, hsp⟩ : ∃ sp, l[k]? = some sp := ⟨_, List.getElem?_eq_getElem hlt⟩
      obtain ⟨h1, h2⟩ := hc k sp hsp
      have c1 := (hbw.cell (p := ⟨b, off + k * 2, none⟩) hbl).trans h1
      have c2 := (hbw.cell (p := ⟨b, off + k * 2 + 1, none⟩) hbl).trans h2
      have hW0 : Below w.heap.size w (wr.alloc (.cells #[.int .i64 sp.1, .int .i64 sp.2] 31)) := hbw.alloc hbw.size _
      have htk : l.take (k + 1) = l.take k ++ [sp] := by
        rw [List.take_succ_eq_append_getElem hlt]
        congr 2
        have := List.getElem?_eq_getElem hlt
        rw [hsp] at this
        exact (Option.some.inj this).symm
      have hmem : sp ∈ l := List.mem_of_getElem? hsp
      have HTK := Lib.hid (And.intro htk (And.intro hmem hW0))
      clear hc h1 h2 hsp htk hmem hW0
      have hbad : okS sp = false → chk l = 30 := by
        intro h
        unfold chk
        rw [if_neg]
        intro ha
        have := List.all_eq_true.1 ha sp HTK.out.2.1
        rw [h] at this
        cases this
      have HBAD := Lib.hid hbad
      clear hbad
      by_cases a1 : sp.1 < 0
      · have hb0 : okS sp = false := by unfold okS; rw [decide_eq_false (by omega)]; rfl
        have HC := Lib.hid (HBAD.out hb0)
        clear hb0
        go_wp2_with fail
        go_ret
        exact ⟨by rw [HC.out]; rfl, HTK.out.2.2⟩
      · have d1 : decide (sp.1 < 0) = false := decide_eq_false a1
        by_cases a2 : sp.2 ≤ sp.1
        · have hb0 : okS sp = false := by unfold okS; rw [decide_eq_false (p := sp.1 < sp.2) (by omega)]; simp
          have HC := Lib.hid (HBAD.out hb0)
          clear hb0
          go_wp2_with fail
          go_ret
          exact ⟨by rw [HC.out]; rfl, HTK.out.2.2⟩
        · have d2 : decide (sp.2 ≤ sp.1) = false := decide_eq_false a2
          by_cases a3 : 1024 < sp.2
          · have hb0 : okS sp = false := by unfold okS; rw [decide_eq_false (p := sp.2 ≤ 1024) (by omega)]; simp
            have HC := Lib.hid (HBAD.out hb0)
            clear hb0
            go_wp2_with fail
            go_ret
            exact ⟨by rw [HC.out]; rfl, HTK.out.2.2⟩
          · have d3 : decide (1024 < sp.2) = false := decide_eq_false a3
            have hgood : okS sp = true := by unfold okS; simp; omega
            have HG := Lib.hid hgood
            clear hgood HBAD
            go_wp2_with fail
            go_roundw
            case rel => exact ⟨k + 1, by omega, by go_num, by rw [HTK.out.1, List.all_append, HOK.out]; simp [HG.out], HTK.out.2.2⟩
            case measure => simp [intOf]; omega
    · obtain rfl : k = l.length := by omega
      go_wp2_with fail
      go_ret
      refine ⟨?_, hbw⟩
      have := HOK.out
      rw [List.take_length] at this
      unfold chk
      rw [if_pos this]
      rfl

/-- A span has the day. -/
def dayIn (day : Int) (s : Int × Int) : Bool := decide (s.1 ≤ day) && decide (day < s.2)
def hasD (l : List (Int × Int)) (day : Int) : Bool := decide (0 ≤ day) && decide (day < 1024) && l.any (dayIn day)
theorem hasD_nat (l : List (Int × Int)) (k : Nat) (h : k < 1024) : hasD l k = hasB l k := by
  unfold hasD hasB
  rw [decide_eq_true (by omega), decide_eq_true (by omega)]
  rfl

set_option maxHeartbeats 1000000 in
set_option maxRecDepth 100000 in
theorem has1_any (day : Int) (s : Int × Int) (b : Nat) (w : World) (hx : Box w b #[.int .i64 day] 3) :
    Calls Try.prog 34 #[.agg #[.int .i64 s.1, .int .i64 s.2], .pointer (some ⟨b, 0, none⟩)] w fun e w' => e = .returned (.bool (dayIn day s)) ∧ Below w.heap.size w w' := by
  have hb := (Below.refl w.heap.size w).alloc (Nat.le_refl _) (.cells #[.int .i64 s.1, .int .i64 s.2] 31)
  have c0 := (hx.alloc (.cells #[.int .i64 s.1, .int .i64 s.2] 31)).cell 0
  simp only [List.getElem?_toArray, List.getElem?_cons_zero] at c0
  have HB := Lib.hid hb
  clear hb hx
  obtain ⟨a, z⟩ := s
  dsimp only at *
  by_cases h1 : a ≤ day
  · by_cases h2 : day < z
    · have hr : dayIn day (a, z) = true := by unfold dayIn; simp [h1, h2]
      have HR := Lib.hid hr
      clear hr
      go_enter Try.func34, Try.ntmps34
      go_wp2_with fail
      go_ret
      exact ⟨by rw [HR.out]; rfl, HB.out⟩
    · have hr : dayIn day (a, z) = false := by unfold dayIn; simp [h2]
      have d2 : decide (day < z) = false := decide_eq_false h2
      have HR := Lib.hid hr
      clear hr
      go_enter Try.func34, Try.ntmps34
      go_wp2_with fail
      go_ret
      exact ⟨by rw [HR.out]; rfl, HB.out⟩
  · have hr : dayIn day (a, z) = false := by unfold dayIn; simp [h1]
    have d1 : decide (a ≤ day) = false := decide_eq_false h1
    have HR := Lib.hid hr
    clear hr
    go_enter Try.func34, Try.ntmps34
    go_wp2_with fail
    go_ret
    exact ⟨by rw [HR.out]; rfl, HB.out⟩

/-- What IndexFunc leaves: an index where one is, or -1. -/
def IdxPost (any : Bool) (w : World) (e : Ending) (w' : World) : Prop := ∃ i : Int, e = .returned (.int .i64 i) ∧ -1 ≤ i ∧ i ≤ 1000000 ∧ (0 ≤ i ↔ any = true) ∧ Below w.heap.size w w'

set_option maxHeartbeats 1000000 in
set_option maxRecDepth 100000 in
theorem indexFunc_any (day : Int) (A : Option Addr) (c : Nat) (l : List (Int × Int)) (b0 : Nat) (w : World) (hS : Sl w A l c) (hx : Box w b0 #[.int .i64 day] 3) (hl : l.length ≤ 1000000) :
    Calls Try.prog 37 #[.slice A l.length c, .func (.func 34) #[] #[.pointer (some ⟨b0, 0, none⟩)]] w (IdxPost (l.any (dayIn day)) w) := by
  have HS := Lib.hid hS
  have HX := Lib.hid hx
  clear hS hx
  go_enter Try.func37, Try.ntmps37
  go_wp2_with fail
  go_loopw [8] (fun i wr => ∃ k : Nat, k ≤ l.length ∧ i = .int .i64 k ∧ (l.take k).any (dayIn day) = false ∧ Below w.heap.size w wr) (fun i _ => l.length - (intOf i).toNat)
  case atStart => exact ⟨0, Nat.zero_le _, rfl, rfl, Below.refl _ _⟩
  case round =>
    obtain ⟨k, hk, rfl, hno, hbw⟩ := hrel
    have HNO := Lib.hid hno
    clear hno
    by_cases hlt : k < l.length
    · obtain ⟨b, off, rfl, hbl, hc⟩ := HS.out.1 (by omega)
      obtain ⟨sp, hsp⟩ : ∃ sp, l[k]? = some sp := ⟨_, List.getElem?_eq_getElem hlt⟩
      obtain ⟨h1, h2⟩ := hc k sp hsp
      have c1 := (hbw.cell (p := ⟨b, off + k * 2, none⟩) hbl).trans h1
      have c2 := (hbw.cell (p := ⟨b, off + k * 2 + 1, none⟩) hbl).trans h2
      have htk : l.take (k + 1) = l.take k ++ [sp] := by
        rw [List.take_succ_eq_append_getElem hlt]
        congr 2
        have := List.getElem?_eq_getElem hlt
        rw [hsp] at this
        exact (Option.some.inj this).symm
      have hmem : sp ∈ l := List.mem_of_getElem? hsp
      have HTK := Lib.hid (And.intro htk hmem)
      have HC := Lib.hid (has1_any day sp b0 wr (HX.out.below hbw))
      clear hc h1 h2 hsp htk hmem
      cases hd : dayIn day sp
      · rw [hd] at HC
        have HD := Lib.hid hd
        clear hd
        go_wp2_with fail
        refine HC.out.mono ?_
        rintro e w1 ⟨rfl, hb1⟩
        have hbw1 := hbw.trans (hb1.mono hbw.size)
        clear HC c1 c2
        go_wp2_with fail
        go_roundw
        case rel => exact ⟨k + 1, by omega, by go_num, by rw [HTK.out.1, List.any_append, HNO.out]; simp [HD.out], hbw1⟩
        case measure => simp [intOf]; omega
      · rw [hd] at HC
        have HD := Lib.hid hd
        clear hd
        go_wp2_with fail
        refine HC.out.mono ?_
        rintro e w1 ⟨rfl, hb1⟩
        have hbw1 := hbw.trans (hb1.mono hbw.size)
        clear HC c1 c2
        go_wp2_with fail
        go_ret
        refine ⟨(k : Int), rfl, by omega, by omega, ?_, hbw1⟩
        have : l.any (dayIn day) = true := List.any_eq_true.2 ⟨sp, HTK.out.2, HD.out⟩
        rw [this]
        simp
    · obtain rfl : k = l.length := by omega
      go_wp2_with fail
      go_ret
      have := HNO.out
      rw [List.take_length] at this
      exact ⟨-1, rfl, by omega, by omega, by rw [this]; simp, hbw⟩

set_option maxHeartbeats 1000000 in
set_option maxRecDepth 100000 in
theorem containsFunc_any (day : Int) (A : Option Addr) (c : Nat) (l : List (Int × Int)) (b0 : Nat) (w : World) (hS : Sl w A l c) (hx : Box w b0 #[.int .i64 day] 3) (hl : l.length ≤ 1000000) :
    Calls Try.prog 33 #[.slice A l.length c, .func (.func 34) #[] #[.pointer (some ⟨b0, 0, none⟩)]] w fun e w' => e = .returned (.bool (l.any (dayIn day))) ∧ Below w.heap.size w w' := by
  have HC := Lib.hid (indexFunc_any day A c l b0 w hS hx hl)
  clear hS hx
  generalize l.any (dayIn day) = R at *
  go_enter Try.func33, Try.ntmps33
  go_wp2_with fail
  refine HC.out.mono ?_
  rintro e w1 ⟨i, rfl, h1, h2, h3, hb1⟩
  have H3 := Lib.hid h3
  clear h3 HC
  go_wp2_with fail
  go_ret
  refine ⟨ret_bool ?_, hb1⟩
  rw [Bool.eq_iff_iff, decide_eq_true_eq]
  exact H3.out

set_option maxHeartbeats 1000000 in
set_option maxRecDepth 100000 in
theorem has_any (day : Int) (A : Option Addr) (c : Nat) (l : List (Int × Int)) (w : World) (hS : Sl w A l c) (hl : l.length ≤ 1000000) :
    Calls Try.prog 20 #[.slice A l.length c, .int .i64 day] w fun e w' => e = .returned (.bool (hasD l day)) ∧ Below w.heap.size w w' := by
  have hb := (Below.refl w.heap.size w).alloc (Nat.le_refl _) (.cells #[.int .i64 day] 3)
  have HC := Lib.hid (containsFunc_any day A c l w.heap.size (w.alloc (.cells #[.int .i64 day] 3)) (hS.up hb) (Box.new w _ _) hl)
  have HB := Lib.hid hb
  clear hS hb
  by_cases h1 : 0 ≤ day
  · by_cases h2 : day < 1024
    · have hr : hasD l day = l.any (dayIn day) := by unfold hasD; simp [h1, h2]
      have HR := Lib.hid hr
      clear hr
      generalize l.any (dayIn day) = R at *
      go_enter Try.func20, Try.ntmps20
      go_wp2_with fail
      refine HC.out.mono ?_
      rintro e w1 ⟨rfl, hb1⟩
      have hbw := HB.out.trans (hb1.mono HB.out.size)
      clear HC
      cases R
      · go_wp2_with fail
        go_ret
        exact ⟨by rw [HR.out]; rfl, hbw⟩
      · go_wp2_with fail
        go_ret
        exact ⟨by rw [HR.out]; rfl, hbw⟩
    · have hr : hasD l day = false := by unfold hasD; simp [h2]
      have d2 : decide (day < 1024) = false := decide_eq_false h2
      have HR := Lib.hid hr
      clear hr HC
      go_enter Try.func20, Try.ntmps20
      go_wp2_with fail
      go_ret
      exact ⟨by rw [HR.out]; rfl, HB.out⟩
  · have hr : hasD l day = false := by unfold hasD; simp [h1]
    have d1 : decide (0 ≤ day) = false := decide_eq_false h1
    have HR := Lib.hid hr
    clear hr HC
    go_enter Try.func20, Try.ntmps20
    go_wp2_with fail
    go_ret
    exact ⟨by rw [HR.out]; rfl, HB.out⟩
end Go.Proofs.Ytnmlfdmlcpgaaaa
