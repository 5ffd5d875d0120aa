/- The reference's Check and Has. -/
import Derived.Test.YtnmlfdmlcpgaaaaCov
import Derived.Test.YtnmlfdmlcpgaaaaLst
namespace Go.Proofs.Ytnmlfdmlcpgaaaa
open Go.RowKit
set_option linter.unusedVariables false

set_option maxHeartbeats 1000000 in
set_option maxRecDepth 100000 in
theorem refCheck_any (A : Option Addr) (c : Nat) (l : List (Int × Int)) (w : World) (hS : Sl w A l c) (hl : l.length ≤ 1000000) :
    Calls Try.prog 10 #[.slice A l.length c] w fun e w' => e = .returned (.int .i64 (chk l)) ∧ Below w.heap.size w w' := by
  have HS := Lib.hid hS
  clear hS
  go_enter Try.func10, Try.ntmps10
  go_wp2_with fail
  go_loopw [3] (fun i wr => ∃ k : Nat, k ≤ l.length ∧ i = .int .i64 k ∧ (l.take k).all okS = true ∧ Below w.heap.size w wr) (fun i _ => l.length - (intOf i).toNat)
  case atStart => exact ⟨0, Nat.zero_le _, rfl, rfl, Below.refl _ _⟩
  case round =>
    obtain ⟨k, hk, rfl, hok, hbw⟩ := hrel
    have HOK := Lib.hid hok
    have HB := Lib.hid hbw
    clear hok hbw
    by_cases hlt : k < l.length
    · obtain ⟨b, off, rfl, hbl, hc⟩ := HS.out.1 (by omega)
      obtain ⟨sp, hsp⟩ : ∃ sp, l[k]? = some sp := ⟨_, List.getElem?_eq_getElem hlt⟩
      obtain ⟨h1, h2⟩ := hc k sp hsp
      have c1 := (HB.out.cell (p := ⟨b, off + k * 2, none⟩) hbl).trans h1
      have c2 := (HB.out.cell (p := ⟨b, off + k * 2 + 1, none⟩) hbl).trans h2
      have htk := take_next _ _ _ hsp
      have hmem : sp ∈ l := List.mem_of_getElem? hsp
      have HTK := Lib.hid (And.intro htk hmem)
      clear hc h1 h2 hsp htk hmem
      have b1 : (0 : Int) ≤ (k : Int) ∧ (k : Int) < (l.length : Int) := by omega
      have hbad : okS sp = false → chk l = 30 := by
        intro h
        unfold chk
        rw [if_neg]
        intro ha
        have := List.all_eq_true.1 ha sp HTK.out.2
        rw [h] at this
        cases this
      have HBAD := Lib.hid hbad
      clear hbad
      by_cases a1 : sp.1 < 0
      · have hb0 : okS sp = false := by unfold okS; rw [decide_eq_false (by omega)]; rfl
        have HC := Lib.hid (HBAD.out hb0)
        clear hb0
        go_wp2_with fail
        go_quiet (fail)
        go_wp2_with fail
        go_ret
        exact ⟨by rw [HC.out]; rfl, below_drewN HB.out _⟩
      · have d1 : decide (sp.1 < 0) = false := decide_eq_false a1
        by_cases a2 : sp.2 ≤ sp.1
        · have hb0 : okS sp = false := by unfold okS; rw [decide_eq_false (p := sp.1 < sp.2) (by omega)]; simp
          have HC := Lib.hid (HBAD.out hb0)
          clear hb0
          go_wp2_with fail
          go_quiet (fail)
          go_wp2_with fail
          go_ret
          exact ⟨by rw [HC.out]; rfl, below_drewN HB.out _⟩
        · have d2 : decide (sp.2 ≤ sp.1) = false := decide_eq_false a2
          by_cases a3 : 1024 < sp.2
          · have hb0 : okS sp = false := by unfold okS; rw [decide_eq_false (p := sp.2 ≤ 1024) (by omega)]; simp
            have HC := Lib.hid (HBAD.out hb0)
            clear hb0
            go_wp2_with fail
            go_quiet (fail)
            go_wp2_with fail
            go_ret
            exact ⟨by rw [HC.out]; rfl, below_drewN HB.out _⟩
          · have d3 : decide (1024 < sp.2) = false := decide_eq_false a3
            have hgood : okS sp = true := by unfold okS; simp; omega
            have HG := Lib.hid hgood
            clear hgood HBAD
            go_wp2_with fail
            go_quiet (fail)
            go_wp2_with fail
            go_roundw
            case rel => exact ⟨k + 1, by omega, by go_num, by rw [HTK.out.1, List.all_append, HOK.out]; simp [HG.out], below_drewN HB.out _⟩
            case measure => simp [intOf]; omega
    · obtain rfl : k = l.length := by omega
      go_wp2_with fail
      go_ret
      refine ⟨?_, HB.out⟩
      have := HOK.out
      rw [List.take_length] at this
      unfold chk
      rw [if_pos this]
      rfl

set_option maxHeartbeats 1000000 in
set_option maxRecDepth 100000 in
theorem refHas_any (day : Int) (A : Option Addr) (c : Nat) (l : List (Int × Int)) (w : World) (hS : Sl w A l c) (hl : l.length ≤ 1000000) :
    Calls Try.prog 21 #[.slice A l.length c, .int .i64 day] w fun e w' => e = .returned (.bool (hasD l day)) ∧ Below w.heap.size w w' := by
  have HS := Lib.hid hS
  clear hS
  by_cases h1 : 0 ≤ day
  · have e1 : decide (day < 0) = false := decide_eq_false (by omega)
    by_cases h2 : day < 1024
    · have e2 : decide (1024 ≤ day) = false := decide_eq_false (by omega)
      have HR : Hid (hasD l day = l.any (dayIn day)) := Lib.hid (by unfold hasD; simp [h1, h2])
      go_enter Try.func21, Try.ntmps21
      go_wp2_with fail
      go_loopw [5] (fun i wr => ∃ k : Nat, k ≤ l.length ∧ i = .int .i64 k ∧ (l.take k).any (dayIn day) = false ∧ Below w.heap.size w wr) (fun i _ => l.length - (intOf i).toNat)
      case atStart => exact ⟨0, Nat.zero_le _, rfl, rfl, Below.refl _ _⟩
      case round =>
        obtain ⟨k, hk, rfl, hno, hbw⟩ := hrel
        have HNO := Lib.hid hno
        have HB := Lib.hid hbw
        clear hno hbw
        by_cases hlt : k < l.length
        · obtain ⟨b, off, rfl, hbl, hc⟩ := HS.out.1 (by omega)
          obtain ⟨sp, hsp⟩ : ∃ sp, l[k]? = some sp := ⟨_, List.getElem?_eq_getElem hlt⟩
          obtain ⟨h3, h4⟩ := hc k sp hsp
          have c1 := (HB.out.cell (p := ⟨b, off + k * 2, none⟩) hbl).trans h3
          have c2 := (HB.out.cell (p := ⟨b, off + k * 2 + 1, none⟩) hbl).trans h4
          have htk := take_next _ _ _ hsp
          have hmem : sp ∈ l := List.mem_of_getElem? hsp
          have HTK := Lib.hid (And.intro htk hmem)
          clear hc h3 h4 hsp htk hmem
          have b1 : (0 : Int) ≤ (k : Int) ∧ (k : Int) < (l.length : Int) := by omega
          by_cases a1 : sp.1 ≤ day
          · by_cases a2 : day < sp.2
            · have HD : Hid (dayIn day sp = true) := Lib.hid (by unfold dayIn; simp [a1, a2])
              go_wp2_with fail
              go_ret
              refine ⟨?_, HB.out⟩
              rw [HR.out]
              have : l.any (dayIn day) = true := List.any_eq_true.2 ⟨sp, HTK.out.2, HD.out⟩
              rw [this]
              rfl
            · have d2 : decide (day < sp.2) = false := decide_eq_false a2
              have HD : Hid (dayIn day sp = false) := Lib.hid (by unfold dayIn; simp [a2])
              go_wp2_with fail
              go_roundw
              case rel => exact ⟨k + 1, by omega, by go_num, by rw [HTK.out.1, List.any_append, HNO.out]; simp [HD.out], HB.out⟩
              case measure => simp [intOf]; omega
          · have d1 : decide (sp.1 ≤ day) = false := decide_eq_false a1
            have HD : Hid (dayIn day sp = false) := Lib.hid (by unfold dayIn; simp [a1])
            go_wp2_with fail
            go_roundw
            case rel => exact ⟨k + 1, by omega, by go_num, by rw [HTK.out.1, List.any_append, HNO.out]; simp [HD.out], HB.out⟩
            case measure => simp [intOf]; omega
        · obtain rfl : k = l.length := by omega
          go_wp2_with fail
          go_ret
          have := HNO.out
          rw [List.take_length] at this
          exact ⟨by rw [HR.out, this]; rfl, HB.out⟩
    · have e2 : decide (1024 ≤ day) = true := decide_eq_true (by omega)
      have HR : Hid (hasD l day = false) := Lib.hid (by unfold hasD; simp [h2])
      go_enter Try.func21, Try.ntmps21
      go_wp2_with fail
      go_ret
      exact ⟨by rw [HR.out]; rfl, Below.refl _ _⟩
  · have e1 : decide (day < 0) = true := decide_eq_true (by omega)
    have HR : Hid (hasD l day = false) := Lib.hid (by unfold hasD; simp [h1])
    go_enter Try.func21, Try.ntmps21
    go_wp2_with fail
    go_ret
    exact ⟨by rw [HR.out]; rfl, Below.refl _ _⟩
end Go.Proofs.Ytnmlfdmlcpgaaaa
