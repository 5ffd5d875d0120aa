/- The reference's valid. -/
import Derived.Test.YtobchecnfkocdaaRi
namespace Go.Proofs.Ytobchecnfkocdaa
open Go.RowKit
set_option linter.unusedVariables false
set_option linter.unusedSimpArgs false

set_option maxHeartbeats 4000000 in
set_option maxRecDepth 100000 in
theorem valid_any (n : Int) (A : Option Addr) (c : Nat) (gens : List (List Int)) (w : World) (hA : RI w A gens c) (hsh : ∀ p ∈ gens, p.length ≤ 24) :
    Calls Try.prog 37 #[.int .i64 n, .slice A gens.length c] w (fun e w' => e = .returned (.int .i64 (cge n gens)) ∧ Below w.heap.size w w') := by
  have hl1 := hA.le
  have HS := Lib.hid (And.intro hA hsh)
  clear hA hsh
  by_cases p1 : n < 0
  · have hr : cge n gens = 1 := if_pos (fun h => by omega)
    rw [hr]
    have d0 : decide (n < 0) = true := decide_eq_true p1
    clear hr
    generalize gens.length = L at *
    go_enter Try.func37, Try.ntmps37
    go_wp2_with fail
    go_ret
    exact ⟨rfl, Below.refl _ _⟩
  have d0 : decide (n < 0) = false := decide_eq_false p1
  by_cases p2 : 256 < n
  · have hr : cge n gens = 1 := if_pos (fun h => by omega)
    rw [hr]
    have d0b : decide (256 < n) = true := decide_eq_true p2
    clear hr
    generalize gens.length = L at *
    go_enter Try.func37, Try.ntmps37
    go_wp2_with fail
    go_ret
    exact ⟨rfl, Below.refl _ _⟩
  have d0b : decide (256 < n) = false := decide_eq_false p2
  have q1 : 0 ≤ n ∧ n ≤ 256 := by omega
  by_cases q2 : 1024 < gens.length
  · have hr : cge n gens = 2 := by unfold cge; rw [if_neg (fun h => h q1), if_pos q2]
    rw [hr]
    have d1 : decide ((1024 : Int) < (gens.length : Int)) = true := decide_eq_true (by omega)
    have d2 : (1024 : Int) < (gens.length : Int) := by omega
    clear hr
    generalize gens.length = L at *
    go_enter Try.func37, Try.ntmps37
    go_wp2_with fail
    go_ret
    exact ⟨rfl, Below.refl _ _⟩
  have d1 : decide ((1024 : Int) < (gens.length : Int)) = false := decide_eq_false (by omega)
  have d2 : ¬ (1024 : Int) < (gens.length : Int) := by omega
  have hr : cge n gens = if gens.all (fun p => isp p n) = true then 0 else 110 := by unfold cge; rw [if_neg (fun h => h q1), if_neg q2]
  obtain ⟨o, ho⟩ : ∃ o, cge n gens = o := ⟨_, rfl⟩
  rw [ho] at hr ⊢
  have HR := Lib.hid (And.intro hr q1)
  obtain ⟨L, hL⟩ : ∃ L, gens.length = L := ⟨_, rfl⟩
  have HL := Lib.hid hL
  rw [hL] at hl1 d1 d2 ⊢
  clear hr ho hL q1 q2 p1 p2
  go_enter Try.func37, Try.ntmps37
  go_wp2_with fail
  go_loopw [5] (fun i wr => ∃ j : Nat, j ≤ L ∧ i = .int .i64 (j : Int) ∧ (gens.take j).all (fun p => isp p n) = true ∧ Below w.heap.size w wr) (fun i _ => L - (intOf i).toNat)
  case atStart => exact ⟨0, Nat.zero_le _, rfl, rfl, Below.refl _ _⟩
  case round =>
    obtain ⟨j, hj, rfl, hall, hb⟩ := hrel
    have KR := Lib.hid (And.intro hall hb)
    clear hall hb
    by_cases hlt : j < L
    case neg =>
      have hdj : decide ((j : Int) < (L : Int)) = false := decide_eq_false (by omega)
      obtain rfl : j = L := by omega
      have hz : o = 0 := by
        rw [HR.out.1, if_pos]
        have := KR.out.1
        rwa [List.take_of_length_le (by rw [HL.out]; exact Nat.le_refl _)] at this
      have HZ := Lib.hid hz
      clear hz
      go_wp2_with fail
      go_ret
      exact ⟨ret_int HZ.out.symm, KR.out.2⟩
    have hdj : decide ((j : Int) < (L : Int)) = true := decide_eq_true (by omega)
    obtain ⟨p, hp⟩ : ∃ p, gens[j]? = some p := ⟨_, List.getElem?_eq_getElem (by rw [HL.out]; exact hlt)⟩
    obtain ⟨b, off, A', c', rfl, hbl, hc, hs⟩ := HS.out.1.at_ hp
    have z0 := (KR.out.2.cell (p := ⟨b, off + j, none⟩) hbl).trans hc
    have hps := HS.out.2 p (List.mem_of_getElem? hp)
    have HI := Lib.hid (isr_any A' c' p n wr (hs.up KR.out.2) (by omega))
    unfold QB at HI
    have hst := all_step (n := n) hp KR.out.1
    have i0 : (0 : Int) ≤ (j : Int) := by omega
    have i1 : (j : Int) < (L : Int) := by omega
    have hpr : isp p n = isr p n := by rw [isp_isr, decide_eq_true HR.out.2, Bool.true_and]
    generalize p.length = lp at *
    cases q3 : isr p n with
    | false =>
      have HZ := Lib.hid (show o = 110 from by rw [HR.out.1, all_no hp (hpr.trans q3)]; rfl)
      rw [q3] at HI
      clear hp hbl hc hs hst q3 hpr hps
      go_wp2_with fail
      refine HI.out.mono ?_
      rintro e w2 ⟨rfl, hb⟩
      have HB := Lib.hid (KR.out.2.trans (hb.mono KR.out.2.size))
      clear hb z0
      go_wp2_with fail
      go_ret
      exact ⟨ret_int HZ.out.symm, HB.out⟩
    | true =>
      rw [q3] at HI hpr
      rw [hpr] at hst
      have HST := Lib.hid hst
      clear hp hbl hc hs hst q3 hpr hps
      go_wp2_with fail
      refine HI.out.mono ?_
      rintro e w2 ⟨rfl, hb⟩
      have HB := Lib.hid (KR.out.2.trans (hb.mono KR.out.2.size))
      clear hb z0
      go_wp2_with fail
      go_roundw
      case rel => exact ⟨j + 1, by omega, by go_num, HST.out, HB.out⟩
      case measure => simp [intOf]; omega
end Go.Proofs.Ytobchecnfkocdaa
