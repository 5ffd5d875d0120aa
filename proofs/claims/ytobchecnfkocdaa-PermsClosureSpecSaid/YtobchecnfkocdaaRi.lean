/- Slices of lists of numbers; checkGenerators. -/
import Derived.Test.YtobchecnfkocdaaOrd
namespace Go.Proofs.Ytobchecnfkocdaa
open Go.RowKit
set_option linter.unusedVariables false
set_option linter.unusedSimpArgs false

/-- A slice of lists of numbers in memory. -/
def RI (w : World) (A : Option Addr) (ls : List (List Int)) (c : Nat) : Prop :=
  (0 < ls.length → ∃ b off, A = some ⟨b, off, none⟩ ∧ b < w.heap.size ∧ ∀ i l, ls[i]? = some l → ∃ A' c', w.cell? ⟨b, off + i, none⟩ = some (.slice A' l.length c') ∧ Si w A' l c') ∧ ls.length ≤ c ∧ c ≤ maxLen ∧ (A = none → ls = [] ∧ c = 0)
theorem RI.up {w w' : World} {A : Option Addr} {ls : List (List Int)} {c : Nat} (h : RI w A ls c) (hb : Below w.heap.size w w') : RI w' A ls c :=
  ⟨fun hl => by
    obtain ⟨b, off, e, h1, h2⟩ := h.1 hl
    refine ⟨b, off, e, Nat.lt_of_lt_of_le h1 hb.size, fun i l hi => ?_⟩
    obtain ⟨A', c', h3, h4⟩ := h2 i l hi
    exact ⟨A', c', (hb.cell (p := ⟨b, off + i, none⟩) h1).trans h3, h4.up hb⟩, h.2⟩
theorem RI.nil (w : World) : RI w none [] 0 := ⟨fun h => absurd h (by simp), Nat.le_refl _, by unfold maxLen; omega, fun _ => ⟨rfl, rfl⟩⟩
theorem RI.le {w : World} {A : Option Addr} {ls : List (List Int)} {c : Nat} (h : RI w A ls c) : ls.length ≤ 9223372036854775807 := by
  have h1 := h.2.1
  have h2 := h.2.2.1
  unfold maxLen at h2
  omega
theorem RI.at_ {w : World} {A : Option Addr} {ls : List (List Int)} {c : Nat} (h : RI w A ls c) {i : Nat} {l : List Int} (hi : ls[i]? = some l) : ∃ b off A' c', A = some ⟨b, off, none⟩ ∧ b < w.heap.size ∧ w.cell? ⟨b, off + i, none⟩ = some (.slice A' l.length c') ∧ Si w A' l c' := by
  obtain ⟨b, off, e, h1, h2⟩ := h.1 (by have := (List.getElem?_eq_some_iff.1 hi).1; omega)
  obtain ⟨A', c', h3, h4⟩ := h2 i l hi
  exact ⟨b, off, A', c', e, h1, h3, h4⟩
/-- The error of generators. -/
def cge (n : Int) (gens : List (List Int)) : Int := if ¬ (0 ≤ n ∧ n ≤ 256) then 1 else if 1024 < gens.length then 2 else if gens.all (fun p => isp p n) = true then 0 else 110
theorem all_step {gens : List (List Int)} {n : Int} {j : Nat} {p : List Int} (hp : gens[j]? = some p) (h : (gens.take j).all (fun p => isp p n) = true) : (gens.take (j + 1)).all (fun p => isp p n) = isp p n := by
  rw [take_next hp, List.all_append, h]
  simp
theorem all_no {gens : List (List Int)} {n : Int} {j : Nat} {p : List Int} (hp : gens[j]? = some p) (h : isp p n = false) : gens.all (fun p => isp p n) = false := by
  rw [Bool.eq_false_iff]
  intro h2
  have := List.all_eq_true.1 h2 p (List.mem_of_getElem? hp)
  rw [h] at this
  cases this

set_option maxHeartbeats 4000000 in
set_option maxRecDepth 100000 in
theorem checkGens_any (n : Int) (A : Option Addr) (c : Nat) (gens : List (List Int)) (w : World) (hA : RI w A gens c) :
    Calls Try.prog 32 #[.int .i64 n, .slice A gens.length c] w (fun e w' => e = .returned (.int .i64 (cge n gens)) ∧ Below w.heap.size w w') := by
  have hl1 := hA.le
  have HC := Lib.hid (count_any n w)
  have HS := Lib.hid hA
  clear hA
  by_cases q1 : 0 ≤ n ∧ n ≤ 256
  case neg =>
    have hr : cge n gens = 1 := if_pos q1
    rw [hr]
    rw [decide_eq_false q1] at HC
    clear hr
    generalize gens.length = L at *
    go_enter Try.func32, Try.ntmps32
    go_wp2_with fail
    refine HC.out.mono ?_
    rintro e w1 ⟨rfl, rfl⟩
    go_wp2_with fail
    go_ret
    exact ⟨rfl, Below.refl _ _⟩
  rw [decide_eq_true q1] at HC
  by_cases q2 : 1024 < gens.length
  · have hr : cge n gens = 2 := by unfold cge; rw [if_neg (fun h => h q1), if_pos q2]
    rw [hr]
    have d1 : decide ((1024 : Int) < (gens.length : Int)) = true := decide_eq_true (by omega)
    have d2 : (1024 : Int) < (gens.length : Int) := by omega
    clear hr
    generalize gens.length = L at *
    go_enter Try.func32, Try.ntmps32
    go_wp2_with fail
    refine HC.out.mono ?_
    rintro e w1 ⟨rfl, rfl⟩
    go_wp2_with fail
    go_ret
    exact ⟨rfl, Below.refl _ _⟩
  have d1 : decide ((1024 : Int) < (gens.length : Int)) = false := decide_eq_false (by omega)
  have d2 : ¬ (1024 : Int) < (gens.length : Int) := by omega
  have hr : cge n gens = if gens.all (fun p => isp p n) = true then 0 else 110 := by unfold cge; rw [if_neg (fun h => h q1), if_neg q2]
  obtain ⟨o, ho⟩ : ∃ o, cge n gens = o := ⟨_, rfl⟩
  rw [ho] at hr ⊢
  have HR := Lib.hid hr
  obtain ⟨L, hL⟩ : ∃ L, gens.length = L := ⟨_, rfl⟩
  have HL := Lib.hid hL
  rw [hL] at hl1 d1 d2 ⊢
  clear hr ho hL q1 q2
  go_enter Try.func32, Try.ntmps32
  go_wp2_with fail
  refine HC.out.mono ?_
  rintro e w1 ⟨rfl, rfl⟩
  go_wp2_with fail
  go_loopw [15] (fun i wr => ∃ j : Nat, j ≤ L ∧ i = .int .i64 (j : Int) ∧ (gens.take j).all (fun p => isp p n) = true ∧ Below w.heap.size w wr) (fun i _ => L - (intOf i).toNat)
  case atStart => exact ⟨0, Nat.zero_le _, rfl, rfl, Below.refl _ _⟩
  case round =>
    obtain ⟨j, hj, rfl, hall, hb⟩ := hrel
    have KR := Lib.hid (And.intro hall hb)
    clear hall hb
    by_cases hlt : j < L
    case neg =>
      have hdj : decide ((j : Int) < (L : Int)) = false := decide_eq_false (by omega)
      obtain rfl : j = L := by omega
      have hz : o = 0 := by
        rw [HR.out, if_pos]
        have := KR.out.1
        rwa [List.take_of_length_le (by rw [HL.out]; exact Nat.le_refl _)] at this
      have HZ := Lib.hid hz
      clear hz
      go_wp2_with fail
      go_ret
      exact ⟨ret_int HZ.out.symm, KR.out.2⟩
    have hdj : decide ((j : Int) < (L : Int)) = true := decide_eq_true (by omega)
    obtain ⟨p, hp⟩ : ∃ p, gens[j]? = some p := ⟨_, List.getElem?_eq_getElem (by rw [HL.out]; exact hlt)⟩
    obtain ⟨b, off, A', c', rfl, hbl, hc, hs⟩ := HS.out.at_ hp
    have z0 := (KR.out.2.cell (p := ⟨b, off + j, none⟩) hbl).trans hc
    have HI := Lib.hid (isp_any A' c' p n wr (hs.up KR.out.2))
    unfold QB at HI
    have hst := all_step (n := n) hp KR.out.1
    have i0 : (0 : Int) ≤ (j : Int) := by omega
    have i1 : (j : Int) < (L : Int) := by omega
    generalize p.length = lp at *
    cases q3 : isp p n with
    | false =>
      have HZ := Lib.hid (show o = 110 from by rw [HR.out, all_no hp q3]; rfl)
      rw [q3] at HI
      clear hp hbl hc hs hst q3
      go_wp2_with fail
      refine HI.out.mono ?_
      rintro e w2 ⟨rfl, hb⟩
      have HB := Lib.hid (KR.out.2.trans (hb.mono KR.out.2.size))
      clear hb z0
      go_wp2_with fail
      go_ret
      exact ⟨ret_int HZ.out.symm, HB.out⟩
    | true =>
      rw [q3] at HI hst
      have HST := Lib.hid hst
      clear hp hbl hc hs hst q3
      go_wp2_with fail
      refine HI.out.mono ?_
      rintro e w2 ⟨rfl, hb⟩
      have HB := Lib.hid (KR.out.2.trans (hb.mono KR.out.2.size))
      clear hb z0
      go_wp2_with fail
      go_roundw
      case rel => exact ⟨j + 1, by omega, by go_num, HST.out, HB.out⟩
      case measure => simp [intOf]; omega
end Go.Proofs.Ytobchecnfkocdaa
