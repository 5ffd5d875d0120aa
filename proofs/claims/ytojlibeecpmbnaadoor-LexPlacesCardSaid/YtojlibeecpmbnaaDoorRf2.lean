/- The reference's signs, names, numbers. -/
import Derived.Test.YtojlibeecpmbnaaDoorRf
namespace Go.Proofs.YtojlibeecpmbnaaDoor
open Go.RowKit Go.Shelf
set_option linter.unusedVariables false
set_option linter.unusedSimpArgs false
attribute [local go_sem] bs_toList bs_e

theorem isSg_of (b : UInt8) : isSg b = true ↔ ∃ j, j < 16 ∧ sgs[j]? = some b := by
  unfold isSg
  rw [List.contains_iff_mem]
  constructor
  · intro h
    obtain ⟨j, hj, e⟩ := List.getElem_of_mem h
    exact ⟨j, hj, by rw [List.getElem?_eq_getElem hj, e]⟩
  · rintro ⟨j, _, h⟩
    exact List.mem_of_getElem? h
set_option maxHeartbeats 2000000 in
set_option maxRecDepth 100000 in
theorem rSign_any (b : UInt8) (w : World) : Calls Tryd.prog 30 #[bv b] w (QBool (isSg b) w) := by
  unfold QBool
  have hlen : ∀ wx, (Builtin.len_ #[9] 3 #[.string ⟨#[123, 125, 40, 41, 59, 44, 61, 58, 46, 60, 62, 33, 43, 45, 42, 47]⟩]).run Tryd.prog wx = .ok (.int .i64 16) wx := fun wx => bs_len sgs _ _ Tryd.underlying9 wx
  obtain ⟨q, hq⟩ : ∃ q, isSg b = q := ⟨_, rfl⟩
  rw [hq]
  have HQ := Lib.hid hq
  clear hq
  unfold bv
  obtain ⟨n, hn⟩ : ∃ n, b.toNat = n := ⟨_, rfl⟩
  rw [hn]
  have HN := Lib.hid hn
  clear hn
  go_enter Tryd.func30, Tryd.ntmps30
  go_wp2_with fail
  go_loopw [4] (fun i wr => ∃ j : Nat, j ≤ 16 ∧ i = .int .i64 (j : Int) ∧ (∀ (k : Nat) c, k < j → sgs[k]? = some c → c ≠ b) ∧ wr = w) (fun i _ => 16 - (intOf i).toNat)
  case atStart => exact ⟨0, Nat.zero_le _, rfl, fun k c h => absurd h (by omega), rfl⟩
  case round =>
    obtain ⟨j, hj, rfl, hin, rfl⟩ := hrel
    have HIN := Lib.hid hin
    clear hin
    by_cases hlt : j < 16
    case neg =>
      obtain rfl : j = 16 := by omega
      have HE := Lib.hid (show q = false from by
        rw [← HQ.out]
        cases h : isSg b with
        | false => rfl
        | true =>
          obtain ⟨k, hk, e⟩ := (isSg_of b).1 h
          exact absurd rfl (HIN.out k b hk e))
      go_wp2_with fail
      go_ret
      exact ⟨ret_b HE.out.symm, rfl⟩
    have hd : decide ((j : Int) < 16) = true := decide_eq_true (by omega)
    have hd2 : (j : Int) < 16 := by omega
    obtain ⟨c, hc⟩ : ∃ c, sgs[j]? = some c := ⟨_, List.getElem?_eq_getElem hlt⟩
    have hix : ∀ wx, (Instr.index 9 (.string ⟨#[123, 125, 40, 41, 59, 44, 61, 58, 46, 60, 62, 33, 43, 45, 42, 47]⟩) (.int .i64 (j : Int))).run Tryd.prog wx = .ok (bv c) wx := fun wx => bs_idx (l := sgs) hc _ Tryd.underlying9 wx
    unfold bv at hix
    obtain ⟨m, hm⟩ : ∃ m, c.toNat = m := ⟨_, rfl⟩
    rw [hm] at hix
    have HC := Lib.hid (And.intro hc hm)
    clear hc hm
    by_cases hmn : m = n
    · subst hmn
      have HE := Lib.hid (show q = true from by
        rw [← HQ.out]
        have : c = b := UInt8.toNat_inj.1 (by rw [HC.out.2, HN.out])
        exact (isSg_of b).2 ⟨j, hlt, by rw [← this]; exact HC.out.1⟩)
      go_wp2_with fail
      go_ret
      exact ⟨ret_b HE.out.symm, rfl⟩
    · have hd3 : ((m : Int) == (n : Int)) = false := by rw [beq_eq_false_iff_ne]; omega
      have hd4 : ¬ (m : Int) = (n : Int) := by omega
      have hd5 : decide ((m : Int) = (n : Int)) = false := decide_eq_false (by omega)
      have HE := Lib.hid (show c ≠ b from fun e => by have h1 := HC.out.2; rw [e, HN.out] at h1; exact hmn h1.symm)
      go_wp2_with fail
      go_roundw
      case rel => exact ⟨j + 1, by omega, by go_num, fun k c' hk hc' => by
        rcases Nat.lt_or_ge k j with h | h
        · exact HIN.out k c' h hc'
        · obtain rfl : k = j := by omega
          rw [HC.out.1] at hc'
          cases hc'
          exact HE.out, trivial⟩
      case measure => simp [intOf]; omega

set_option maxHeartbeats 2000000 in
set_option maxRecDepth 100000 in
theorem rName_any (l : List UInt8) (w : World) (hl : l.length ≤ 1000000) : Calls Tryd.prog 21 #[.string (bs l)] w (QBool (nm l) w) := by
  unfold QBool
  obtain ⟨L, hL⟩ : ∃ L, l.length = L := ⟨_, rfl⟩
  have hlen : ∀ wx, (Builtin.len_ #[9] 3 #[.string (bs l)]).run Tryd.prog wx = .ok (.int .i64 (L : Int)) wx := fun wx => by rw [bs_len l _ _ Tryd.underlying9, hL]
  have HL := Lib.hid hL
  have HPT := Lib.hid (fun b (V : World) => rpart_any b V)
  have HLT := Lib.hid (fun b (V : World) => rLetter_any b V)
  obtain ⟨q, hq⟩ : ∃ q, nm l = q := ⟨_, rfl⟩
  rw [hq]
  have HQ := Lib.hid hq
  rw [hL] at hl
  unfold QBool at HPT HLT
  clear hq hL
  by_cases h0 : 0 < L
  case neg =>
    have hd : decide ((L : Int) < 1) = true := decide_eq_true (by omega)
    have hd2 : (L : Int) < 1 := by omega
    have HE := Lib.hid (show q = false from by
      rw [← HQ.out]
      unfold nm
      rw [show decide (0 < l.length) = false from decide_eq_false (by rw [HL.out]; exact h0)]
      rfl)
    go_enter Tryd.func21, Tryd.ntmps21
    go_wp2_with fail
    go_ret
    exact ⟨ret_b HE.out.symm, rfl⟩
  have hd : decide ((L : Int) < 1) = false := decide_eq_false (by omega)
  have hd2 : ¬ (L : Int) < 1 := by omega
  by_cases h32 : L ≤ 32
  case neg =>
    have hd3 : decide ((32 : Int) < (L : Int)) = true := decide_eq_true (by omega)
    have hd4 : (32 : Int) < (L : Int) := by omega
    have HE := Lib.hid (show q = false from by
      rw [← HQ.out]
      unfold nm
      rw [show decide (l.length ≤ 32) = false from decide_eq_false (by rw [HL.out]; exact h32), Bool.and_false]
      rfl)
    go_enter Tryd.func21, Tryd.ntmps21
    go_wp2_with fail
    go_ret
    exact ⟨ret_b HE.out.symm, rfl⟩
  have hd3 : decide ((32 : Int) < (L : Int)) = false := decide_eq_false (by omega)
  have hd4 : ¬ (32 : Int) < (L : Int) := by omega
  obtain ⟨b0, hb0⟩ : ∃ b, l[0]? = some b := ⟨_, List.getElem?_eq_getElem (by rw [HL.out]; exact h0)⟩
  have hhd : l.headD 0 = b0 := by
    cases l with
    | nil => cases hb0
    | cons c r => simpa using hb0
  have hnm : nm l = (isL b0 && l.all isP) := by
    unfold nm
    rw [hhd, show decide (0 < l.length) = true from decide_eq_true (by rw [HL.out]; exact h0), show decide (l.length ≤ 32) = true from decide_eq_true (by rw [HL.out]; exact h32)]
    rfl
  have hix : ∀ wx, (Instr.index 9 (.string (bs l)) (.int .i64 0)).run Tryd.prog wx = .ok (bv b0) wx := fun wx => bs_idx hb0 _ Tryd.underlying9 wx
  have HNM := Lib.hid hnm
  have HLB := Lib.hid (HLT.out b0)
  clear hb0 hhd hnm HLT
  cases hil : isL b0 with
  | false =>
    rw [hil] at HLB
    have HE := Lib.hid (show q = false from by rw [← HQ.out, HNM.out, hil]; rfl)
    clear hil
    go_enter Tryd.func21, Tryd.ntmps21
    go_wp2_with fail
    refine (HLB.out _).mono ?_
    rintro e w1 ⟨rfl, rfl⟩
    go_wp2_with fail
    go_ret
    exact ⟨ret_b HE.out.symm, rfl⟩
  | true =>
  rw [hil] at HLB
  have HAL := Lib.hid (show nm l = l.all isP from by rw [HNM.out, hil]; rfl)
  clear hil HNM
  go_enter Tryd.func21, Tryd.ntmps21
  go_wp2_with fail
  refine (HLB.out _).mono ?_
  rintro e w1 ⟨rfl, rfl⟩
  clear hix HLB
  go_wp2_with fail
  go_loopw [3] (fun i wr => ∃ j : Nat, j ≤ L ∧ i = .int .i64 (j : Int) ∧ (∀ (k : Nat) c, k < j → l[k]? = some c → isP c = true) ∧ wr = w1) (fun i _ => L - (intOf i).toNat)
  case atStart => exact ⟨0, Nat.zero_le _, rfl, fun k c h => absurd h (by omega), rfl⟩
  case round =>
    obtain ⟨j, hj, rfl, hin, rfl⟩ := hrel
    have HIN := Lib.hid hin
    clear hin
    by_cases hlt : j < L
    case neg =>
      have hdj : decide ((j : Int) < (L : Int)) = false := decide_eq_false (by omega)
      have HE := Lib.hid (show q = true from by
        rw [← HQ.out, HAL.out]
        exact List.all_eq_true.2 fun c hc => by
          obtain ⟨k, hk, e⟩ := List.getElem_of_mem hc
          exact HIN.out k c (by have := HL.out; omega) (by rw [List.getElem?_eq_getElem hk, e]))
      go_wp2_with fail
      go_ret
      exact ⟨ret_b HE.out.symm, rfl⟩
    have hdj : decide ((j : Int) < (L : Int)) = true := decide_eq_true (by omega)
    obtain ⟨c, hc⟩ : ∃ c, l[j]? = some c := ⟨_, List.getElem?_eq_getElem (by rw [HL.out]; exact hlt)⟩
    have hix : ∀ wx, (Instr.index 9 (.string (bs l)) (.int .i64 (j : Int))).run Tryd.prog wx = .ok (bv c) wx := fun wx => bs_idx hc _ Tryd.underlying9 wx
    have HC := Lib.hid hc
    have HPB := Lib.hid (HPT.out c)
    clear hc
    cases hp : isP c with
    | false =>
      rw [hp] at HPB
      have HE := Lib.hid (show q = false from by
        rw [← HQ.out, HAL.out]
        cases ha : l.all isP with
        | false => rfl
        | true =>
          have := List.all_eq_true.1 ha c (List.mem_of_getElem? HC.out)
          rw [hp] at this
          cases this)
      clear hp
      go_wp2_with fail
      refine (HPB.out _).mono ?_
      rintro e w2 ⟨rfl, rfl⟩
      go_wp2_with fail
      go_ret
      exact ⟨ret_b HE.out.symm, rfl⟩
    | true =>
      rw [hp] at HPB
      have HP1 := Lib.hid hp
      clear hp
      go_wp2_with fail
      refine (HPB.out _).mono ?_
      rintro e w2 ⟨rfl, rfl⟩
      go_wp2_with fail
      go_roundw
      case rel => exact ⟨j + 1, by omega, by go_num, fun k c' hk hc' => by
        rcases Nat.lt_or_ge k j with h | h
        · exact HIN.out k c' h hc'
        · obtain rfl : k = j := by omega
          rw [HC.out] at hc'
          cases hc'
          exact HP1.out, trivial⟩
      case measure => simp [intOf]; omega
end Go.Proofs.YtojlibeecpmbnaaDoor
