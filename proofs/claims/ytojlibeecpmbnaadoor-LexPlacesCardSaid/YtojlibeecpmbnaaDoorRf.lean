/- The reference's classes of bytes, names, numbers. -/
import Derived.Test.YtojlibeecpmbnaaDoorPlB
namespace Go.Proofs.YtojlibeecpmbnaaDoor
open Go.RowKit Go.Shelf
set_option linter.unusedVariables false
set_option linter.unusedSimpArgs false

set_option maxHeartbeats 1000000 in
theorem rLetter_any (b : UInt8) (w : World) : Calls Tryd.prog 26 #[bv b] w (QBool (isL b) w) := by
  unfold QBool isL bv
  have hb := b.toNat_lt
  obtain ⟨n, hn⟩ : ∃ n, b.toNat = n := ⟨_, rfl⟩
  rw [hn]
  rw [hn] at hb
  clear hn
  by_cases h0 : 97 ≤ n
  case pos =>
    have d0 : decide ((97 : Int) ≤ (n : Int)) = true := decide_eq_true (by omega)
    have e0 : (97 : Int) ≤ (n : Int) := by omega
    by_cases h1 : n ≤ 122
    case pos =>
      have d1 : decide ((n : Int) ≤ 122) = true := decide_eq_true (by omega)
      have e1 : (n : Int) ≤ 122 := by omega
      by_cases h2 : 65 ≤ n
      case pos =>
        have d2 : decide ((65 : Int) ≤ (n : Int)) = true := decide_eq_true (by omega)
        have e2 : (65 : Int) ≤ (n : Int) := by omega
        by_cases h3 : n ≤ 90
        case pos =>
          have d3 : decide ((n : Int) ≤ 90) = true := decide_eq_true (by omega)
          have e3 : (n : Int) ≤ 90 := by omega
          go_enter Tryd.func26, Tryd.ntmps26
          go_wp2_with fail
          go_ret
          exact ⟨ret_b (by rw [Bool.eq_iff_iff] <;> (try simp) <;> (try omega)), rfl⟩
        case neg =>
          have d3 : decide ((n : Int) ≤ 90) = false := decide_eq_false (by omega)
          have e3 : ¬ (n : Int) ≤ 90 := by omega
          go_enter Tryd.func26, Tryd.ntmps26
          go_wp2_with fail
          go_ret
          exact ⟨ret_b (by rw [Bool.eq_iff_iff] <;> (try simp) <;> (try omega)), rfl⟩
      case neg =>
        have d2 : decide ((65 : Int) ≤ (n : Int)) = false := decide_eq_false (by omega)
        have e2 : ¬ (65 : Int) ≤ (n : Int) := by omega
        by_cases h3 : n ≤ 90
        case pos =>
          have d3 : decide ((n : Int) ≤ 90) = true := decide_eq_true (by omega)
          have e3 : (n : Int) ≤ 90 := by omega
          go_enter Tryd.func26, Tryd.ntmps26
          go_wp2_with fail
          go_ret
          exact ⟨ret_b (by rw [Bool.eq_iff_iff] <;> (try simp) <;> (try omega)), rfl⟩
        case neg =>
          have d3 : decide ((n : Int) ≤ 90) = false := decide_eq_false (by omega)
          have e3 : ¬ (n : Int) ≤ 90 := by omega
          go_enter Tryd.func26, Tryd.ntmps26
          go_wp2_with fail
          go_ret
          exact ⟨ret_b (by rw [Bool.eq_iff_iff] <;> (try simp) <;> (try omega)), rfl⟩
    case neg =>
      have d1 : decide ((n : Int) ≤ 122) = false := decide_eq_false (by omega)
      have e1 : ¬ (n : Int) ≤ 122 := by omega
      by_cases h2 : 65 ≤ n
      case pos =>
        have d2 : decide ((65 : Int) ≤ (n : Int)) = true := decide_eq_true (by omega)
        have e2 : (65 : Int) ≤ (n : Int) := by omega
        by_cases h3 : n ≤ 90
        case pos =>
          have d3 : decide ((n : Int) ≤ 90) = true := decide_eq_true (by omega)
          have e3 : (n : Int) ≤ 90 := by omega
          go_enter Tryd.func26, Tryd.ntmps26
          go_wp2_with fail
          go_ret
          exact ⟨ret_b (by rw [Bool.eq_iff_iff] <;> (try simp) <;> (try omega)), rfl⟩
        case neg =>
          have d3 : decide ((n : Int) ≤ 90) = false := decide_eq_false (by omega)
          have e3 : ¬ (n : Int) ≤ 90 := by omega
          go_enter Tryd.func26, Tryd.ntmps26
          go_wp2_with fail
          go_ret
          exact ⟨ret_b (by rw [Bool.eq_iff_iff] <;> (try simp) <;> (try omega)), rfl⟩
      case neg =>
        have d2 : decide ((65 : Int) ≤ (n : Int)) = false := decide_eq_false (by omega)
        have e2 : ¬ (65 : Int) ≤ (n : Int) := by omega
        by_cases h3 : n ≤ 90
        case pos =>
          have d3 : decide ((n : Int) ≤ 90) = true := decide_eq_true (by omega)
          have e3 : (n : Int) ≤ 90 := by omega
          go_enter Tryd.func26, Tryd.ntmps26
          go_wp2_with fail
          go_ret
          exact ⟨ret_b (by rw [Bool.eq_iff_iff] <;> (try simp) <;> (try omega)), rfl⟩
        case neg =>
          have d3 : decide ((n : Int) ≤ 90) = false := decide_eq_false (by omega)
          have e3 : ¬ (n : Int) ≤ 90 := by omega
          go_enter Tryd.func26, Tryd.ntmps26
          go_wp2_with fail
          go_ret
          exact ⟨ret_b (by rw [Bool.eq_iff_iff] <;> (try simp) <;> (try omega)), rfl⟩
  case neg =>
    have d0 : decide ((97 : Int) ≤ (n : Int)) = false := decide_eq_false (by omega)
    have e0 : ¬ (97 : Int) ≤ (n : Int) := by omega
    by_cases h1 : n ≤ 122
    case pos =>
      have d1 : decide ((n : Int) ≤ 122) = true := decide_eq_true (by omega)
      have e1 : (n : Int) ≤ 122 := by omega
      by_cases h2 : 65 ≤ n
      case pos =>
        have d2 : decide ((65 : Int) ≤ (n : Int)) = true := decide_eq_true (by omega)
        have e2 : (65 : Int) ≤ (n : Int) := by omega
        by_cases h3 : n ≤ 90
        case pos =>
          have d3 : decide ((n : Int) ≤ 90) = true := decide_eq_true (by omega)
          have e3 : (n : Int) ≤ 90 := by omega
          go_enter Tryd.func26, Tryd.ntmps26
          go_wp2_with fail
          go_ret
          exact ⟨ret_b (by rw [Bool.eq_iff_iff] <;> (try simp) <;> (try omega)), rfl⟩
        case neg =>
          have d3 : decide ((n : Int) ≤ 90) = false := decide_eq_false (by omega)
          have e3 : ¬ (n : Int) ≤ 90 := by omega
          go_enter Tryd.func26, Tryd.ntmps26
          go_wp2_with fail
          go_ret
          exact ⟨ret_b (by rw [Bool.eq_iff_iff] <;> (try simp) <;> (try omega)), rfl⟩
      case neg =>
        have d2 : decide ((65 : Int) ≤ (n : Int)) = false := decide_eq_false (by omega)
        have e2 : ¬ (65 : Int) ≤ (n : Int) := by omega
        by_cases h3 : n ≤ 90
        case pos =>
          have d3 : decide ((n : Int) ≤ 90) = true := decide_eq_true (by omega)
          have e3 : (n : Int) ≤ 90 := by omega
          go_enter Tryd.func26, Tryd.ntmps26
          go_wp2_with fail
          go_ret
          exact ⟨ret_b (by rw [Bool.eq_iff_iff] <;> (try simp) <;> (try omega)), rfl⟩
        case neg =>
          have d3 : decide ((n : Int) ≤ 90) = false := decide_eq_false (by omega)
          have e3 : ¬ (n : Int) ≤ 90 := by omega
          go_enter Tryd.func26, Tryd.ntmps26
          go_wp2_with fail
          go_ret
          exact ⟨ret_b (by rw [Bool.eq_iff_iff] <;> (try simp) <;> (try omega)), rfl⟩
    case neg =>
      have d1 : decide ((n : Int) ≤ 122) = false := decide_eq_false (by omega)
      have e1 : ¬ (n : Int) ≤ 122 := by omega
      by_cases h2 : 65 ≤ n
      case pos =>
        have d2 : decide ((65 : Int) ≤ (n : Int)) = true := decide_eq_true (by omega)
        have e2 : (65 : Int) ≤ (n : Int) := by omega
        by_cases h3 : n ≤ 90
        case pos =>
          have d3 : decide ((n : Int) ≤ 90) = true := decide_eq_true (by omega)
          have e3 : (n : Int) ≤ 90 := by omega
          go_enter Tryd.func26, Tryd.ntmps26
          go_wp2_with fail
          go_ret
          exact ⟨ret_b (by rw [Bool.eq_iff_iff] <;> (try simp) <;> (try omega)), rfl⟩
        case neg =>
          have d3 : decide ((n : Int) ≤ 90) = false := decide_eq_false (by omega)
          have e3 : ¬ (n : Int) ≤ 90 := by omega
          go_enter Tryd.func26, Tryd.ntmps26
          go_wp2_with fail
          go_ret
          exact ⟨ret_b (by rw [Bool.eq_iff_iff] <;> (try simp) <;> (try omega)), rfl⟩
      case neg =>
        have d2 : decide ((65 : Int) ≤ (n : Int)) = false := decide_eq_false (by omega)
        have e2 : ¬ (65 : Int) ≤ (n : Int) := by omega
        by_cases h3 : n ≤ 90
        case pos =>
          have d3 : decide ((n : Int) ≤ 90) = true := decide_eq_true (by omega)
          have e3 : (n : Int) ≤ 90 := by omega
          go_enter Tryd.func26, Tryd.ntmps26
          go_wp2_with fail
          go_ret
          exact ⟨ret_b (by rw [Bool.eq_iff_iff] <;> (try simp) <;> (try omega)), rfl⟩
        case neg =>
          have d3 : decide ((n : Int) ≤ 90) = false := decide_eq_false (by omega)
          have e3 : ¬ (n : Int) ≤ 90 := by omega
          go_enter Tryd.func26, Tryd.ntmps26
          go_wp2_with fail
          go_ret
          exact ⟨ret_b (by rw [Bool.eq_iff_iff] <;> (try simp) <;> (try omega)), rfl⟩
set_option maxHeartbeats 1000000 in
theorem rFigure_any (b : UInt8) (w : World) : Calls Tryd.prog 28 #[bv b] w (QBool (isD b) w) := by
  unfold QBool isD bv
  have hb := b.toNat_lt
  obtain ⟨n, hn⟩ : ∃ n, b.toNat = n := ⟨_, rfl⟩
  rw [hn]
  rw [hn] at hb
  clear hn
  by_cases h0 : 48 ≤ n
  case pos =>
    have d0 : decide ((48 : Int) ≤ (n : Int)) = true := decide_eq_true (by omega)
    have e0 : (48 : Int) ≤ (n : Int) := by omega
    by_cases h1 : n ≤ 57
    case pos =>
      have d1 : decide ((n : Int) ≤ 57) = true := decide_eq_true (by omega)
      have e1 : (n : Int) ≤ 57 := by omega
      go_enter Tryd.func28, Tryd.ntmps28
      go_wp2_with fail
      go_ret
      exact ⟨ret_b (by rw [Bool.eq_iff_iff] <;> (try simp) <;> (try omega)), rfl⟩
    case neg =>
      have d1 : decide ((n : Int) ≤ 57) = false := decide_eq_false (by omega)
      have e1 : ¬ (n : Int) ≤ 57 := by omega
      go_enter Tryd.func28, Tryd.ntmps28
      go_wp2_with fail
      go_ret
      exact ⟨ret_b (by rw [Bool.eq_iff_iff] <;> (try simp) <;> (try omega)), rfl⟩
  case neg =>
    have d0 : decide ((48 : Int) ≤ (n : Int)) = false := decide_eq_false (by omega)
    have e0 : ¬ (48 : Int) ≤ (n : Int) := by omega
    by_cases h1 : n ≤ 57
    case pos =>
      have d1 : decide ((n : Int) ≤ 57) = true := decide_eq_true (by omega)
      have e1 : (n : Int) ≤ 57 := by omega
      go_enter Tryd.func28, Tryd.ntmps28
      go_wp2_with fail
      go_ret
      exact ⟨ret_b (by rw [Bool.eq_iff_iff] <;> (try simp) <;> (try omega)), rfl⟩
    case neg =>
      have d1 : decide ((n : Int) ≤ 57) = false := decide_eq_false (by omega)
      have e1 : ¬ (n : Int) ≤ 57 := by omega
      go_enter Tryd.func28, Tryd.ntmps28
      go_wp2_with fail
      go_ret
      exact ⟨ret_b (by rw [Bool.eq_iff_iff] <;> (try simp) <;> (try omega)), rfl⟩
set_option maxHeartbeats 1000000 in
theorem rSpace_any (b : UInt8) (w : World) : Calls Tryd.prog 22 #[bv b] w (QBool (isSp b) w) := by
  unfold QBool isSp bv
  have hb := b.toNat_lt
  obtain ⟨n, hn⟩ : ∃ n, b.toNat = n := ⟨_, rfl⟩
  rw [hn]
  rw [hn] at hb
  clear hn
  by_cases h0 : n = 32
  case pos =>
    have d0 : decide ((n : Int) = 32) = true := decide_eq_true (by omega)
    have e0 : (n : Int) = 32 := by omega
    subst h0
    go_enter Tryd.func22, Tryd.ntmps22
    go_wp2_with fail
    go_ret
    exact ⟨ret_b (by rw [Bool.eq_iff_iff] <;> (try simp) <;> (try omega)), rfl⟩
  case neg =>
    have d0 : decide ((n : Int) = 32) = false := decide_eq_false (by omega)
    have e0 : ¬ (n : Int) = 32 := by omega
    have g0 : ((n : Int) == 32) = false := by rw [beq_eq_false_iff_ne]; omega
    by_cases h1 : n = 9
    case pos =>
      have d1 : decide ((n : Int) = 9) = true := decide_eq_true (by omega)
      have e1 : (n : Int) = 9 := by omega
      subst h1
      go_enter Tryd.func22, Tryd.ntmps22
      go_wp2_with fail
      go_ret
      exact ⟨ret_b (by rw [Bool.eq_iff_iff] <;> (try simp) <;> (try omega)), rfl⟩
    case neg =>
      have d1 : decide ((n : Int) = 9) = false := decide_eq_false (by omega)
      have e1 : ¬ (n : Int) = 9 := by omega
      have g1 : ((n : Int) == 9) = false := by rw [beq_eq_false_iff_ne]; omega
      by_cases h2 : n = 10
      case pos =>
        have d2 : decide ((n : Int) = 10) = true := decide_eq_true (by omega)
        have e2 : (n : Int) = 10 := by omega
        subst h2
        go_enter Tryd.func22, Tryd.ntmps22
        go_wp2_with fail
        go_ret
        exact ⟨ret_b (by rw [Bool.eq_iff_iff] <;> (try simp) <;> (try omega)), rfl⟩
      case neg =>
        have d2 : decide ((n : Int) = 10) = false := decide_eq_false (by omega)
        have e2 : ¬ (n : Int) = 10 := by omega
        have g2 : ((n : Int) == 10) = false := by rw [beq_eq_false_iff_ne]; omega
        by_cases h3 : n = 13
        case pos =>
          have d3 : decide ((n : Int) = 13) = true := decide_eq_true (by omega)
          have e3 : (n : Int) = 13 := by omega
          subst h3
          go_enter Tryd.func22, Tryd.ntmps22
          go_wp2_with fail
          go_ret
          exact ⟨ret_b (by rw [Bool.eq_iff_iff] <;> (try simp) <;> (try omega)), rfl⟩
        case neg =>
          have d3 : decide ((n : Int) = 13) = false := decide_eq_false (by omega)
          have e3 : ¬ (n : Int) = 13 := by omega
          have g3 : ((n : Int) == 13) = false := by rw [beq_eq_false_iff_ne]; omega
          go_enter Tryd.func22, Tryd.ntmps22
          go_wp2_with fail
          go_ret
          exact ⟨ret_b (by rw [Bool.eq_iff_iff] <;> (try simp) <;> (try omega)), rfl⟩

theorem rpart_any (b : UInt8) (w : World) : Calls Tryd.prog 27 #[bv b] w (QBool (isP b) w) := by
  have HL := Lib.hid (rLetter_any b w)
  have HF := Lib.hid (rFigure_any b w)
  unfold QBool at HL HF ⊢
  unfold isP
  unfold bv at HL HF ⊢
  obtain ⟨n, hn⟩ : ∃ n, b.toNat = n := ⟨_, rfl⟩
  rw [hn] at HL HF
  rw [hn]
  clear hn
  cases h1 : isL b with
  | true =>
    rw [h1] at HL
    clear h1 HF
    go_enter Tryd.func27, Tryd.ntmps27
    go_wp2_with fail
    refine HL.out.mono ?_
    rintro e w1 ⟨rfl, rfl⟩
    go_wp2_with fail
    go_ret
    exact ⟨ret_b (by simp), rfl⟩
  | false =>
    rw [h1] at HL
    cases h2 : isD b with
    | true =>
      rw [h2] at HF
      clear h1 h2
      go_enter Tryd.func27, Tryd.ntmps27
      go_wp2_with fail
      refine HL.out.mono ?_
      rintro e w1 ⟨rfl, rfl⟩
      go_wp2_with fail
      refine HF.out.mono ?_
      rintro e w1 ⟨rfl, rfl⟩
      go_wp2_with fail
      go_ret
      exact ⟨ret_b (by simp), rfl⟩
    | false =>
      rw [h2] at HF
      clear h1 h2
      go_enter Tryd.func27, Tryd.ntmps27
      go_wp2_with fail
      refine HL.out.mono ?_
      rintro e w1 ⟨rfl, rfl⟩
      go_wp2_with fail
      refine HF.out.mono ?_
      rintro e w1 ⟨rfl, rfl⟩
      go_wp2_with fail
      go_ret
      exact ⟨ret_b (by rw [Bool.eq_iff_iff] <;> (try simp) <;> (try omega)), rfl⟩
end Go.Proofs.YtojlibeecpmbnaaDoor
