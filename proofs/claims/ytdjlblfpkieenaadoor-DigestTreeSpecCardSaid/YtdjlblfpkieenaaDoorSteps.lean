/- The statements' own steps. -/
import Derived.Test.YtdjlblfpkieenaaDoorClimb3
namespace Go.Proofs.YtdjlblfpkieenaaDoor
open Go.RowKit Go.Sort
set_option linter.unusedVariables false

theorem half_pow (j n : Nat) (h1 : 2 ^ j < n) (h2 : n ≤ 2 ^ (j + 1)) : half n = 2 ^ j := by
  unfold half
  congr 1
  exact (Nat.log2_eq_iff (by omega)).2 ⟨by omega, by omega⟩

set_option maxHeartbeats 1000000 in
set_option maxRecDepth 100000 in
theorem steps_any (i n : Nat) (w : World) (hi : i < n) (hn : n ≤ 2199023255552) :
    Calls Tryd.prog 24 #[.int .i64 i, .int .i64 n] w fun e w' => e = .returned (.int .i64 (pl i n)) ∧ w = w' := by
  go_enter Tryd.func24, Tryd.ntmps24
  go_wp2_with fail
  go_loop [0, 1, 5] (fun vi vn vl => ∃ a m l : Nat, vi = .int .i64 a ∧ vn = .int .i64 m ∧ vl = .int .i64 l ∧ a < m ∧ m + l ≤ n ∧ l + pl a m = pl i n) (fun _ vn _ => (intOf vn).toNat)
  case atStart => exact ⟨i, n, 0, rfl, rfl, rfl, hi, by omega, by omega⟩
  case round =>
    obtain ⟨a, m, l, rfl, rfl, rfl, ha, hm, hl⟩ := hrel
    by_cases h1 : 1 < m
    · have hL := Lib.hid (pl_left a m h1)
      have hR := Lib.hid (pl_right a m h1)
      have HLM := Lib.hid hl
      clear hl
      go_wp2_with fail
      go_loop [6] (fun v => ∃ j k : Nat, k = 2 ^ j ∧ v = .int .i64 k ∧ k < m) (fun v => m - (intOf v).toNat)
      case atStart => exact ⟨0, 1, rfl, rfl, by omega⟩
      case round =>
        obtain ⟨j, k, hk, rfl, hkm⟩ := hrel
        have hk0 : 0 < k := by rw [hk]; exact Nat.pow_pos (by omega)
        have HKJ := Lib.hid hk
        clear hk
        by_cases h2k : 2 * k < m
        · go_wp2_with fail
          go_round
          case rel => exact ⟨j + 1, k * 2, by rw [HKJ.out, Nat.pow_succ], by go_num, by omega⟩
          case measure => simp [intOf]; omega
        · have hkh : half m = k := by rw [half_pow j m (by rw [← HKJ.out]; omega) (by rw [Nat.pow_succ, ← HKJ.out]; omega), HKJ.out]
          rw [hkh] at hL hR
          by_cases hak : a < k
          · have hp := hL.out hak
            have hl := HLM.out
            clear hL hR
            go_wp2_with fail
            go_round
            case rel => exact ⟨a, k, l + 1, rfl, rfl, by go_num, hak, by omega, by omega⟩
            case measure => simp [intOf]; omega
          · have hp := hR.out hak
            have hl := HLM.out
            clear hL hR
            go_wp2_with fail
            go_round
            case rel => exact ⟨a - k, m - k, l + 1, by go_num, by go_num, by go_num, by omega, by omega, by omega⟩
            case measure => simp [intOf]; omega
    · have hp := pl_end a m (by omega)
      go_wp2_with fail
      go_ret
      refine ⟨?_, rfl⟩
      have : l = pl i n := by omega
      rw [this]
      rfl
theorem pth_len32 (m : Nat) : ∀ (ds : List (List UInt8)) (i : Nat), ds.length ≤ m → ∀ d, d ∈ pth ds i → d.length = 32 := by
  induction m with
  | zero =>
    intro ds i h d hd
    rw [pth_end ds i (by omega)] at hd
    simp at hd
  | succ m ih =>
    intro ds i h d hd
    by_cases h1 : ds.length ≤ 1
    · rw [pth_end ds i h1] at hd
      simp at hd
    · have h2 := half_le ds.length (by omega)
      have h3 := half_pos ds.length
      by_cases hi : i < half ds.length
      · rw [pth_left ds i (by omega) hi] at hd
        rcases List.mem_append.1 hd with hd | hd
        · exact ih _ _ (by rw [List.length_take]; omega) d hd
        · simp at hd; subst hd; exact tr_length _
      · rw [pth_right ds i (by omega) hi] at hd
        rcases List.mem_append.1 hd with hd | hd
        · exact ih _ _ (by rw [List.length_drop]; omega) d hd
        · simp at hd; subst hd; exact tr_length _

end Go.Proofs.YtdjlblfpkieenaaDoor
