/- Path, pathLength, Climb: the cases that the statements' first check asks for. -/
import Derived.Test.YtdjlblfpkieenaaDoorTree3
namespace Go.Proofs.YtdjlblfpkieenaaDoor
open Go.RowKit Go.Sort
set_option linter.unusedVariables false

/-- The steps of an index from the root, with room for f of them. -/
def plF : Nat → Nat → Nat → Nat
  | 0, _, _ => 0
  | f + 1, i, n => if n ≤ 1 then 0 else if i < half n then plF f i (half n) + 1 else plF f (i - half n) (n - half n) + 1
def pl (i n : Nat) : Nat := plF n i n
theorem plF_more (f : Nat) : ∀ (g i n : Nat), n ≤ f → f ≤ g → plF g i n = plF f i n := by
  induction f with
  | zero =>
    intro g i n h hg
    cases g with
    | zero => rfl
    | succ g => unfold plF; rw [if_pos (by omega)]
  | succ f ih =>
    intro g i n h hg
    obtain ⟨g, rfl⟩ : ∃ k, g = k + 1 := ⟨g - 1, by omega⟩
    simp only [plF]
    split
    · rfl
    · have h1 := half_le n (by omega)
      have h2 := half_pos n
      rw [ih g _ _ (by omega) (by omega), ih g _ _ (by omega) (by omega)]
theorem pl_end (i n : Nat) (h : n ≤ 1) : pl i n = 0 := by
  unfold pl
  match n, h with
  | 0, _ => rfl
  | 1, _ => rfl
theorem pl_left (i n : Nat) (h : 1 < n) (hi : i < half n) : pl i n = pl i (half n) + 1 := by
  have h1 := half_le n h
  unfold pl
  obtain ⟨m, rfl⟩ : ∃ m, n = m + 1 := ⟨n - 1, by omega⟩
  conv => lhs; unfold plF
  rw [if_neg (by omega), if_pos hi, plF_more (half (m + 1)) m _ _ (by omega) (by omega)]
theorem pl_right (i n : Nat) (h : 1 < n) (hi : ¬ i < half n) : pl i n = pl (i - half n) (n - half n) + 1 := by
  have h1 := half_le n h
  have h2 := half_pos n
  unfold pl
  obtain ⟨m, rfl⟩ : ∃ m, n = m + 1 := ⟨n - 1, by omega⟩
  conv => lhs; unfold plF
  rw [if_neg (by omega), if_neg hi, plF_more (m + 1 - half (m + 1)) m _ _ (by omega) (by omega)]
theorem pl_lt (i n : Nat) (h : 0 < n) : pl i n < n := by
  induction n using Nat.strongRecOn generalizing i with
  | ind n ih =>
    by_cases h1 : n ≤ 1
    · rw [pl_end i n h1]; exact h
    · have h2 := half_le n (by omega)
      have h3 := half_pos n
      by_cases hi : i < half n
      · rw [pl_left i n (by omega) hi]
        have := ih (half n) (by omega) i h3
        omega
      · rw [pl_right i n (by omega) hi]
        have := ih (n - half n) (by omega) (i - half n) (by omega)
        omega

set_option maxHeartbeats 400000 in
set_option maxRecDepth 100000 in
theorem path_nil (w : World) :
    Calls Tryd.prog 19 #[.slice none 0 0, .int .i64 0] w fun e w' => e = .returned (.tuple #[.slice none 0 0, .int .i64 1]) ∧ w = w' := by
  go_enter Tryd.func19, Tryd.ntmps19
  go_wp2_with fail
  go_ret2
  exact ⟨rfl, rfl⟩

theorem results_row_tmp {P : Program} {fn : Func} {p u : Tmp} {ty : TypeId} (h : fn.results = #[.cell p ty, .tmp u]) (tmps : Array Value) (w : World) (g : Nat) (t : TypeId) (cs : Array Value) (fr : Nat × Nat) (d : TypeDesc)
    (hp : tmps.getD p undef = .pointer (some ⟨g, 0, none⟩)) (hg : w.heap[g]? = some (.cells cs t fr))
    (hu : P.underlying ty = some d) (hd : (match d with | .struct _ | .array _ _ => true | _ => false) = true) (hi : (P.info? ty).map (·.size) = some cs.size) :
    (results fn tmps).run P w = .ok (.tuple #[.agg cs, tmps.getD u undef]) w := by
  have hp' : tmps[p]?.getD undef = .pointer (some ⟨g, 0, none⟩) := by simpa using hp
  simp [results, h, hp', asAddr, run_loadVar_row w g t ty cs fr d hg hu hd hi]

theorem half_2 : half 2 = 1 := by have h1 := half_le 2 (by omega); have h2 := half_pos 2; omega
theorem pl_02 : pl 0 2 = 1 := by rw [pl_left 0 2 (by omega) (by rw [half_2]; omega), half_2, pl_end 0 1 (by omega)]

set_option maxHeartbeats 1000000 in
set_option maxRecDepth 100000 in
theorem pathLength_any (i n : Nat) (w : World) (hi : i < n) (hn : n ≤ 2199023255552) :
    Calls Tryd.prog 41 #[.int .i64 i, .int .i64 n] w fun e w' => e = .returned (.int .i64 (pl i n)) ∧ w = w' := by
  have HS := Lib.hid (fun n w h1 hn => split_any n w h1 hn)
  go_enter Tryd.func41, Tryd.ntmps41
  go_wp2_with fail
  go_loop [0, 1, 4] (fun vi vn vl => ∃ a m l : Nat, vi = .int .i64 a ∧ vn = .int .i64 m ∧ vl = .int .i64 l ∧ a < m ∧ m + l ≤ n ∧ l + pl a m = pl i n) (fun _ vn _ => (intOf vn).toNat)
  case atStart => exact ⟨i, n, 0, rfl, rfl, rfl, hi, by omega, by omega⟩
  case round =>
    obtain ⟨a, m, l, rfl, rfl, rfl, ha, hm, hl⟩ := hrel
    by_cases h1 : 1 < m
    · have h2 := half_le m h1
      have h3 := half_pos m
      have HC := HS.out m w h1 (by omega)
      have hL := pl_left a m h1
      have hR := pl_right a m h1
      generalize half m = k at *
      by_cases hak : a < k
      · have hp := hL hak
        clear hL hR HS
        go_wp2_with fail
        refine HC.mono ?_
        rintro e w1 ⟨rfl, rfl⟩
        go_wp2_with fail
        go_round
        case rel => exact ⟨a, k, l + 1, rfl, rfl, by go_num, hak, by omega, by omega⟩
        case measure => simp [intOf]; omega
      · have hp := hR hak
        clear hL hR HS
        go_wp2_with fail
        refine HC.mono ?_
        rintro e w1 ⟨rfl, rfl⟩
        go_wp2_with fail
        go_round
        case rel => exact ⟨a - k, m - k, l + 1, by go_num, by go_num, by go_num, by omega, by omega, by omega⟩
        case measure => simp [intOf]; omega
    · have hp := pl_end a m (by omega)
      go_wp2_with fail
      go_ret
      refine ⟨?_, rfl⟩
      have : l = pl i n := by omega
      rw [this]
      rfl

end Go.Proofs.YtdjlblfpkieenaaDoor
