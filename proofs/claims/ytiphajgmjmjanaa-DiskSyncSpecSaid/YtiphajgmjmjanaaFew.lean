/- The reference's Few; the law's double. -/
import Derived.Test.YtiphajgmjmjanaaCk
import Derived.Test.YtiphajgmjmjanaaDr
import Derived.Test.YtiphajgmjmjanaaSec
import Derived.Test.YtiphajgmjmjanaaPlT
namespace Go.Proofs.Ytiphajgmjmjanaa
open Go.RowKit
set_option linter.unusedVariables false

def FewPost (w : World) (e : Ending) (w' : World) : Prop := ∃ r : Bool, e = .returned (.bool r) ∧ Below w.heap.size w w'

set_option maxHeartbeats 2000000 in
set_option maxRecDepth 100000 in
theorem few_any (d : Dk) (A B : Option Addr) (c k0 : Nat) (w : World) (hS : DkIn w d A c B k0) :
    Calls Try.prog 11 #[dkv d A c B k0] w (FewPost w) := by
  have hb0 := (Below.refl w.heap.size w).alloc (Nat.le_refl _) (.cells (dkc d A c B k0) 25)
  have HB := Lib.hid (show DBox (w.alloc (.cells (dkc d A c B k0) 25)) w.heap.size d A c B k0 from Box.new w _ _)
  have HS := Lib.hid (And.intro (hS.up hb0) hb0)
  have hm1 := Nat.le_trans hS.1.2.1 hS.1.2.2.1
  have hm2 := Nat.le_trans hS.2.2.1 hS.2.2.2.1
  unfold maxLen at hm1 hm2
  unfold dkv dkc at *
  clear hS hb0
  obtain ⟨N, hN⟩ : ∃ N, d.secs.length = N := ⟨_, rfl⟩
  obtain ⟨M, hM⟩ : ∃ M, d.pend.length = M := ⟨_, rfl⟩
  have HN := Lib.hid (And.intro hN hM)
  rw [hN] at hm1
  rw [hM] at hm2
  rw [hN, hM] at HB HS ⊢
  clear hN hM
  go_enter Try.func11, Try.ntmps11
  go_wp2_with fail
  obtain ⟨b0, b1, b2, b3⟩ := HB.out.cells
  rw [HN.out.1] at b0
  rw [HN.out.2] at b1
  generalize w.alloc _ = W at *
  go_loop [3, 4] (fun n i => ∃ (v : Int) (k : Nat), n = .int .i64 v ∧ i = .int .i64 k ∧ k ≤ N) (fun _ i => N - (intOf i).toNat)
  case atStart => exact ⟨0, 0, rfl, rfl, Nat.zero_le _⟩
  case round =>
    obtain ⟨v, k, rfl, rfl, hk⟩ := hrel
    by_cases hlt : k < N ∧ v ≤ 9000
    · obtain ⟨hlt, hv⟩ := hlt
      obtain ⟨b, off, rfl, hb, hat⟩ := HS.out.1.1.1 (by have := HN.out.1; omega)
      obtain ⟨A1, c1, h1, _⟩ := hat k _ (List.getElem?_eq_getElem (by have := HN.out.1; omega))
      generalize List.length _ = ln at h1
      go_wp2_with fail
      go_round
      case rel => exact ⟨_, k + 1, rfl, by go_num, by omega⟩
      case measure => simp [intOf]; omega
    · by_cases hkN : k < N
      · have hv : ¬ v ≤ 9000 := fun h => hlt ⟨hkN, h⟩
        have hvd : decide (v ≤ 9000) = false := decide_eq_false hv
        go_wp2_with fail
        go_loop [3, 5] (fun n i => ∃ (v : Int) (k : Nat), n = .int .i64 v ∧ i = .int .i64 k ∧ k ≤ M) (fun _ i => M - (intOf i).toNat)
        case atStart => exact ⟨_, 0, rfl, rfl, Nat.zero_le _⟩
        case round =>
          obtain ⟨v2, k2, rfl, rfl, hk2⟩ := hrel
          by_cases hlt2 : k2 < M
          · obtain ⟨b, off, rfl, hb, hat⟩ := HS.out.1.2.1 (by have := HN.out.2; omega)
            obtain ⟨A1, c1, h1, h2, _⟩ := hat k2 _ (List.getElem?_eq_getElem (by have := HN.out.2; omega))
            generalize List.length _ = ln at h2
            generalize Prod.fst _ = at1 at h1
            by_cases hv2 : v2 ≤ 9000
            · go_wp2_with fail
              go_round
              case rel => exact ⟨_, k2 + 1, rfl, by go_num, by omega⟩
              case measure => simp [intOf]; omega
            · have hv3 : decide (v2 ≤ 9000) = false := decide_eq_false hv2
              go_wp2_with fail
              go_ret
              exact ⟨_, rfl, HS.out.2⟩
          · obtain rfl : k2 = M := by omega
            go_wp2_with fail
            go_ret
            exact ⟨_, rfl, HS.out.2⟩
      · obtain rfl : k = N := by omega
        clear hlt
        go_wp2_with fail
        go_loop [3, 5] (fun n i => ∃ (v : Int) (k : Nat), n = .int .i64 v ∧ i = .int .i64 k ∧ k ≤ M) (fun _ i => M - (intOf i).toNat)
        case atStart => exact ⟨_, 0, rfl, rfl, Nat.zero_le _⟩
        case round =>
          obtain ⟨v2, k2, rfl, rfl, hk2⟩ := hrel
          by_cases hlt2 : k2 < M
          · obtain ⟨b, off, rfl, hb, hat⟩ := HS.out.1.2.1 (by have := HN.out.2; omega)
            obtain ⟨A1, c1, h1, h2, _⟩ := hat k2 _ (List.getElem?_eq_getElem (by have := HN.out.2; omega))
            generalize List.length _ = ln at h2
            generalize Prod.fst _ = at1 at h1
            by_cases hv2 : v2 ≤ 9000
            · go_wp2_with fail
              go_round
              case rel => exact ⟨_, k2 + 1, rfl, by go_num, by omega⟩
              case measure => simp [intOf]; omega
            · have hv3 : decide (v2 ≤ 9000) = false := decide_eq_false hv2
              go_wp2_with fail
              go_ret
              exact ⟨_, rfl, HS.out.2⟩
          · obtain rfl : k2 = M := by omega
            go_wp2_with fail
            go_ret
            exact ⟨_, rfl, HS.out.2⟩

set_option maxHeartbeats 2000000 in
set_option maxRecDepth 100000 in
theorem double_any (x : UInt8) (w : World) : Calls Try.prog 27 #[bv x] w (SecPost (dbl x x) w) := by
  have hz : Box (w.alloc (.cells (zrow 128) 5)) w.heap.size (zrow 128) 5 := Box.new w _ _
  have hbz := (Below.refl w.heap.size w).alloc (Nat.le_refl _) (.cells (zrow 128) 5)
  have c0 : (w.alloc (.cells (zrow 128) 5)).cell? ⟨w.heap.size, 0, none⟩ = some (.int .u8 0) := hz.cell 0
  have c64 : (w.alloc (.cells (zrow 128) 5)).cell? ⟨w.heap.size, 64, none⟩ = some (.int .u8 0) := hz.cell 64
  have f0 := hz.frozen 0
  have f64 := hz.frozen 64
  have HZ := Lib.hid (And.intro hz hbz)
  clear hz hbz
  have hmk : ∀ w : World, (Instr.makeSlice 35 (.int .i64 128) (.int .i64 128)).run Try.prog w = .ok (.slice (some ⟨w.heap.size, 0, none⟩) 128 128) (w.alloc (.cells (zrow 128) 5)) := fun w => make_any 128 w (by omega)
  unfold bv SecPost
  go_enter Try.func27, Try.ntmps27
  go_wp2_with fail
  go_ret
  have e : ((zrow 128).setIfInBounds 0 (bv x)).setIfInBounds 64 (bv x) = rowOf (dbl x x) := rfl
  exact ⟨rfl, by rw [← e]; exact Box.new w _ _, (Below.refl _ w).alloc (Nat.le_refl _) _⟩
end Go.Proofs.Ytiphajgmjmjanaa
