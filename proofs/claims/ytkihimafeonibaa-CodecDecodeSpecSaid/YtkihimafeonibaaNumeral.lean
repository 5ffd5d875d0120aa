import Derived.Test.YtkihimafeonibaaBytes
namespace Go.Proofs.Ytkihimafeonibaa
open Go.RowKit
set_option linter.unusedVariables false

/-- Behind j digits ds the rest of u is r. -/
def Digs (u : Nat) (j : Nat) (ds : List UInt8) (r : Nat) : Prop := j ≤ 9 ∧ ds.length = j ∧ numF 9 u = ds ++ numF (9 - j) r ∧ r < 2 ^ (64 - 7 * j)
theorem Digs.start {u : Nat} (h : u < 18446744073709551616) : Digs u 0 [] u := ⟨by omega, rfl, rfl, by omega⟩
theorem Digs.next {u j r : Nat} {ds : List UInt8} (h : Digs u j ds r) (hr : 128 ≤ r) : Digs u (j + 1) (ds ++ [UInt8.ofNat (r % 128 + 128)]) (r / 128) := by
  obtain ⟨h1, h2, h3, h4⟩ := h
  have hj : j ≠ 9 := by
    rintro rfl
    simp at h4
    omega
  refine ⟨by omega, by simp [h2], ?_, ?_⟩
  · rw [h3, show 9 - j = (9 - (j + 1)) + 1 by omega, numF_big _ _ hr]
    simp
  · have e : 2 ^ (64 - 7 * j) = 128 * 2 ^ (64 - 7 * (j + 1)) := by
      rw [show 64 - 7 * j = 7 + (64 - 7 * (j + 1)) by omega, Nat.pow_add]
    rw [e] at h4
    exact Nat.div_lt_of_lt_mul h4
theorem Digs.last {u j r : Nat} {ds : List UInt8} (h : Digs u j ds r) (hr : r < 128) : num u = ds ++ [UInt8.ofNat r] := by
  obtain ⟨h1, h2, h3, h4⟩ := h
  unfold num
  rw [h3, numF_small _ _ hr]

set_option maxHeartbeats 400000 in
theorem Digs.lt {u j r : Nat} {ds : List UInt8} (h : Digs u j ds r) : (r : Int) ≤ 18446744073709551615 := by
  obtain ⟨h1, h2, h3, h4⟩ := h
  have : 2 ^ (64 - 7 * j) ≤ 2 ^ 64 := Nat.pow_le_pow_right (by omega) (by omega)
  omega

set_option maxRecDepth 100000 in
theorem numeral_any (u : Nat) (w : World) (hu : u < 18446744073709551616) :
    Calls Try.prog 52 #[.int .u64 u] w fun e w' => e = .returned (.string ⟨(num u).toArray⟩) ∧ Below w.heap.size w w' := by
  obtain ⟨i0, hi0, hz0, hz1, hz2⟩ := info_parts u8_info
  have hd0 := Digs.start hu
  clear hu
  go_enter Try.func52, Try.ntmps52
  go_wp2_with fail
  go_loopw [0, 3] (fun x v wr => ∃ (j r : Nat) (ds : List UInt8), x = .int .u64 r ∧ Digs u j ds r ∧ wr.ownsRow w.heap.size 5 1 v ds.length (ds.map bv) ∧ Below w.heap.size w wr) (fun x _ _ => (intOf x).toNat)
  case atStart => exact ⟨0, u, [], rfl, hd0, World.ownsRow_nil _ _ _ _, Below.refl _ _⟩
  case round =>
    clear hd0
    obtain ⟨j, r, ds, rfl, hd, hown, hb⟩ := hrel
    have hlen : ds.length ≤ 9 := by have := hd.1; have := hd.2.1; omega
    have hbz := hb.size
    have hr64 := hd.lt
    have hba := hb.alloc hbz (.cells #[.int .u8 ((r : Int) % 128 + 128)] 5)
    have hba' := hb.alloc hbz (.cells #[.int .u8 (r : Int)] 5)
    have hol := hown.lt
    by_cases hr : 128 ≤ r
    · have hd' := Lib.hid (hd.next hr)
      have hcl : bv (UInt8.ofNat (r % 128 + 128)) = .int .u8 ((r : Int) % 128 + 128) := by rw [bv_of _ (by omega)]; first | rfl | (congr 1; omega)
      have HCL := Lib.hid hcl
      clear hcl hd
      go_wp2_with (at_builtin; refine wpList_append_own _ rfl (.tmp 6) (.tmp 11) 27 rfl w.heap.size 5 i0 (.int .u8 0) 1 1 Try.underlying27 hi0 hz0 hz1 hz2 rfl (by decide) _ ds.length (ds.map bv) rfl (hown.alloc _) ⟨wr.heap.size, 0, none⟩ 1 1 [.int .u8 ((r : Int) % 128 + 128)] rfl rfl (cell_one_new _ _ _) (one_int _ _) (le_maxLen (by omega)) (by omega) (by simp; omega) ?_; intro v1 w1 hown1 hg1 _)
      go_roundw
      case rel => exact ⟨j + 1, r / 128, ds ++ [UInt8.ofNat (r % 128 + 128)], by go_num, hd'.out, by rw [List.map_append, List.map_singleton, HCL.out, List.length_append]; exact hown1, hba.grown hg1 (by simp; omega) (fun k hk => (hol k hk).1)⟩
      case measure => simp [intOf]; omega
    · have hl := hd.last (by omega)
      have hcl : bv (UInt8.ofNat r) = .int .u8 (r : Int) := bv_of _ (by omega)
      have hcv : ∀ (v1 : Value) (w1 : World), w1.ownsRow w.heap.size 5 1 v1 (ds.length + 1) (ds.map bv ++ [.int .u8 (r : Int)]) → (convert 27 9 v1).run Try.prog w1 = .ok (.string ⟨(num u).toArray⟩) w1 := by
        intro v1 w1 h
        refine run_str_own (base := w.heap.size) (n := ds.length + 1) ?_
        rw [hl, List.map_append, List.map_singleton, hcl]
        exact h
      have HCV := Lib.hid hcv
      clear hcv hcl hl hd
      go_wp2_with (at_builtin; refine wpList_append_own _ rfl (.tmp 15) (.tmp 18) 27 rfl w.heap.size 5 i0 (.int .u8 0) 1 1 Try.underlying27 hi0 hz0 hz1 hz2 rfl (by decide) _ ds.length (ds.map bv) rfl (hown.alloc _) ⟨wr.heap.size, 0, none⟩ 1 1 [.int .u8 (r : Int)] rfl rfl (cell_one_new _ _ _) (one_int _ _) (le_maxLen (by omega)) (by omega) (by simp; omega) ?_; intro v1 w1 hown1 hg1 _; have hcv1 := HCV.out v1 w1 hown1)
      go_ret
      exact ⟨rfl, hba'.grown hg1 (by simp; omega) (fun k hk => (hol k hk).1)⟩
end Go.Proofs.Ytkihimafeonibaa
