/- The last blocks of padded bytes. -/
import Derived.Test.YtdjlblfpkieenaaDoorDig
import Derived.Laws.MakeOwn
import Derived.Laws.CopyOwn
namespace Go.Proofs.YtdjlblfpkieenaaDoor
open Go.RowKit
set_option linter.unusedVariables false

/-- The bytes behind the last whole block, padded to a length. -/
def last (size : Nat) (tail : List UInt8) (n : Nat) : List UInt8 := tail ++ 128 :: (List.replicate (size - tail.length - 9) 0 ++ be (8 * n % 18446744073709551616) 8)

/-- The cells of n bytes. -/
def rowOf (l : List UInt8) : Array Value := (l.map bv).toArray
theorem made_u8 (n : Nat) : madeCells (Value.int .u8 0).cells n = rowOf (List.replicate n 0) := by
  unfold madeCells rowOf
  apply Array.ext_getElem?
  intro i
  by_cases h : i < n
  · simp [h, Value.cells, bv, Nat.mod_one]
  · simp [h]
/-- n bytes 0. -/
def zrow (n : Nat) : Array Value := rowOf (List.replicate n 0)
theorem make_any (n : Nat) (w : World) (hn : n ≤ 1000000) : (Instr.makeSlice 22 (.int .i64 n) (.int .i64 n)).run Tryd.prog w = .ok (.slice (some ⟨w.heap.size, 0, none⟩) n n) (w.alloc (.cells (zrow n) 5)) := by
  obtain ⟨i0, hi0, hz0, hz1, hz2⟩ := info_parts u8_info
  have := run_make w 22 5 i0 (.int .u8 0) Tryd.underlying22 hi0 hz0 .i64 .i64 (n : Int) (n : Int) (by omega) (by omega) (by rw [hz2]; omega) (by omega)
  rw [hz1, Int.toNat_natCast, Nat.mul_one, made_u8] at this
  exact this

theorem size1 : (Tryd.prog.info? 5).map (·.size) = some 1 := by kernel_rfl
theorem be_length (n k : Nat) : (be n k).length = k := by
  induction k with
  | zero => rfl
  | succ k ih => simp [be, ih]
theorem be_drop (n k j : Nat) (h : j < k) : (be n k).drop (k - (j + 1)) = UInt8.ofNat (n / 256 ^ j % 256) :: (be n k).drop (k - j) := by
  induction k with
  | zero => omega
  | succ k ih =>
    by_cases e : j = k
    · subst e
      rw [Nat.sub_self, show j + 1 - j = 1 by omega]
      rfl
    · have := ih (by omega)
      rw [show k + 1 - (j + 1) = (k - (j + 1)) + 1 by omega, show k + 1 - j = (k - j) + 1 by omega]
      exact this
/-- What has been written when k bytes of the length stand at the end. -/
def stage (S : Nat) (l : List UInt8) (N k : Nat) : List UInt8 := l ++ 128 :: (List.replicate (S - l.length - 1 - k) 0 ++ (be N 8).drop (8 - k))
theorem stage_length (S : Nat) (l : List UInt8) (N k : Nat) (h : l.length + 9 ≤ S) (hk : k ≤ 8) : (stage S l N k).length = S := by
  simp [stage, be_length]
  omega
theorem row_step {wr : World} {g : Nat} {X Y : List UInt8} {a x : UInt8} {t : TypeId} (h : Box wr g (rowOf (X ++ a :: Y)) t) : Box (wr.setCell ⟨g, X.length, none⟩ (bv x)) g (rowOf (X ++ x :: Y)) t := by
  have := h.set (i := X.length) (v := bv x)
  have e : (rowOf (X ++ a :: Y)).setIfInBounds X.length (bv x) = rowOf (X ++ x :: Y) := by
    unfold rowOf
    rw [List.setIfInBounds_toArray, List.map_append, List.map_append, List.map_cons, List.map_cons]
    congr 1
    rw [List.set_append_right _ _ (by simp)]
    simp
  rwa [e] at this
theorem row_get (X Y : List UInt8) (a : UInt8) : (rowOf (X ++ a :: Y))[X.length]? = some (bv a) := by
  unfold rowOf
  simp
theorem stage_split (S : Nat) (l : List UInt8) (N k : Nat) (h : l.length + 9 ≤ S) (hk : k < 8) :
    ∃ X Y, X.length = S - 1 - k ∧ stage S l N k = X ++ 0 :: Y ∧ stage S l N (k + 1) = X ++ UInt8.ofNat (N / 256 ^ k % 256) :: Y := by
  refine ⟨l ++ 128 :: List.replicate (S - l.length - 1 - (k + 1)) 0, (be N 8).drop (8 - k), by simp; omega, ?_, ?_⟩
  · unfold stage
    rw [show S - l.length - 1 - k = (S - l.length - 1 - (k + 1)) + 1 by omega, List.replicate_succ']
    simp
  · unfold stage
    rw [be_drop N 8 k hk]
    simp
theorem byte_nat (N k : Nat) : Value.int .u8 ((N : Int) / 2 ^ (8 * k) % 256) = bv (UInt8.ofNat (N / 256 ^ k % 256)) := by
  rw [bv_of _ (by omega), show (256 : Nat) = 2 ^ 8 from rfl, ← Nat.pow_mul]
  congr 1

set_option maxHeartbeats 1000000 in
set_option maxRecDepth 100000 in
theorem last64_any (A : Option Addr) (c n : Nat) (l : List UInt8) (w : World) (hB : Bs w.heap.size w A l) (hl : l.length ≤ 55) (h1 : l.length ≤ c) (h2 : c ≤ maxLen) :
    Calls Tryd.prog 29 #[.slice A l.length c, .int .u64 n] w fun e w' => e = .returned (.slice (some ⟨w.heap.size, 0, none⟩) 64 64) ∧ Box w' w.heap.size (rowOf (last 64 l n)) 5 ∧ Below w.heap.size w w' := by
  have hz : Box (w.alloc (.cells (zrow 64) 5)) w.heap.size ((List.replicate 64 0).map bv).toArray 5 := Box.new w _ _
  have hbz := (Below.refl w.heap.size w).alloc (Nat.le_refl _) (.cells (zrow 64) 5)
  have hBz := hB.below (Nat.le_refl _) hbz
  have hpos : 0 < (l.map bv).length → (some ⟨w.heap.size, 0, none⟩ : Option Addr) = some ⟨w.heap.size, 0, none⟩ ∧ ∃ ad, A = some ad ∧ ∀ j v, (l.map bv)[j]? = some v → (w.alloc (.cells (zrow 64) 5)).cell? (ad.add j) = some v := by
    intro hp
    obtain ⟨b, off, rfl, _, hc⟩ := hBz (by simpa using hp)
    refine ⟨rfl, _, rfl, fun j v hv => ?_⟩
    rw [List.getElem?_map] at hv
    cases hu : l[j]? with
    | none => rw [hu] at hv; cases hv
    | some y =>
      rw [hu] at hv
      injection hv with hv
      rw [add_off, ← hv]
      exact hc j y hu
  have hn : (l.map bv).length = Nat.min l.length 64 := by rw [List.length_map, show Nat.min l.length 64 = l.length from Nat.min_eq_left (by omega)]
  have hfit : 0 + (l.map bv).length ≤ ((List.replicate 64 (0 : UInt8)).map bv).length := by simp; omega
  have hsp : splice ((List.replicate 64 (0 : UInt8)).map bv) 0 (l.map bv) = (l ++ 0 :: List.replicate (64 - l.length - 1) 0).map bv := by
    unfold splice
    rw [List.take_zero, List.nil_append, Nat.zero_add, List.length_map, ← List.map_drop, List.drop_replicate, ← List.map_append, show 64 - l.length = (64 - l.length - 1) + 1 by omega, List.replicate_succ]
    rfl
  have hst0 : stage 64 l (8 * n % 18446744073709551616) 0 = l ++ 128 :: List.replicate (64 - l.length - 1) 0 := by
    unfold stage
    rw [Nat.sub_zero, Nat.sub_zero, List.drop_of_length_le (by rw [be_length]; omega), List.append_nil]
  have hst8 : stage 64 l (8 * n % 18446744073709551616) 8 = last 64 l n := by
    unfold stage last
    rw [Nat.sub_self, List.drop_zero, show 64 - l.length - 1 - 8 = 64 - l.length - 9 by omega]
  have hspl := stage_split 64 l (8 * n % 18446744073709551616)
  have hfa : ∀ w1 : World, Hid (w1.heap[w.heap.size]? = some (.cells (splice ((List.replicate 64 (0 : UInt8)).map bv) 0 (l.map bv)).toArray 5 (0, 0))) →
      w1.cell? ⟨w.heap.size, l.length, none⟩ = some (.int .u8 0) ∧ w1.frozen? ⟨w.heap.size, l.length, none⟩ = false ∧ Box (w1.setCell ⟨w.heap.size, l.length, none⟩ (.int .u8 128)) w.heap.size (rowOf (stage 64 l (8 * n % 18446744073709551616) 0)) 5 := by
    intro w1 h1
    have hb : Box w1 w.heap.size (rowOf (l ++ 0 :: List.replicate (64 - l.length - 1) 0)) 5 := by
      have := h1.out
      rw [hsp] at this
      exact this
    exact ⟨(hb.cell _).trans (row_get _ _ _), hb.frozen _, by rw [hst0]; exact row_step (x := 128) hb⟩
  have HFA := Lib.hid hfa
  have HPOS := Lib.hid hpos
  have HNN := Lib.hid hn
  have HFIT := Lib.hid hfit
  have HST8 := Lib.hid hst8
  have HSPL := Lib.hid hspl
  have HZ := Lib.hid (And.intro hz hbz)
  generalize hN : 8 * n % 18446744073709551616 = N at *
  have HN := Lib.hid hN
  clear hz hbz hBz hpos hn hfit hsp hB hst0 hst8 hspl hN hfa
  have hmk : ∀ w : World, (Instr.makeSlice 22 (.int .i64 64) (.int .i64 64)).run Tryd.prog w = .ok (.slice (some ⟨w.heap.size, 0, none⟩) 64 64) (w.alloc (.cells (zrow 64) 5)) := fun w => make_any 64 w (by omega)
  generalize hm : l.length = m at *
  have HM := Lib.hid hm
  clear hm
  go_enter Tryd.func29, Tryd.ntmps29
  go_wp2_with (first
    | (refine wpList_copy_splice rfl (.tmp 15) (.tmp 16) 22 22 rfl 5 Tryd.underlying22 size1 (some ⟨w.heap.size, 0, none⟩) A 64 64 m c rfl rfl w.heap.size 0 _ 5 HZ.out.1 (l.map bv) HNN.out HPOS.out HFIT.out (bv_one l) w.heap.size w HZ.out.2 (Nat.le_refl _) ?_; intro w1 hw1 hb1; clear hmk; obtain ⟨hc1, hf1, hx1⟩ := HFA.out w1 hw1; have HX1 := Lib.hid hx1; clear hx1 hw1))
  go_loopw [22] (fun i wr => ∃ k : Nat, k ≤ 8 ∧ i = .int .i64 k ∧ Box wr w.heap.size (rowOf (stage 64 l N k)) 5 ∧ Below w.heap.size w wr) (fun i _ => 8 - (intOf i).toNat)
  case atStart => exact ⟨0, by omega, rfl, HX1.out, hb1.setCell (Nat.le_refl _) _⟩
  case round =>
    clear HX1 hb1 hc1 hf1 HZ HPOS HNN HFIT HFA
    obtain ⟨k, hk, rfl, hb, hbw⟩ := hrel
    have HB := Lib.hid hb
    by_cases hlt : k < 8
    · obtain ⟨X, Y, hX, e1, e2⟩ := HSPL.out k (by omega) hlt
      have hcell : wr.cell? ⟨w.heap.size, 63 - k, none⟩ = some (.int .u8 0) := by
        rw [hb.cell _, e1, show 63 - k = X.length by omega]
        exact row_get X Y 0
      have hfz : wr.frozen? ⟨w.heap.size, 63 - k, none⟩ = false := hb.frozen _
      have hnx : Box (wr.setCell ⟨w.heap.size, 63 - k, none⟩ (bv (UInt8.ofNat (N / 256 ^ k % 256)))) w.heap.size (rowOf (stage 64 l N (k + 1))) 5 := by
        rw [e2, show 63 - k = X.length by omega]
        rw [e1] at hb
        exact row_step hb
      have HNX := Lib.hid hnx
      clear hnx e1 e2 hX hb HB HSPL
      go_wp2_with fail
      go_roundw
      case rel =>
        refine ⟨k + 1, by omega, by go_num, ?_, hbw.setCell (Nat.le_refl _) _⟩
        have hwr : IntKind.u64.wrap (8 * (n : Int)) = (N : Int) := by
          have := HN.out
          rw [IntKind.wrap_u64]
          omega
        rw [hwr, byte_nat]
        exact HNX.out
      case measure => simp [intOf]; omega
    · obtain rfl : k = 8 := by omega
      clear hb
      go_wp2_with fail
      go_ret
      exact ⟨rfl, by rw [← HST8.out]; exact HB.out, hbw⟩
set_option maxHeartbeats 1000000 in
set_option maxRecDepth 100000 in
theorem last128_any (A : Option Addr) (c n : Nat) (l : List UInt8) (w : World) (hB : Bs w.heap.size w A l) (hl : l.length ≤ 63) (hl0 : 56 ≤ l.length) (h1 : l.length ≤ c) (h2 : c ≤ maxLen) :
    Calls Tryd.prog 29 #[.slice A l.length c, .int .u64 n] w fun e w' => e = .returned (.slice (some ⟨w.heap.size, 0, none⟩) 128 128) ∧ Box w' w.heap.size (rowOf (last 128 l n)) 5 ∧ Below w.heap.size w w' := by
  have hz : Box (w.alloc (.cells (zrow 128) 5)) w.heap.size ((List.replicate 128 0).map bv).toArray 5 := Box.new w _ _
  have hbz := (Below.refl w.heap.size w).alloc (Nat.le_refl _) (.cells (zrow 128) 5)
  have hBz := hB.below (Nat.le_refl _) hbz
  have hpos : 0 < (l.map bv).length → (some ⟨w.heap.size, 0, none⟩ : Option Addr) = some ⟨w.heap.size, 0, none⟩ ∧ ∃ ad, A = some ad ∧ ∀ j v, (l.map bv)[j]? = some v → (w.alloc (.cells (zrow 128) 5)).cell? (ad.add j) = some v := by
    intro hp
    obtain ⟨b, off, rfl, _, hc⟩ := hBz (by simpa using hp)
    refine ⟨rfl, _, rfl, fun j v hv => ?_⟩
    rw [List.getElem?_map] at hv
    cases hu : l[j]? with
    | none => rw [hu] at hv; cases hv
    | some y =>
      rw [hu] at hv
      injection hv with hv
      rw [add_off, ← hv]
      exact hc j y hu
  have hn : (l.map bv).length = Nat.min l.length 128 := by rw [List.length_map, show Nat.min l.length 128 = l.length from Nat.min_eq_left (by omega)]
  have hfit : 0 + (l.map bv).length ≤ ((List.replicate 128 (0 : UInt8)).map bv).length := by simp; omega
  have hsp : splice ((List.replicate 128 (0 : UInt8)).map bv) 0 (l.map bv) = (l ++ 0 :: List.replicate (128 - l.length - 1) 0).map bv := by
    unfold splice
    rw [List.take_zero, List.nil_append, Nat.zero_add, List.length_map, ← List.map_drop, List.drop_replicate, ← List.map_append, show 128 - l.length = (128 - l.length - 1) + 1 by omega, List.replicate_succ]
    rfl
  have hst0 : stage 128 l (8 * n % 18446744073709551616) 0 = l ++ 128 :: List.replicate (128 - l.length - 1) 0 := by
    unfold stage
    rw [Nat.sub_zero, Nat.sub_zero, List.drop_of_length_le (by rw [be_length]; omega), List.append_nil]
  have hst8 : stage 128 l (8 * n % 18446744073709551616) 8 = last 128 l n := by
    unfold stage last
    rw [Nat.sub_self, List.drop_zero, show 128 - l.length - 1 - 8 = 128 - l.length - 9 by omega]
  have hspl := stage_split 128 l (8 * n % 18446744073709551616)
  have hfa : ∀ w1 : World, Hid (w1.heap[w.heap.size]? = some (.cells (splice ((List.replicate 128 (0 : UInt8)).map bv) 0 (l.map bv)).toArray 5 (0, 0))) →
      w1.cell? ⟨w.heap.size, l.length, none⟩ = some (.int .u8 0) ∧ w1.frozen? ⟨w.heap.size, l.length, none⟩ = false ∧ Box (w1.setCell ⟨w.heap.size, l.length, none⟩ (.int .u8 128)) w.heap.size (rowOf (stage 128 l (8 * n % 18446744073709551616) 0)) 5 := by
    intro w1 h1
    have hb : Box w1 w.heap.size (rowOf (l ++ 0 :: List.replicate (128 - l.length - 1) 0)) 5 := by
      have := h1.out
      rw [hsp] at this
      exact this
    exact ⟨(hb.cell _).trans (row_get _ _ _), hb.frozen _, by rw [hst0]; exact row_step (x := 128) hb⟩
  have HFA := Lib.hid hfa
  have HPOS := Lib.hid hpos
  have HNN := Lib.hid hn
  have HFIT := Lib.hid hfit
  have HST8 := Lib.hid hst8
  have HSPL := Lib.hid hspl
  have HZ := Lib.hid (And.intro hz hbz)
  generalize hN : 8 * n % 18446744073709551616 = N at *
  have HN := Lib.hid hN
  clear hz hbz hBz hpos hn hfit hsp hB hst0 hst8 hspl hN hfa
  have hmk : ∀ w : World, (Instr.makeSlice 22 (.int .i64 128) (.int .i64 128)).run Tryd.prog w = .ok (.slice (some ⟨w.heap.size, 0, none⟩) 128 128) (w.alloc (.cells (zrow 128) 5)) := fun w => make_any 128 w (by omega)
  generalize hm : l.length = m at *
  have HM := Lib.hid hm
  clear hm
  go_enter Tryd.func29, Tryd.ntmps29
  go_wp2_with (first
    | (refine wpList_copy_splice rfl (.tmp 15) (.tmp 16) 22 22 rfl 5 Tryd.underlying22 size1 (some ⟨w.heap.size, 0, none⟩) A 128 128 m c rfl rfl w.heap.size 0 _ 5 HZ.out.1 (l.map bv) HNN.out HPOS.out HFIT.out (bv_one l) w.heap.size w HZ.out.2 (Nat.le_refl _) ?_; intro w1 hw1 hb1; clear hmk; obtain ⟨hc1, hf1, hx1⟩ := HFA.out w1 hw1; have HX1 := Lib.hid hx1; clear hx1 hw1))
  go_loopw [22] (fun i wr => ∃ k : Nat, k ≤ 8 ∧ i = .int .i64 k ∧ Box wr w.heap.size (rowOf (stage 128 l N k)) 5 ∧ Below w.heap.size w wr) (fun i _ => 8 - (intOf i).toNat)
  case atStart => exact ⟨0, by omega, rfl, HX1.out, hb1.setCell (Nat.le_refl _) _⟩
  case round =>
    clear HX1 hb1 hc1 hf1 HZ HPOS HNN HFIT HFA
    obtain ⟨k, hk, rfl, hb, hbw⟩ := hrel
    have HB := Lib.hid hb
    by_cases hlt : k < 8
    · obtain ⟨X, Y, hX, e1, e2⟩ := HSPL.out k (by omega) hlt
      have hcell : wr.cell? ⟨w.heap.size, 127 - k, none⟩ = some (.int .u8 0) := by
        rw [hb.cell _, e1, show 127 - k = X.length by omega]
        exact row_get X Y 0
      have hfz : wr.frozen? ⟨w.heap.size, 127 - k, none⟩ = false := hb.frozen _
      have hnx : Box (wr.setCell ⟨w.heap.size, 127 - k, none⟩ (bv (UInt8.ofNat (N / 256 ^ k % 256)))) w.heap.size (rowOf (stage 128 l N (k + 1))) 5 := by
        rw [e2, show 127 - k = X.length by omega]
        rw [e1] at hb
        exact row_step hb
      have HNX := Lib.hid hnx
      clear hnx e1 e2 hX hb HB HSPL
      go_wp2_with fail
      go_roundw
      case rel =>
        refine ⟨k + 1, by omega, by go_num, ?_, hbw.setCell (Nat.le_refl _) _⟩
        have hwr : IntKind.u64.wrap (8 * (n : Int)) = (N : Int) := by
          have := HN.out
          rw [IntKind.wrap_u64]
          omega
        rw [hwr, byte_nat]
        exact HNX.out
      case measure => simp [intOf]; omega
    · obtain rfl : k = 8 := by omega
      clear hb
      go_wp2_with fail
      go_ret
      exact ⟨rfl, by rw [← HST8.out]; exact HB.out, hbw⟩

end Go.Proofs.YtdjlblfpkieenaaDoor
