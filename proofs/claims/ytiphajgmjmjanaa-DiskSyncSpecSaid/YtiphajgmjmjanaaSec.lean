/- sector, torn. -/
import Derived.Test.YtiphajgmjmjanaaOwn
import Derived.Laws.MakeOwn
import Derived.Laws.CopyOwn
namespace Go.Proofs.Ytiphajgmjmjanaa
open Go.RowKit
set_option linter.unusedVariables false

/-- A row of bytes, as cells. -/
def rowOf (l : List UInt8) : Array Value := (l.map bv).toArray
theorem sl_box {w : World} {g n : Nat} {l : List UInt8} (h : Box w g (rowOf l) 5) (hn : l.length = n) (hm : n ≤ 1000000) : Sl w (some ⟨g, 0, none⟩) l n := by
  subst hn
  exact ⟨Bs.of_box h, Nat.le_refl _, le_maxLen (by omega), fun h => by cases h⟩
theorem made_u8 (n : Nat) : madeCells (Value.int .u8 0).cells n = rowOf (List.replicate n 0) := by
  unfold madeCells rowOf
  apply Array.ext_getElem?
  intro i
  by_cases h : i < n
  · simp [h, Value.cells, bv, Nat.mod_one]
  · simp [h]
def zrow (n : Nat) : Array Value := rowOf (List.replicate n 0)
theorem make_any (n : Nat) (w : World) (hn : n ≤ 1000000) : (Instr.makeSlice 35 (.int .i64 n) (.int .i64 n)).run Try.prog w = .ok (.slice (some ⟨w.heap.size, 0, none⟩) n n) (w.alloc (.cells (zrow n) 5)) := by
  obtain ⟨i0, hi0, hz0, hz1, hz2⟩ := info_parts u8_info
  have := run_make w 35 5 i0 (.int .u8 0) Try.underlying35 hi0 hz0 .i64 .i64 (n : Int) (n : Int) (by omega) (by omega) (by rw [hz2]; omega) (by omega)
  rw [hz1, Int.toNat_natCast, Nat.mul_one, made_u8] at this
  exact this
theorem sz_u8 : (Try.prog.info? 5).map (·.size) = some 1 := by kernel_rfl
def SecPost (l : List UInt8) (w : World) (e : Ending) (w' : World) : Prop := e = .returned (.slice (some ⟨w.heap.size, 0, none⟩) 128 128) ∧ Box w' w.heap.size (rowOf l) 5 ∧ Below w.heap.size w w'
theorem SecPost.sl {l : List UInt8} {w w' : World} (h : Box w' w.heap.size (rowOf l) 5) (hl : l.length = 128) : Sl w' (some ⟨w.heap.size, 0, none⟩) l 128 := sl_box h hl (by omega)

set_option maxHeartbeats 1000000 in
set_option maxRecDepth 100000 in
theorem sector_any (A : Option Addr) (c : Nat) (l : List UInt8) (w : World) (hS : Sl w A l c) :
    Calls Try.prog 30 #[.slice A l.length c] w (SecPost (sec l) w) := by
  have hz : Box (w.alloc (.cells (zrow 128) 5)) w.heap.size ((List.replicate 128 (0 : UInt8)).map bv).toArray 5 := Box.new w _ _
  have hbz := (Below.refl w.heap.size w).alloc (Nat.le_refl _) (.cells (zrow 128) 5)
  have hSz := hS.up hbz
  have hpos : 0 < ((l.take 128).map bv).length → (some ⟨w.heap.size, 0, none⟩ : Option Addr) = some ⟨w.heap.size, 0, none⟩ ∧ ∃ ad, A = some ad ∧ ∀ j v, ((l.take 128).map bv)[j]? = some v → (w.alloc (.cells (zrow 128) 5)).cell? (ad.add j) = some v := by
    intro hp
    rw [List.length_map, List.length_take] at hp
    obtain ⟨b, off, rfl, _, _⟩ := hSz.1 (by omega)
    refine ⟨rfl, _, rfl, fun j v hv => hSz.news j v ?_⟩
    rw [List.map_take, List.getElem?_take] at hv
    split at hv
    · exact hv
    · cases hv
  have hn : ((l.take 128).map bv).length = Nat.min l.length 128 := by rw [List.length_map, List.length_take, Nat.min_comm]
  have hfit : 0 + ((l.take 128).map bv).length ≤ ((List.replicate 128 (0 : UInt8)).map bv).length := by rw [List.length_map, List.length_map, List.length_take, List.length_replicate]; omega
  have hsp : splice ((List.replicate 128 (0 : UInt8)).map bv) 0 ((l.take 128).map bv) = (sec l).map bv := by
    unfold splice sec
    rw [List.take_zero, List.nil_append, Nat.zero_add, List.length_map, ← List.map_drop, List.drop_replicate, ← List.map_append, List.length_take]
    congr 3
    omega
  have HPOS := Lib.hid hpos
  have HNN := Lib.hid hn
  have HFIT := Lib.hid hfit
  have HSP := Lib.hid hsp
  have HZ := Lib.hid (And.intro hz hbz)
  have HO := Lib.hid (fun u (hu : u ∈ (l.take 128).map bv) => bv_one (l.take 128) u hu)
  clear hz hbz hSz hpos hn hfit hsp hS
  obtain ⟨X, hX⟩ : ∃ X, (l.take 128).map bv = X := ⟨_, rfl⟩
  rw [hX] at HPOS HNN HFIT HSP HO
  clear hX
  generalize sec l = L at *
  have hmk : ∀ w : World, (Instr.makeSlice 35 (.int .i64 128) (.int .i64 128)).run Try.prog w = .ok (.slice (some ⟨w.heap.size, 0, none⟩) 128 128) (w.alloc (.cells (zrow 128) 5)) := fun w => make_any 128 w (by omega)
  generalize l.length = m at *
  go_enter Try.func30, Try.ntmps30
  go_wp2_with (first
    | (refine wpList_copy_splice rfl (.tmp 5) (.tmp 6) 35 35 rfl 5 Try.underlying35 sz_u8 (some ⟨w.heap.size, 0, none⟩) A 128 128 m c rfl rfl w.heap.size 0 _ 5 HZ.out.1 X HNN.out HPOS.out HFIT.out HO.out w.heap.size w HZ.out.2 (Nat.le_refl _) ?_; intro w1 hw1 hb1; clear hmk))
  go_ret
  exact ⟨rfl, by rw [HSP.out] at hw1; exact hw1.out, hb1⟩

set_option maxHeartbeats 1000000 in
set_option maxRecDepth 100000 in
theorem torn_any (A B : Option Addr) (c k : Nat) (x y : List UInt8) (w : World) (hx : x.length = 128) (hy : y.length = 128) (hA : Sl w A x c) (hB : Sl w B y k) :
    Calls Try.prog 42 #[.slice A 128 c, .slice B 128 k] w (SecPost (torn x y) w) := by
  have HC := Lib.hid (sector_any A c x w hA)
  rw [sec_whole hx, hx] at HC
  have HB := Lib.hid hB
  have hn : ((y.take 64).map bv).length = Nat.min 128 64 := by rw [List.length_map, List.length_take, hy]; rfl
  have hfit : 0 + ((y.take 64).map bv).length ≤ (x.map bv).length := by rw [List.length_map, List.length_map, List.length_take]; omega
  have hsp : splice (x.map bv) 0 ((y.take 64).map bv) = (torn x y).map bv := by
    unfold splice torn
    rw [List.take_zero, List.nil_append, Nat.zero_add, List.length_map, ← List.map_drop, ← List.map_append, List.length_take, hy]
    rfl
  have hpos : ∀ w1, Below w.heap.size w w1 → 0 < ((y.take 64).map bv).length → ∃ ad, B = some ad ∧ ∀ j v, ((y.take 64).map bv)[j]? = some v → w1.cell? (ad.add j) = some v := by
    intro w1 hb hp
    have hB1 := hB.up hb
    obtain ⟨b, off, rfl, _, _⟩ := hB1.1 (by omega)
    refine ⟨_, rfl, fun j v hv => hB1.news j v ?_⟩
    rw [List.map_take, List.getElem?_take] at hv
    split at hv
    · exact hv
    · cases hv
  have HPOS := Lib.hid hpos
  have HNN := Lib.hid hn
  have HFIT := Lib.hid hfit
  have HSP := Lib.hid hsp
  have HO := Lib.hid (fun u (hu : u ∈ (y.take 64).map bv) => bv_one (y.take 64) u hu)
  clear hpos hn hfit hsp hA hB
  obtain ⟨X, hX⟩ : ∃ X, (y.take 64).map bv = X := ⟨_, rfl⟩
  rw [hX] at HPOS HNN HFIT HSP HO
  clear hX
  generalize torn x y = L at *
  unfold SecPost at HC ⊢
  go_enter Try.func42, Try.ntmps42
  go_wp2_with fail
  refine HC.out.mono ?_
  rintro e w1 ⟨rfl, hx1, hb1⟩
  have HX1 := Lib.hid (And.intro hx1 hb1)
  clear hx1 hb1
  go_wp2_with (first
    | (refine wpList_copy_splice rfl (.tmp 9) (.tmp 10) 35 35 rfl 5 Try.underlying35 sz_u8 (some ⟨w.heap.size, 0, none⟩) B 64 128 128 k rfl rfl w.heap.size 0 _ 5 HX1.out.1 X HNN.out (fun hp => ⟨rfl, HPOS.out _ HX1.out.2 hp⟩) HFIT.out HO.out w.heap.size w HX1.out.2 (Nat.le_refl _) ?_; intro w2 hw2 hb2))
  go_ret
  exact ⟨rfl, by rw [HSP.out] at hw2; exact hw2.out, hb2⟩
theorem torn_length {x y : List UInt8} (hx : x.length = 128) (hy : y.length = 128) : (torn x y).length = 128 := by
  unfold torn
  rw [List.length_append, List.length_take, List.length_drop]
  omega
end Go.Proofs.Ytiphajgmjmjanaa
