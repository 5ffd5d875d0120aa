/- The beginning of a state; its words as bytes. -/
import Derived.Test.YtdjlblfpkieenaaDoorAll
namespace Go.Proofs.YtdjlblfpkieenaaDoor
open Go.RowKit
set_option linter.unusedVariables false

set_option maxRecDepth 100000 in
theorem start_any (w : World) :
    Calls Tryd.prog 27 #[] w fun e w' => e = .returned (.pointer (some ⟨w.heap.size, 0, none⟩)) ∧ Box w' w.heap.size (hcells s0) 66 ∧ Below w.heap.size w w' := by
  have hz : Box (w.alloc (.cells (hcells s0) 66)) w.heap.size (hcells s0) 66 := Box.new w _ _
  have hb := (Below.refl w.heap.size w).alloc (Nat.le_refl _) (.cells (hcells s0) 66)
  have HZ := Lib.hid (And.intro hz hb)
  clear hz hb
  go_enter Tryd.func27, Tryd.ntmps27
  go_wp2_with fail
  go_ret
  exact ⟨rfl, HZ.out⟩

/-- The cells of an array of 32 bytes, the first ones of which are l. -/
def bcells (l : List UInt8) : Array Value := ((l ++ List.replicate (32 - l.length) 0).map bv).toArray
theorem bcells_size (l : List UInt8) (h : l.length ≤ 32) : (bcells l).size = 32 := by
  simp [bcells]
  omega
theorem bcells_one (l : List UInt8) : (bcells l).all (·.oneCell') = true := by
  rw [Array.all_eq_true_iff_forall_mem]
  intro x hx
  unfold bcells at hx
  simp only [List.mem_toArray, List.mem_map] at hx
  obtain ⟨y, _, rfl⟩ := hx
  rfl
theorem size32 {cs : Array Value} (h : cs.size = 32) : (Tryd.prog.info? 26).map (·.size) = some cs.size := by
  rw [h]
  kernel_rfl
theorem bcells_zero (l : List UInt8) (i : Nat) (h : l.length ≤ i) (h2 : i < 32) : (bcells l)[i]? = some (.int .u8 0) := by
  unfold bcells
  rw [List.getElem?_toArray, List.getElem?_map, List.getElem?_append_right h, List.getElem?_replicate, if_pos (by omega)]
  rfl
theorem bcells_step {wr : World} {g k : Nat} {L : List UInt8} {t : TypeId} (x : UInt8) (h : Box wr g (bcells L) t) (hk : L.length = k) (h32 : k < 32) : Box (wr.setCell ⟨g, k, none⟩ (bv x)) g (bcells (L ++ [x])) t := by
  subst hk
  have := h.set (i := L.length) (v := bv x)
  have e : (bcells L).setIfInBounds L.length (bv x) = bcells (L ++ [x]) := by
    unfold bcells
    rw [List.setIfInBounds_toArray, List.length_append, List.length_singleton, show 32 - L.length = (32 - (L.length + 1)) + 1 by omega, List.replicate_succ, List.map_append, List.map_append, List.map_cons]
    congr 1
    rw [List.set_append_right _ _ (by simp)]
    simp
  rwa [e] at this
/-- The cells of a digest. -/
def dcells (l : List UInt8) : Array Value := (l.map bv).toArray
theorem bcells_full (l : List UInt8) (h : l.length = 32) : bcells l = dcells l := by
  unfold bcells dcells
  rw [h, Nat.sub_self, List.replicate_zero, List.append_nil]

/-- Byte number k of a word, the most significant one first. -/
def byteOf (x : U) (k : Nat) : UInt8 := UInt8.ofNat (x >>> (8 * (3 - k))).toNat
theorem bytes8_get (s : S8) (i k : Nat) (hi : i < 8) (hk : k < 4) : (bytes8 s)[4 * i + k]? = some (byteOf (hg s i) k) := by
  have h1 : i = 0 ∨ i = 1 ∨ i = 2 ∨ i = 3 ∨ i = 4 ∨ i = 5 ∨ i = 6 ∨ i = 7 := by omega
  have h2 : k = 0 ∨ k = 1 ∨ k = 2 ∨ k = 3 := by omega
  rcases h1 with rfl | rfl | rfl | rfl | rfl | rfl | rfl | rfl <;> rcases h2 with rfl | rfl | rfl | rfl <;> rfl
theorem byte_u (x : U) (n : Nat) : Value.int .u8 (u x / 2 ^ n % 256) = bv (UInt8.ofNat (x >>> n).toNat) := by
  rw [shr_u]
  unfold bv u
  rw [UInt8.toNat_ofNat']
  congr 1
theorem take_next {α : Type} {l : List α} {j : Nat} {x : α} (h : l[j]? = some x) : l.take (j + 1) = l.take j ++ [x] := by
  rw [List.take_add_one, h]
  rfl

set_option maxHeartbeats 1000000 in
set_option maxRecDepth 100000 in
theorem digest_any (h : Nat) (s : S8) (w : World) (hS : Box w h (hcells s) 66) :
    Calls Tryd.prog 30 #[.pointer (some ⟨h, 0, none⟩)] w fun e w' => e = .returned (.agg (dcells (bytes8 s))) ∧ Below w.heap.size w w' := by
  have hlt := hS.lt
  have hz : Box (w.alloc (.cells (bcells []) 26)) w.heap.size (bcells []) 26 := Box.new w _ _
  have hbz := (Below.refl w.heap.size w).alloc (Nat.le_refl _) (.cells (bcells []) 26)
  have HZ := Lib.hid (And.intro hz hbz)
  have hS1 := hS.alloc (.cells (bcells []) 26)
  have HS1 := Lib.hid hS1
  have HI8 : Hid ((Tryd.prog.info? 56).map (·.size) = some (hcells s).size) := Lib.hid (by show _ = some 8; kernel_rfl)
  have HIX : Hid (∀ i : Nat, i < 8 → ∀ w : World, (Instr.index 56 (.agg (hcells s)) (.int .i64 (i : Int))).run Tryd.prog w = .ok (.int .u32 (u (hg s i))) w) := Lib.hid (index8 s)
  have HGET := Lib.hid (bytes8_get s)
  have HLEN := Lib.hid (bytes8_length s)
  generalize hcells s = HC at *
  generalize hBY : bytes8 s = BY at *
  generalize hg s = hgs at *
  have HBY := Lib.hid hBY
  clear hz hbz hS1 hS hBY
  go_enter Tryd.func30, Tryd.ntmps30
  go_wp2_with (first | (refine wpList_load_row rfl 56 (.tmp 8) rfl h rfl 66 HC (0, 0) _ HS1.out Tryd.underlying56 rfl HI8.out ?_))
  go_loopw [10] (fun i wr => ∃ k : Nat, k ≤ 8 ∧ i = .int .i64 k ∧ Box wr w.heap.size (bcells (BY.take (4 * k))) 26 ∧ Below w.heap.size w wr) (fun i _ => 8 - (intOf i).toNat)
  case atStart => exact ⟨0, by omega, rfl, HZ.out.1, HZ.out.2⟩
  case round =>
    clear HZ HS1
    obtain ⟨k, hk, rfl, hb, hbw⟩ := hrel
    have HB := Lib.hid hb
    clear hb
    by_cases hlt : k < 8
    · have hix := HIX.out k hlt
      have HG : Hid (∀ j, j < 4 → BY[4 * k + j]? = some (byteOf (hgs k) j)) := Lib.hid (fun j hj => HGET.out k j hlt hj)
      generalize hgs k = v at *
      obtain ⟨wo, rfl⟩ : ∃ wo : World, wo = wr := ⟨_, rfl⟩
      go_wp2_with fail
      go_loopw [14] (fun i wr => ∃ j : Nat, j ≤ 4 ∧ i = .int .i64 j ∧ Box wr w.heap.size (bcells (BY.take (4 * k + j))) 26 ∧ Below w.heap.size w wr) (fun i _ => 4 - (intOf i).toNat)
      case atStart => exact ⟨0, by omega, rfl, HB.out, hbw⟩
      case round =>
        clear hix HB hbw
        obtain ⟨j, hj, rfl, hb, hbw⟩ := hrel
        have HB := Lib.hid hb
        clear hb
        by_cases hlt2 : j < 4
        · have hlen : (BY.take (4 * k + j)).length = 4 * k + j := by rw [List.length_take, HLEN.out]; omega
          have hcell : wr.cell? ⟨w.heap.size, 4 * k + j, none⟩ = some (.int .u8 0) := by rw [HB.out.cell _]; exact bcells_zero _ _ (by rw [hlen]; omega) (by omega)
          have hfz : wr.frozen? ⟨w.heap.size, 4 * k + j, none⟩ = false := HB.out.frozen _
          have HL := Lib.hid hlen
          clear hlen
          go_wp2_with fail
          go_roundw
          case rel =>
            refine ⟨j + 1, by omega, by go_num, ?_, hbw.setCell (Nat.le_refl _) _⟩
            rw [byte_u, show 4 * k + (j + 1) = 4 * k + j + 1 by omega, take_next (HG.out j hlt2)]
            exact bcells_step _ HB.out HL.out (by omega)
          case measure => simp [intOf]; omega
        · obtain rfl : j = 4 := by omega
          go_wp2_with fail
          go_roundw
          case rel => exact ⟨k + 1, by omega, by go_num, by rw [show 4 * (k + 1) = 4 * k + 4 by omega]; exact HB.out, hbw⟩
          case measure => simp [intOf]; omega
    · obtain rfl : k = 8 := by omega
      have hb := HB.out
      rw [show 4 * 8 = 32 from rfl, List.take_of_length_le (by rw [HLEN.out]; omega), bcells_full _ HLEN.out] at hb
      have hsz : (dcells BY).size = 32 := by simp [dcells, HLEN.out]
      have hi := size32 hsz
      have hone : (dcells BY).all (·.oneCell') = true := by rw [← bcells_full _ HLEN.out]; exact bcells_one _
      generalize hCS : dcells BY = CS at *
      have HCS := Lib.hid hCS
      have HI := Lib.hid hi
      have HONE := Lib.hid hone
      have HBX := Lib.hid hb
      clear hsz hi hone hb hCS HB HIX HGET
      go_wp2_with (first
        | (refine wpList_load_row rfl 26 (.tmp 2) rfl w.heap.size rfl 26 CS (0, 0) _ HBX.out Tryd.underlying26 rfl HI.out ?_)
        | (refine wpList_store_row rfl 26 (.tmp 2) (.tmp 30) rfl w.heap.size CS rfl rfl 26 CS HBX.out HI.out rfl HONE.out ?_))
      refine bodyPost_ret (v := .agg CS) ?_ rfl ?_
      · exact results_cell_row Tryd.results30 _ _ w.heap.size 26 CS (0, 0) _ rfl (Box.setRow HBX.out) Tryd.underlying26 rfl HI.out
      · exact ⟨by rw [HCS.out], hbw.trans (below_grown (setRow_grown wr w.heap.size CS) (Nat.le_refl _) hbw.size)⟩
end Go.Proofs.YtdjlblfpkieenaaDoor
