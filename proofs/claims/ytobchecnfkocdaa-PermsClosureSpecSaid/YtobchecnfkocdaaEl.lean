/- Elements: arrays of 256 bytes; elementOf, numbers, product. -/
import Derived.Test.YtobchecnfkocdaaIn
import Derived.Laws.Tables
import Derived.Laws.Rows
namespace Go.Proofs.Ytobchecnfkocdaa
open Go.RowKit
set_option linter.unusedVariables false
set_option linter.unusedSimpArgs false

/-- The cells of an array of 256 bytes. -/
def ucs (f : Nat → Nat) : Array Value := ((List.range 256).map fun i => Value.int .u8 (f i : Int)).toArray
theorem ucs_size (f : Nat → Nat) : (ucs f).size = 256 := by simp [ucs]
theorem ucs_at (f : Nat → Nat) {i : Nat} (h : i < 256) : (ucs f)[i]? = some (.int .u8 (f i : Int)) := by
  unfold ucs
  rw [List.getElem?_toArray, List.getElem?_map, List.getElem?_range h]
  rfl
theorem ucs_one (f : Nat → Nat) : (ucs f).all (·.oneCell') = true := by
  rw [Array.all_eq_true_iff_forall_mem]
  intro x hx
  unfold ucs at hx
  simp only [List.mem_toArray, List.mem_map] at hx
  obtain ⟨y, _, rfl⟩ := hx
  rfl
theorem ucs_set (f : Nat → Nat) (k v : Nat) : (ucs f).setIfInBounds k (.int .u8 (v : Int)) = ucs (fun i => if i = k then v else f i) := by
  unfold ucs
  rw [List.setIfInBounds_toArray]
  congr 1
  apply List.ext_getElem?
  intro i
  rw [List.getElem?_set]
  by_cases h : k = i
  · subst h
    rw [if_pos rfl]
    by_cases h2 : k < 256
    · rw [if_pos (by simpa using h2), List.getElem?_map, List.getElem?_range h2]
      simp
    · rw [if_neg (by simpa using h2), List.getElem?_eq_none (by simp; omega)]
  · rw [if_neg h, List.getElem?_map, List.getElem?_map]
    by_cases h2 : i < 256
    · rw [List.getElem?_range h2]
      show some (Value.int .u8 ((f i : Nat) : Int)) = some (Value.int .u8 (((if i = k then v else f i) : Nat) : Int))
      rw [if_neg (fun e => h e.symm)]
    · rw [List.getElem?_eq_none (by simp; omega)]
      rfl
theorem ucs_eq {f g : Nat → Nat} (h : ∀ i, i < 256 → f i = g i) : ucs f = ucs g := by
  unfold ucs
  congr 1
  refine List.map_congr_left fun i hi => ?_
  rw [h i (List.mem_range.1 hi)]
theorem zc_el : Try.zeroCells55 = ucs fun _ => 0 := by kernel_rfl
theorem el_info (f : Nat → Nat) : (Try.prog.info? 55).map (·.size) = some (ucs f).size := by
  rw [ucs_size]
  kernel_rfl
/-- The element of a permutation. -/
def eof (p : List Nat) : Array Value := ucs fun i => p.getD i 0
def ints (p : List Nat) : List Int := p.map fun x => ((x : Nat) : Int)
theorem ints_length (p : List Nat) : (ints p).length = p.length := List.length_map _
theorem ints_at {p : List Nat} {j : Nat} {x : Nat} (h : p[j]? = some x) : (ints p)[j]? = some (x : Int) := by
  unfold ints
  rw [List.getElem?_map, h]
  rfl
theorem take_getD {p : List Nat} {j x : Nat} (h : p[j]? = some x) (i : Nat) : (if i = j then x else (p.take j).getD i 0) = (p.take (j + 1)).getD i 0 := by
  have hj := (List.getElem?_eq_some_iff.1 h).1
  rw [List.getD_eq_getElem?_getD, List.getD_eq_getElem?_getD, List.getElem?_take, List.getElem?_take]
  by_cases e : i = j
  · subst e
    rw [if_pos rfl, if_pos (by omega), h]
    rfl
  · rw [if_neg e]
    by_cases e2 : i < j
    · rw [if_pos e2, if_pos (by omega)]
    · rw [if_neg e2, if_neg (by omega)]

set_option maxHeartbeats 4000000 in
set_option maxRecDepth 100000 in
theorem elementOf_any (A : Option Addr) (c : Nat) (p : List Nat) (w : World) (hA : Si w A (ints p) c) (hp : ∀ x ∈ p, x < 256) (hl : p.length ≤ 256) :
    Calls Try.prog 35 #[.slice A p.length c] w (fun e w' => e = .returned (.agg (eof p)) ∧ Below w.heap.size w w') := by
  have HS := Lib.hid hA
  have HP := Lib.hid hp
  unfold eof
  obtain ⟨n, hn⟩ : ∃ n, p.length = n := ⟨_, rfl⟩
  have HN := Lib.hid hn
  rw [hn] at hl ⊢
  clear hA hp hn
  go_enter Try.func35, Try.ntmps35
  go_wp2_with fail
  rw [zc_el]
  obtain ⟨B, hB⟩ : ∃ B, w.heap.size = B := ⟨_, rfl⟩
  have HX := Lib.hid (show Box (w.alloc (.cells (ucs fun _ => 0) 55)) B (ucs fun _ => 0) 55 from hB ▸ Box.new w _ _)
  have HB := Lib.hid (show Below B w (w.alloc (.cells (ucs fun _ => 0) 55)) from hB ▸ (Below.refl w.heap.size w).alloc (Nat.le_refl _) _)
  have HBE := Lib.hid hB
  rw [hB]
  clear hB
  generalize w.alloc (.cells (ucs fun _ => 0) 55) = V at *
  go_loopw [7] (fun i wr => ∃ j : Nat, j ≤ n ∧ i = .int .i64 (j : Int) ∧ Box wr B (ucs fun i => (p.take j).getD i 0) 55 ∧ Below B w wr) (fun i _ => n - (intOf i).toNat)
  case atStart => exact ⟨0, Nat.zero_le _, rfl, by simpa using HX.out, HB.out⟩
  case round =>
    obtain ⟨j, hj, rfl, hbx, hb⟩ := hrel
    have KR := Lib.hid (And.intro hbx hb)
    clear hbx hb HX HB
    by_cases hlt : j < n
    case neg =>
      have hdj : decide ((j : Int) < (n : Int)) = false := decide_eq_false (by omega)
      obtain rfl : j = n := by omega
      have h := KR.out.1
      rw [List.take_of_length_le (by rw [HN.out]; exact Nat.le_refl _)] at h
      have HF := Lib.hid (show Below w.heap.size w wr from by rw [HBE.out]; exact KR.out.2)
      have hi := el_info (fun i => p.getD i 0)
      have hone := ucs_one (fun i => p.getD i 0)
      obtain ⟨CS, hCS⟩ : ∃ CS, ucs (fun i => p.getD i 0) = CS := ⟨_, rfl⟩
      rw [hCS] at h hi hone
      have HCS := Lib.hid hCS
      have HI := Lib.hid hi
      have HONE := Lib.hid hone
      have HBX := Lib.hid h
      clear hi hone h hCS
      go_wp2_with (first
        | (refine wpList_load_row rfl 55 (.tmp 2) rfl B rfl 55 CS (0, 0) _ HBX.out Try.underlying55 rfl HI.out ?_)
        | (refine wpList_store_row rfl 55 (.tmp 2) (.tmp 17) rfl B CS rfl rfl 55 CS HBX.out HI.out rfl HONE.out ?_))
      refine bodyPost_ret (v := .agg CS) ?_ rfl ?_
      · exact results_cell_row Try.results35 _ _ B 55 CS (0, 0) _ rfl (Box.setRow HBX.out) Try.underlying55 rfl HI.out
      · exact ⟨by rw [HCS.out], HF.out.trans (below_grown (setRow_grown wr B CS) (by rw [HBE.out]; exact Nat.le_refl _) HF.out.size)⟩
    have hdj : decide ((j : Int) < (n : Int)) = true := decide_eq_true (by omega)
    obtain ⟨x, hx⟩ : ∃ x, p[j]? = some x := ⟨_, List.getElem?_eq_getElem (by rw [HN.out]; exact hlt)⟩
    have hx256 := HP.out x (List.mem_of_getElem? hx)
    obtain ⟨b, off, rfl, hbl, hc⟩ := HS.out.at_ (ints_at hx)
    have z0 : wr.cell? ⟨b, off + j, none⟩ = some (.int .i64 (x : Int)) := (KR.out.2.cell (p := ⟨b, off + j, none⟩) (by rw [← HBE.out]; exact hbl)).trans hc
    have z1 : wr.cell? ⟨B, j, none⟩ = some (.int .u8 (((p.take j).getD j 0 : Nat) : Int)) := (KR.out.1.cell j).trans (ucs_at _ (by omega))
    have f1 := KR.out.1.frozen j
    have wx : IntKind.u8.wrap (x : Int) = (x : Int) := by rw [IntKind.wrap_u8]; omega
    have hst := KR.out.1.set (i := j) (v := .int .u8 (x : Int))
    rw [ucs_set, ucs_eq (fun i _ => take_getD hx i)] at hst
    have HST := Lib.hid (And.intro hst (KR.out.2.setCell (p := ⟨B, j, none⟩) (Nat.le_refl _) (.int .u8 (x : Int))))
    have i0 : (0 : Int) ≤ (j : Int) := by omega
    have i1 : (j : Int) < (n : Int) := by omega
    have i2 : (j : Int) < 256 := by omega
    obtain ⟨v1, hv1⟩ : ∃ v1, (p.take j).getD j 0 = v1 := ⟨_, rfl⟩
    rw [hv1] at z1
    clear hx hx256 hbl hc hst hv1 KR
    go_wp2_with fail
    go_roundw
    case rel => exact ⟨j + 1, by omega, by go_num, HST.out⟩
    case measure => simp [intOf]; omega
end Go.Proofs.Ytobchecnfkocdaa
