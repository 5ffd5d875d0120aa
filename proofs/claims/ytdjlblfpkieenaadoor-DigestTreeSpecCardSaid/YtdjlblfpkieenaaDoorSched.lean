/- The schedule of a block. -/
import Derived.Test.YtdjlblfpkieenaaDoorRot
import Derived.Test.YtdjlblfpkieenaaDoorTail
namespace Go.Proofs.YtdjlblfpkieenaaDoor
open Go.RowKit
set_option linter.unusedVariables false

/-- The cells of an array of 64 words, the first ones of which are l. -/
def wcells (l : List U) : Array Value := ((l ++ List.replicate (64 - l.length) 0).map uv).toArray
theorem wcells_size (l : List U) (h : l.length ≤ 64) : (wcells l).size = 64 := by
  simp [wcells]
  omega
theorem wcells_one (l : List U) : (wcells l).all (·.oneCell') = true := by
  rw [Array.all_eq_true_iff_forall_mem]
  intro x hx
  unfold wcells at hx
  simp only [List.mem_toArray, List.mem_map] at hx
  obtain ⟨y, _, rfl⟩ := hx
  rfl
theorem size64 {cs : Array Value} (h : cs.size = 64) : (Tryd.prog.info? 67).map (·.size) = some cs.size := by
  rw [h]
  kernel_rfl
theorem wcells_get (l : List U) (i : Nat) (h : i < l.length) : (wcells l)[i]? = some (.int .u32 (u (l.getD i 0))) := by
  unfold wcells
  rw [List.getElem?_toArray, List.getElem?_map, List.getElem?_append_left h, List.getElem?_eq_getElem h, List.getD_eq_getElem?_getD, List.getElem?_eq_getElem h]
  rfl
theorem wcells_zero (l : List U) (i : Nat) (h : l.length ≤ i) (h2 : i < 64) : (wcells l)[i]? = some (.int .u32 0) := by
  unfold wcells
  rw [List.getElem?_toArray, List.getElem?_map, List.getElem?_append_right h, List.getElem?_replicate, if_pos (by omega)]
  rfl
theorem wcells_set (l : List U) (x : U) (h : l.length < 64) : (wcells l).setIfInBounds l.length (.int .u32 (u x)) = wcells (l ++ [x]) := by
  unfold wcells
  rw [List.setIfInBounds_toArray, List.length_append, List.length_singleton, show 64 - l.length = (64 - (l.length + 1)) + 1 by omega, List.replicate_succ, List.map_append, List.map_append, List.map_cons]
  congr 1
  rw [List.set_append_right _ _ (by simp)]
  simp [uv]

theorem wcells_step {wr : World} {g k : Nat} {L : List U} {t : TypeId} (x : U) (h : Box wr g (wcells L) t) (hk : L.length = k) (h64 : k < 64) : Box (wr.setCell ⟨g, k, none⟩ (.int .u32 (u x))) g (wcells (L ++ [x])) t := by
  subst hk
  have := h.set (i := L.length) (v := .int .u32 (u x))
  rwa [wcells_set L x h64] at this

theorem pw_part (l : List UInt8) (n : Nat) : ∀ j, j ≤ 4 → n + j ≤ l.length → pw ((l.drop n).take 4) 0 j = pw l n j := by
  intro j
  induction j with
  | zero => intros; rfl
  | succ j ih =>
    intro hj hn
    simp only [pw]
    rw [ih (by omega) (by omega)]
    congr 2
    simp only [List.getD_eq_getElem?_getD, Nat.zero_add, List.getElem?_take, List.getElem?_drop]
    rw [if_pos (by omega)]
theorem word_part (l : List UInt8) (n : Nat) (h : n + 4 ≤ l.length) : wordAt ((l.drop n).take 4) 0 = wordAt l n := pw_part l n 4 (by omega) (by omega)

set_option maxHeartbeats 400000 in
set_option maxRecDepth 100000 in
theorem sched_any (A : Option Addr) (c : Nat) (l : List UInt8) (w : World) (hB : Bs w.heap.size w A l) (hl : l.length = 64) (h1 : 64 ≤ c) (h2 : c ≤ maxLen) :
    Calls Tryd.prog 51 #[.slice A 64 c] w fun e w' => e = .returned (.agg (wcells (sched l 64))) ∧ Below w.heap.size w w' := by
  unfold maxLen at h2
  obtain ⟨b, off, rfl, hbl, hc⟩ := hB (by omega)
  have hz : Box (w.alloc (.cells (wcells []) 67)) w.heap.size (wcells []) 67 := Box.new w _ _
  have hbz := (Below.refl w.heap.size w).alloc (Nat.le_refl _) (.cells (wcells []) 67)
  have HZ := Lib.hid (And.intro hz hbz)
  have HB := Lib.hid hB
  have HL := Lib.hid hl
  clear hz hbz hB hl hc
  go_enter Tryd.func51, Tryd.ntmps51
  go_wp2_with fail
  go_loopw [9] (fun i wr => ∃ k : Nat, k ≤ 16 ∧ i = .int .i64 k ∧ Box wr w.heap.size (wcells (sched l k)) 67 ∧ Below w.heap.size w wr) (fun i _ => 16 - (intOf i).toNat)
  case atStart => exact ⟨0, by omega, rfl, HZ.out.1, HZ.out.2⟩
  case round =>
    obtain ⟨k, hk, rfl, hb, hbw⟩ := hrel
    have HBX := Lib.hid hb
    clear hb
    by_cases hlt : k < 16
    · have hpart : Bs w.heap.size wr (some ⟨b, off + 4 * k, none⟩) ((l.drop (4 * k)).take 4) := by
        have := ((HB.out.below (Nat.le_refl _) hbw).drop (n := 4 * k)).take (n := 4)
        simpa [add_off] using this
      have HC := Lib.hid (word_any w.heap.size (c - 4 * k) _ _ wr hpart (by rw [List.length_take, List.length_drop, HL.out]; omega))
      have hz : wr.cell? ⟨w.heap.size, k, none⟩ = some (.int .u32 0) := by rw [HBX.out.cell k]; exact wcells_zero _ _ (by rw [sched_length]; omega) (by omega)
      have hf : wr.frozen? ⟨w.heap.size, k, none⟩ = false := HBX.out.frozen k
      clear hpart
      go_wp2_with fail
      rw [show 4 * (k + 1) - 4 * k = 4 by omega]
      refine HC.out.mono ?_
      rintro e w1 ⟨rfl, rfl⟩
      rw [word_part l (4 * k) (by rw [HL.out]; omega)]
      clear HC
      go_wp2_with fail
      go_roundw
      case rel =>
        refine ⟨k + 1, by omega, by go_num, ?_, hbw.setCell (Nat.le_refl _) _⟩
        have e : sched l (k + 1) = sched l k ++ [wordAt l (4 * k)] := by simp only [sched]; rw [if_pos hlt]
        rw [e]
        exact wcells_step _ HBX.out (sched_length _ _) (by omega)
      case measure => simp [intOf]; omega
    · obtain rfl : k = 16 := by omega
      clear HZ
      go_wp2_with fail
      rw [show ((16 : Nat) : Int) = 16 from rfl]
      go_loopw [5] (fun i wr => ∃ k : Nat, 16 ≤ k ∧ k ≤ 64 ∧ i = .int .i64 k ∧ Box wr w.heap.size (wcells (sched l k)) 67 ∧ Below w.heap.size w wr) (fun i _ => 64 - (intOf i).toNat)
      case atStart => exact ⟨16, by omega, by omega, rfl, HBX.out, hbw⟩
      case round =>
        clear HBX hbw
        obtain ⟨k, hk1, hk, rfl, hb, hbw⟩ := hrel
        have HBX := Lib.hid hb
        clear hb
        by_cases hlt : k < 64
        · obtain ⟨s, rfl⟩ : ∃ s, k = s + 16 := ⟨k - 16, by omega⟩
          have hg : ∀ i, i < s + 16 → wr.cell? ⟨w.heap.size, i, none⟩ = some (.int .u32 (u ((sched l (s + 16)).getD i 0))) := fun i hi => by
            rw [HBX.out.cell i]; exact wcells_get _ _ (by rw [sched_length]; exact hi)
          have g0 := hg s (by omega)
          have g1 := hg (s + 1) (by omega)
          have g9 := hg (s + 9) (by omega)
          have g14 := hg (s + 14) (by omega)
          have hz : wr.cell? ⟨w.heap.size, s + 16, none⟩ = some (.int .u32 0) := by rw [HBX.out.cell _]; exact wcells_zero _ _ (by rw [sched_length]; omega) (by omega)
          have hf : wr.frozen? ⟨w.heap.size, s + 16, none⟩ = false := HBX.out.frozen _
          have hnx : next (sched l (s + 16)) (s + 16) = (sched l (s + 16)).getD s 0 + (rr ((sched l (s + 16)).getD (s + 1) 0) 7 ^^^ rr ((sched l (s + 16)).getD (s + 1) 0) 18 ^^^ ((sched l (s + 16)).getD (s + 1) 0) >>> 3) + (sched l (s + 16)).getD (s + 9) 0 +
              (rr ((sched l (s + 16)).getD (s + 14) 0) 17 ^^^ rr ((sched l (s + 16)).getD (s + 14) 0) 19 ^^^ ((sched l (s + 16)).getD (s + 14) 0) >>> 10) := by
            unfold next
            rw [show s + 16 - 16 = s by omega, show s + 16 - 15 = s + 1 by omega, show s + 16 - 7 = s + 9 by omega, show s + 16 - 2 = s + 14 by omega]
          have hst : sched l (s + 16 + 1) = sched l (s + 16) ++ [next (sched l (s + 16)) (s + 16)] := by
            show sched l (s + 16) ++ [if s + 16 < 16 then _ else _] = _
            rw [if_neg (by omega)]
          have HNX := Lib.hid (hst.trans (by rw [hnx]))
          clear hg hnx hst
          generalize (sched l (s + 16)).getD s 0 = x0 at *
          generalize (sched l (s + 16)).getD (s + 1) 0 = x1 at *
          generalize (sched l (s + 16)).getD (s + 9) 0 = x9 at *
          generalize (sched l (s + 16)).getD (s + 14) 0 = x14 at *
          have j15 : IntKind.i64.wrap (((s + 16 : Nat) : Int) - 15) = ((s + 1 : Nat) : Int) := (IntWalk.i64_in _ (by omega)).trans (by omega)
          have j2 : IntKind.i64.wrap (((s + 16 : Nat) : Int) - 2) = ((s + 14 : Nat) : Int) := (IntWalk.i64_in _ (by omega)).trans (by omega)
          have j16 : IntKind.i64.wrap (((s + 16 : Nat) : Int) - 16) = ((s : Nat) : Int) := (IntWalk.i64_in _ (by omega)).trans (by omega)
          have j7 : IntKind.i64.wrap (((s + 16 : Nat) : Int) - 7) = ((s + 9 : Nat) : Int) := (IntWalk.i64_in _ (by omega)).trans (by omega)
          have b1 : (0 : Int) ≤ ((s + 1 : Nat) : Int) ∧ ((s + 1 : Nat) : Int) < 64 := by omega
          have b14 : (0 : Int) ≤ ((s + 14 : Nat) : Int) ∧ ((s + 14 : Nat) : Int) < 64 := by omega
          have b9 : (0 : Int) ≤ ((s + 9 : Nat) : Int) ∧ ((s + 9 : Nat) : Int) < 64 := by omega
          have b0 : (0 : Int) ≤ ((s : Nat) : Int) ∧ ((s : Nat) : Int) < 64 := by omega
          have bk : (0 : Int) ≤ ((s + 16 : Nat) : Int) ∧ ((s + 16 : Nat) : Int) < 64 := by omega
          generalize hs1 : s + 1 = s1 at *
          generalize hs9 : s + 9 = s9 at *
          generalize hs14 : s + 14 = s14 at *
          generalize hs16 : s + 16 = K at *
          have HS16 := Lib.hid hs16
          clear hs1 hs9 hs14 hs16
          go_wp2_with fail
          go_quiet (fail)
          go_wp2_with fail
          generalize hwn : wr.drewN nq = wn
          have hbn : Below w.heap.size w wn := by rw [← hwn]; exact hbw.trans ((below_drewN wr nq).mono hbw.size)
          have HBN : Hid (Box wn w.heap.size (wcells (sched l K)) 67) := by rw [← hwn]; exact HBX.out
          have g0' : wn.cell? ⟨w.heap.size, s, none⟩ = some (.int .u32 (u x0)) := by rw [← hwn]; exact g0
          have g9' : wn.cell? ⟨w.heap.size, s9, none⟩ = some (.int .u32 (u x9)) := by rw [← hwn]; exact g9
          have hz' : wn.cell? ⟨w.heap.size, K, none⟩ = some (.int .u32 0) := by rw [← hwn]; exact hz
          have hf' : wn.frozen? ⟨w.heap.size, K, none⟩ = false := by rw [← hwn]; exact hf
          clear hwn g0 g1 g9 g14 hz hf hbw HBX
          refine region_tail_drew 29 (by kernel_rfl) (by kernel_rfl) ?_
          simp only [List.take_succ_cons, List.take_zero, List.drop_succ_cons, List.drop_zero]
          repeat (quiet_step ((go_at_call 52; exact quietL (ror_any _ _ _ (by decide) (by decide)))))
          refine wpQuiet_nil ?_
          intro _ hw'
          obtain ⟨nq2, rfl⟩ := hw'
          go_wp2_with fail
          go_roundw
          case rel =>
            refine ⟨K + 1, by omega, by omega, by go_num, ?_, (hbn.trans ((below_drewN wn nq2).mono hbn.size)).setCell (Nat.le_refl _) _⟩
            rw [HNX.out]
            have hbx : Box (wn.drewN nq2) w.heap.size (wcells (sched l K)) 67 := HBN.out
            simp only [xor_u, shr3_u, shr10_u, add4_u]
            exact wcells_step _ hbx (sched_length _ _) (by omega)
          case measure => simp [intOf]; omega
        · obtain rfl : k = 64 := by omega
          have hbx := HBX.out
          have hsz := wcells_size (sched l 64) (by rw [sched_length]; omega)
          have hi := size64 hsz
          have hone := wcells_one (sched l 64)
          generalize hCS : wcells (sched l 64) = CS at *
          have HCS := Lib.hid hCS
          clear hCS
          have HSZ := Lib.hid hsz
          have HI := Lib.hid hi
          have HONE := Lib.hid hone
          have HBX := Lib.hid hbx
          clear hsz hi hone hbx
          go_wp2_with (first
            | (refine wpList_load_row rfl 67 (.tmp 2) rfl w.heap.size rfl 67 CS (0, 0) _ HBX.out Tryd.underlying67 rfl HI.out ?_)
            | (refine wpList_store_row rfl 67 (.tmp 2) (.tmp 65) rfl w.heap.size CS rfl rfl 67 CS HBX.out HI.out rfl HONE.out ?_))
          refine bodyPost_ret (v := .agg CS) ?_ rfl ?_
          · exact results_cell_row Tryd.results51 _ _ w.heap.size 67 CS (0, 0) _ rfl (Box.setRow HBX.out) Tryd.underlying67 rfl HI.out
          · exact ⟨by rw [HCS.out], hbw.trans (below_grown (setRow_grown wr w.heap.size CS) (Nat.le_refl _) hbw.size)⟩
end Go.Proofs.YtdjlblfpkieenaaDoor
