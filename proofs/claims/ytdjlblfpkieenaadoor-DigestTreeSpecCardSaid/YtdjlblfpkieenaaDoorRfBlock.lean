/- The reference's block. -/
import Derived.Great.BuildSlice
import Derived.Test.YtdjlblfpkieenaaDoorAbsorb
namespace Go.Proofs.YtdjlblfpkieenaaDoor
open Go.RowKit
set_option linter.unusedVariables false

theorem ks_length : ks.length = 64 := rfl
theorem wcells_ks : wcells ks = ((ks.map u).map (Value.int .u32)).toArray := by
  unfold wcells
  rw [ks_length, List.map_append, List.map_map]
  simp only [Nat.sub_self, List.replicate_zero, List.map_nil, List.append_nil]
  rfl

set_option maxHeartbeats 400000 in
set_option maxRecDepth 100000 in
theorem refNumbers_any (w : World) :
    Calls Tryd.prog 48 #[] w fun e w' => e = .returned (.agg (wcells ks)) ∧ Below w.heap.size w w' := by
  have hz : Box (w.alloc (.cells (wcells []) 67)) w.heap.size (wcells []) 67 := Box.new w _ _
  have hbz := (Below.refl w.heap.size w).alloc (Nat.le_refl _) (.cells (wcells []) 67)
  have HBX := Lib.hid hz
  have HBZ := Lib.hid hbz
  have hsz := wcells_size ks (by rw [ks_length]; omega)
  have hi := size64 hsz
  have hone := wcells_one ks
  have hcs := wcells_ks
  generalize hCS : wcells ks = CS at *
  have HSZ := Lib.hid hsz
  have HI := Lib.hid hi
  have HONE := Lib.hid hone
  have HCS := Lib.hid hcs
  clear hsz hi hone hz hbz hcs hCS
  go_enter Tryd.func48, Tryd.ntmps48
  go_wp2_with (first
    | (refine wpList_buildFlatArrTo rfl 67 55 64 _ rfl .u32 (ks.map u) (some 1) rfl (by as_aux_lemma => kernel_rfl) (by as_aux_lemma => kernel_rfl) (by as_aux_lemma => kernel_rfl) (by as_aux_lemma => kernel_rfl) ?_; rw [← HCS.out])
    | (refine wpList_store_row rfl 67 (.tmp 0) (.tmp 1) rfl w.heap.size CS rfl rfl 67 (wcells []) HBX.out HI.out HSZ.out.symm HONE.out ?_))
  refine bodyPost_ret (v := .agg CS) ?_ rfl ?_
  · exact results_cell_row Tryd.results48 _ _ w.heap.size 67 CS (0, 0) _ rfl (Box.setRow HBX.out) Tryd.underlying67 rfl HI.out
  · exact ⟨rfl, HBZ.out.trans (below_grown (setRow_grown _ w.heap.size CS) (Nat.le_refl _) (by simp))⟩

def z8 : S8 := ⟨0, 0, 0, 0, 0, 0, 0, 0⟩
theorem hcells_one (s : S8) : (hcells s).all (·.oneCell') = true := by
  rw [Array.all_eq_true_iff_forall_mem]
  intro x hx
  unfold hcells at hx
  simp only [List.mem_toArray, List.mem_cons, List.not_mem_nil, or_false] at hx
  rcases hx with rfl | rfl | rfl | rfl | rfl | rfl | rfl | rfl <;> rfl
/-- The variables of the reference's block. -/
structure BF (w : World) (h2 h4 h5 : Nat) (s : S8) (L : List U) (wr : World) : Prop where
  lt : w.heap.size ≤ h2 ∧ h2 < h4 ∧ h4 < h5
  out : Below w.heap.size w wr
  b2 : Box wr h2 (hcells s) 56
  b4 : Box wr h4 (hcells z8) 56
  b5 : Box wr h5 (wcells L) 67
theorem BF.drew {w wr : World} {h2 h4 h5 : Nat} {s : S8} {L : List U} (n : Nat) (h : BF w h2 h4 h5 s L wr) : BF w h2 h4 h5 s L (wr.drewN n) :=
  ⟨h.lt, h.out.trans ((below_drewN wr n).mono h.out.size), h.b2, h.b4, h.b5⟩
theorem BF.step {w wr : World} {h2 h4 h5 : Nat} {s : S8} {L : List U} {k : Nat} (x : U) (h : BF w h2 h4 h5 s L wr) (hk : L.length = k) (h64 : k < 64) : BF w h2 h4 h5 s (L ++ [x]) (wr.setCell ⟨h5, k, none⟩ (.int .u32 (u x))) :=
  have hlt := h.lt
  ⟨h.lt, h.out.trans (below_grown (set_grown_at wr _ k _) (by omega) h.out.size), h.b2.grown (set_grown_at wr _ k _) (fun e => by injection e with e; omega), h.b4.grown (set_grown_at wr _ k _) (fun e => by injection e with e; omega), wcells_step x h.b5 hk h64⟩
theorem BF.up {w wr w' : World} {h2 h4 h5 : Nat} {s : S8} {L : List U} (h : BF w h2 h4 h5 s L wr) (hb : Below wr.heap.size wr w') : BF w h2 h4 h5 s L w' :=
  ⟨h.lt, h.out.trans (hb.mono h.out.size), h.b2.below hb, h.b4.below hb, h.b5.below hb⟩
theorem BF.start (w : World) (s : S8) : BF w w.heap.size (w.heap.size + 1) (w.heap.size + 1 + 1) s [] ((((w.alloc (.cells (hcells s) 56)).alloc (.cells (hcells z8) 56)).alloc (.cells (wcells []) 67)).setRow (w.heap.size + 1 + 1) (wcells [])) := by
  have h1 := Box.new w (hcells s) 56
  generalize hw1 : w.alloc (.cells (hcells s) 56) = w1 at *
  have e1 : w1.heap.size = w.heap.size + 1 := by rw [← hw1]; simp
  have h2 := Box.new w1 (hcells z8) 56
  have h12 := h1.alloc (.cells (hcells z8) 56)
  generalize hw2 : w1.alloc (.cells (hcells z8) 56) = w2 at *
  have e2 : w2.heap.size = w.heap.size + 1 + 1 := by rw [← hw2]; simp; omega
  have h3 := Box.new w2 (wcells []) 67
  have h13 := h12.alloc (.cells (wcells []) 67)
  have h23 := h2.alloc (.cells (wcells []) 67)
  have hb : Below w.heap.size w (w2.alloc (.cells (wcells []) 67)) := by
    rw [← hw2, ← hw1]
    exact (((Below.refl w.heap.size w).alloc (Nat.le_refl _) _).alloc (by simp) _).alloc (by simp; omega) _
  rw [e1] at h2 h23
  rw [e2] at h3
  exact ⟨by omega, hb.trans (below_grown (setRow_grown _ _ _) (by omega) (by simp; omega)), h13.grown (setRow_grown _ _ _) (fun e => by injection e with e; omega), h23.grown (setRow_grown _ _ _) (fun e => by injection e with e; omega), Box.setRow h3⟩

set_option maxHeartbeats 1000000 in
set_option maxRecDepth 100000 in
theorem refBlock_any (A : Option Addr) (c : Nat) (l : List UInt8) (s : S8) (w : World) (hB : Bs w.heap.size w A l) (hl : l.length = 64) (h1 : 64 ≤ c) (h2 : c ≤ maxLen) :
    Calls Tryd.prog 32 #[.agg (hcells s), .slice A 64 c] w fun e w' => e = .returned (.agg (hcells (block l s))) ∧ Below w.heap.size w w' := by
  unfold maxLen at h2
  obtain ⟨b, off, rfl, hbl, hc⟩ := hB (by omega)
  have HB := Lib.hid hB
  have HL := Lib.hid hl
  have HF := Lib.hid (BF.start w s)
  have hsz0 := wcells_size [] (by simp)
  have HSZ0 := Lib.hid hsz0
  have HI0 := Lib.hid (size64 hsz0)
  have HONE0 := Lib.hid (wcells_one [])
  have hbx0 : Box (((w.alloc (.cells (hcells s) 56)).alloc (.cells (hcells z8) 56)).alloc (.cells (wcells []) 67)) (w.heap.size + 1 + 1) (wcells []) 67 := by
    have := Box.new ((w.alloc (.cells (hcells s) 56)).alloc (.cells (hcells z8) 56)) (wcells []) 67
    simpa using this
  have HBX0 := Lib.hid hbx0
  clear hB hl hc hsz0 hbx0
  go_enter Tryd.func32, Tryd.ntmps32
  go_wp2_with (first
    | (refine wpList_buildTo rfl 67 #[] rfl (some 22) rfl (wcells []) (by as_aux_lemma => kernel_rfl) ?_)
    | (refine wpList_store_row rfl 67 (.tmp 5) (.tmp 22) rfl (w.heap.size + 1 + 1) (wcells []) rfl rfl 67 (wcells []) HBX0.out HI0.out HSZ0.out.symm HONE0.out ?_))
  generalize hW : World.setRow _ _ _ = W2
  have HF2 : Hid (BF w w.heap.size (w.heap.size + 1) (w.heap.size + 1 + 1) s [] W2) := by rw [← hW]; exact HF.out
  clear hW HF HBX0 HI0 HONE0 HSZ0
  have HBW : Hid (Bs w.heap.size w (some ⟨b, off, none⟩) l) := HB
  generalize w.heap.size + 1 + 1 = h5 at *
  generalize w.heap.size + 1 = h4 at *
  go_loopw [6] (fun i wr => ∃ k : Nat, k ≤ 16 ∧ i = .int .i64 k ∧ BF w w.heap.size h4 h5 s (sched l k) wr) (fun i _ => 16 - (intOf i).toNat)
  case atStart => exact ⟨0, by omega, rfl, HF2.out⟩
  case round =>
    clear HF2
    obtain ⟨k, hk, rfl, hf⟩ := hrel
    have HF := Lib.hid hf
    by_cases hlt : k < 16
    · have hpart : Bs w.heap.size wr (some ⟨b, off + 4 * k, none⟩) ((l.drop (4 * k)).take 4) := by
        have := ((HB.out.below (Nat.le_refl _) hf.out).drop (n := 4 * k)).take (n := 4)
        simpa [add_off] using this
      have HC := Lib.hid (refWord_any w.heap.size (c - 4 * k) _ _ wr hpart (by rw [List.length_take, List.length_drop, HL.out]; omega))
      have hz : wr.cell? ⟨h5, k, none⟩ = some (.int .u32 0) := by rw [hf.b5.cell k]; exact wcells_zero _ _ (by rw [sched_length]; omega) (by omega)
      have hfz : wr.frozen? ⟨h5, k, none⟩ = false := hf.b5.frozen k
      clear hpart hf
      go_wp2_with fail
      rw [show 4 * k + 4 - 4 * k = 4 by omega]
      refine HC.out.mono ?_
      rintro e w1 ⟨rfl, m, rfl⟩
      rw [word_part l (4 * k) (by rw [HL.out]; omega)]
      clear HC
      generalize hwn : wr.drewN m = wn
      have HFN : Hid (BF w w.heap.size h4 h5 s (sched l k) wn) := by rw [← hwn]; exact HF.out.drew m
      have hz' : wn.cell? ⟨h5, k, none⟩ = some (.int .u32 0) := by rw [← hwn]; exact hz
      have hfz' : wn.frozen? ⟨h5, k, none⟩ = false := by rw [← hwn]; exact hfz
      clear hwn hz hfz HF
      go_wp2_with fail
      go_roundw
      case rel =>
        refine ⟨k + 1, by omega, by go_num, ?_⟩
        have e : sched l (k + 1) = sched l k ++ [wordAt l (4 * k)] := by simp only [sched]; rw [if_pos hlt]
        rw [e]
        exact HFN.out.step _ (sched_length _ _) (by omega)
      case measure => simp [intOf]; omega
    · obtain rfl : k = 16 := by omega
      clear hf
      go_wp2_with fail
      rw [show ((16 : Nat) : Int) = 16 from rfl]
      go_loopw [7] (fun i wr => ∃ k : Nat, 16 ≤ k ∧ k ≤ 64 ∧ i = .int .i64 k ∧ BF w w.heap.size h4 h5 s (sched l k) wr) (fun i _ => 64 - (intOf i).toNat)
      case atStart => exact ⟨16, by omega, by omega, rfl, HF.out⟩
      case round =>
        clear HF
        obtain ⟨k, hk1, hk, rfl, hf⟩ := hrel
        have HF := Lib.hid hf
        by_cases hlt : k < 64
        · obtain ⟨q, rfl⟩ : ∃ q, k = q + 16 := ⟨k - 16, by omega⟩
          have hg : ∀ i, i < q + 16 → wr.cell? ⟨h5, i, none⟩ = some (.int .u32 (u ((sched l (q + 16)).getD i 0))) := fun i hi => by
            rw [hf.b5.cell i]; exact wcells_get _ _ (by rw [sched_length]; exact hi)
          have g0 := hg q (by omega)
          have g1 := hg (q + 1) (by omega)
          have g9 := hg (q + 9) (by omega)
          have g14 := hg (q + 14) (by omega)
          have hz : wr.cell? ⟨h5, q + 16, none⟩ = some (.int .u32 0) := by rw [hf.b5.cell _]; exact wcells_zero _ _ (by rw [sched_length]; omega) (by omega)
          have hfz : wr.frozen? ⟨h5, q + 16, none⟩ = false := hf.b5.frozen _
          have hnx : next (sched l (q + 16)) (q + 16) = (sched l (q + 16)).getD q 0 + (rr ((sched l (q + 16)).getD (q + 1) 0) 7 ^^^ rr ((sched l (q + 16)).getD (q + 1) 0) 18 ^^^ ((sched l (q + 16)).getD (q + 1) 0) >>> 3) + (sched l (q + 16)).getD (q + 9) 0 +
              (rr ((sched l (q + 16)).getD (q + 14) 0) 17 ^^^ rr ((sched l (q + 16)).getD (q + 14) 0) 19 ^^^ ((sched l (q + 16)).getD (q + 14) 0) >>> 10) := by
            unfold next
            rw [show q + 16 - 16 = q by omega, show q + 16 - 15 = q + 1 by omega, show q + 16 - 7 = q + 9 by omega, show q + 16 - 2 = q + 14 by omega]
          have hst : sched l (q + 16 + 1) = sched l (q + 16) ++ [next (sched l (q + 16)) (q + 16)] := by
            show sched l (q + 16) ++ [if q + 16 < 16 then _ else _] = _
            rw [if_neg (by omega)]
          have HNX := Lib.hid (hst.trans (by rw [hnx]))
          clear hg hnx hst hf
          generalize (sched l (q + 16)).getD q 0 = x0 at *
          generalize (sched l (q + 16)).getD (q + 1) 0 = x1 at *
          generalize (sched l (q + 16)).getD (q + 9) 0 = x9 at *
          generalize (sched l (q + 16)).getD (q + 14) 0 = x14 at *
          have j15 : IntKind.i64.wrap (((q + 16 : Nat) : Int) - 15) = ((q + 1 : Nat) : Int) := (IntWalk.i64_in _ (by omega)).trans (by omega)
          have j2 : IntKind.i64.wrap (((q + 16 : Nat) : Int) - 2) = ((q + 14 : Nat) : Int) := (IntWalk.i64_in _ (by omega)).trans (by omega)
          have j16 : IntKind.i64.wrap (((q + 16 : Nat) : Int) - 16) = ((q : Nat) : Int) := (IntWalk.i64_in _ (by omega)).trans (by omega)
          have j7 : IntKind.i64.wrap (((q + 16 : Nat) : Int) - 7) = ((q + 9 : Nat) : Int) := (IntWalk.i64_in _ (by omega)).trans (by omega)
          have b1 : (0 : Int) ≤ ((q + 1 : Nat) : Int) ∧ ((q + 1 : Nat) : Int) < 64 := by omega
          have b14 : (0 : Int) ≤ ((q + 14 : Nat) : Int) ∧ ((q + 14 : Nat) : Int) < 64 := by omega
          have b9 : (0 : Int) ≤ ((q + 9 : Nat) : Int) ∧ ((q + 9 : Nat) : Int) < 64 := by omega
          have b0 : (0 : Int) ≤ ((q : Nat) : Int) ∧ ((q : Nat) : Int) < 64 := by omega
          have bk : (0 : Int) ≤ ((q + 16 : Nat) : Int) ∧ ((q + 16 : Nat) : Int) < 64 := by omega
          generalize hs1 : q + 1 = s1 at *
          generalize hs9 : q + 9 = s9 at *
          generalize hs14 : q + 14 = s14 at *
          generalize hs16 : q + 16 = K at *
          have HS16 := Lib.hid hs16
          clear hs1 hs9 hs14 hs16
          go_wp2_with fail
          refine region_tail_drew 29 (by kernel_rfl) (by kernel_rfl) ?_
          simp only [List.take_succ_cons, List.take_zero, List.drop_succ_cons, List.drop_zero]
          repeat (quiet_step ((go_at_call 47; exact quietD (refRor_any _ _ _ (by decide) (by decide)))))
          refine wpQuiet_nil ?_
          intro _ hw'
          obtain ⟨nq2, rfl⟩ := hw'
          generalize hwn : wr.drewN nq2 = wn
          have HFN : Hid (BF w w.heap.size h4 h5 s (sched l K) wn) := by rw [← hwn]; exact HF.out.drew nq2
          have hz' : wn.cell? ⟨h5, K, none⟩ = some (.int .u32 0) := by rw [← hwn]; exact hz
          have hfz' : wn.frozen? ⟨h5, K, none⟩ = false := by rw [← hwn]; exact hfz
          clear hwn g0 g1 g9 g14 hz hfz HF
          go_wp2_with fail
          go_roundw
          case rel =>
            refine ⟨K + 1, by omega, by omega, by go_num, ?_⟩
            rw [HNX.out]
            simp only [xor_u, shr3_u, shr10_u, add4_u]
            exact HFN.out.step _ (sched_length _ _) (by omega)
          case measure => simp [intOf]; omega
        · obtain rfl : k = 64 := by omega
          clear hf
          have HN := Lib.hid (refNumbers_any wr)
          go_wp2_with fail
          rw [show ((64 : Nat) : Int) = 64 from rfl]
          refine HN.out.mono ?_
          rintro e w1 ⟨rfl, hb1⟩
          have HF1 := Lib.hid (HF.out.up hb1)
          clear HN HF hb1
          have HST := Lib.hid (Box.new w1 (wcells []) 67)
          have hszk := wcells_size ks (by rw [ks_length]; omega)
          have hik := size64 hszk
          have honek := wcells_one ks
          have hgk : ∀ i, i < 64 → (wcells ks)[i]? = some (.int .u32 (u (kk i))) := fun i hi => wcells_get _ _ (by rw [ks_length]; exact hi)
          generalize wcells ks = CK at *
          have HSZ := Lib.hid hszk
          have HI := Lib.hid hik
          have HONE := Lib.hid honek
          have HGK := Lib.hid hgk
          clear hszk hik honek hgk
          go_wp2_with (first
            | (refine wpList_store_row rfl 67 (.tmp 10) (.tmp 78) rfl w1.heap.size CK rfl rfl 67 (wcells []) HST.out HI.out HSZ.out.symm HONE.out ?_))
          go_frame
          generalize hW : World.setRow _ _ CK = W2
          have hG : h5 < w1.heap.size := HF1.out.b5.lt
          have hF2 : BF w w.heap.size h4 h5 s (sched l 64) W2 := by
            rw [← hW]
            exact HF1.out.up (((Below.refl w1.heap.size w1).alloc (Nat.le_refl _) (.cells (wcells []) 67)).trans (below_grown (setRow_grown _ w1.heap.size CK) (Nat.le_refl _) (by simp)))
          have hK2 : Box W2 w1.heap.size CK 67 := by rw [← hW]; exact Box.setRow HST.out
          clear hW HST HF1
          generalize w1.heap.size = G at *
          have hbk : block l s = add8 s (rounds (sched l 64) 64 s) := rfl
          have HBK := Lib.hid hbk
          have hget : ∀ i, i < 64 → (wcells (sched l 64))[i]? = some (.int .u32 (u ((sched l 64).getD i 0))) := fun i hi => wcells_get _ _ (by rw [sched_length]; exact hi)
          have HG := Lib.hid hget
          clear hbk hget
          generalize sched l 64 = ws at *
          have HF2 := Lib.hid hF2
          have HK2 := Lib.hid hK2
          have s0 : W2.cell? ⟨w.heap.size, 0, none⟩ = some (.int .u32 (u s.a)) := hF2.b2.cell 0
          have s1 : W2.cell? ⟨w.heap.size, 1, none⟩ = some (.int .u32 (u s.b)) := hF2.b2.cell 1
          have s2 : W2.cell? ⟨w.heap.size, 2, none⟩ = some (.int .u32 (u s.c)) := hF2.b2.cell 2
          have s3 : W2.cell? ⟨w.heap.size, 3, none⟩ = some (.int .u32 (u s.d)) := hF2.b2.cell 3
          have s4 : W2.cell? ⟨w.heap.size, 4, none⟩ = some (.int .u32 (u s.e)) := hF2.b2.cell 4
          have s5 : W2.cell? ⟨w.heap.size, 5, none⟩ = some (.int .u32 (u s.f)) := hF2.b2.cell 5
          have s6 : W2.cell? ⟨w.heap.size, 6, none⟩ = some (.int .u32 (u s.g)) := hF2.b2.cell 6
          have s7 : W2.cell? ⟨w.heap.size, 7, none⟩ = some (.int .u32 (u s.h)) := hF2.b2.cell 7
          clear hF2 hK2
          go_quiet (fail)
          generalize hwn : W2.drewN nq = W3
          have HF3 : Hid (BF w w.heap.size h4 h5 s ws W3) := by rw [← hwn]; exact HF2.out.drew nq
          have HK3 : Hid (Box W3 G CK 67) := by rw [← hwn]; exact HK2.out
          clear hwn s0 s1 s2 s3 s4 s5 s6 s7 HF2 HK2
          go_wp2_with fail
          go_loopw [11, 12, 13, 14, 15, 16, 17, 18, 19] (fun v5 v6 v7 v8 v9 v10 v11 v12 i wr => ∃ (t : Nat) (z : S8), t ≤ 64 ∧ z = rounds ws t s ∧ i = .int .i64 t ∧ v5 = .int .u32 (u z.a) ∧ v6 = .int .u32 (u z.b) ∧ v7 = .int .u32 (u z.c) ∧ v8 = .int .u32 (u z.d) ∧
              v9 = .int .u32 (u z.e) ∧ v10 = .int .u32 (u z.f) ∧ v11 = .int .u32 (u z.g) ∧ v12 = .int .u32 (u z.h) ∧ BF w w.heap.size h4 h5 s ws wr ∧ Box wr G CK 67) (fun _ _ _ _ _ _ _ _ i _ => 64 - (intOf i).toNat)
          case atStart => exact ⟨0, s, by omega, rfl, rfl, rfl, rfl, rfl, rfl, rfl, rfl, rfl, rfl, HF3.out, HK3.out⟩
          case round =>
            clear HF3 HK3
            obtain ⟨t, z, ht, hz, rfl, rfl, rfl, rfl, rfl, rfl, rfl, rfl, rfl, hf, hk⟩ := hrel
            have HZ := Lib.hid hz
            clear hz
            by_cases hlt : t < 64
            · have hkc : wr.cell? ⟨G, t, none⟩ = some (.int .u32 (u (kk t))) := by rw [hk.cell t]; exact HGK.out t hlt
              have hwc : wr.cell? ⟨h5, t, none⟩ = some (.int .u32 (u (ws.getD t 0))) := by rw [hf.b5.cell t]; exact HG.out t hlt
              have hrn : rounds ws (t + 1) s = rnd (kk t) (ws.getD t 0) z := by rw [HZ.out]; rfl
              have HRN := Lib.hid hrn
              have HF := Lib.hid hf
              have HK := Lib.hid hk
              clear hrn hf hk
              generalize kk t = kt at *
              generalize ws.getD t 0 = wt at *
              obtain ⟨za, zb, zc, zd, ze, zf, zg, zh⟩ := z
              simp only
              have hsg : IntKind.u32.signed = false := rfl
              go_wp2_with fail
              go_quiet ((go_at_call 47; exact quietD (refRor_any _ _ _ (by decide) (by decide))))
              generalize hwn : wr.drewN nq = wn
              have HFN : Hid (BF w w.heap.size h4 h5 s ws wn) := by rw [← hwn]; exact HF.out.drew nq
              have HKN : Hid (Box wn G CK 67) := by rw [← hwn]; exact HK.out
              clear hwn HF HK hkc hwc hsg
              simp only [xor_u, and_u, notm_u, addm_u, add3_u, add4_u]
              rw [show zh + (rr ze 6 ^^^ rr ze 11 ^^^ rr ze 25) + (ze &&& zf ^^^ ~~~ze &&& zg) + kt + wt = pOf kt wt ⟨za, zb, zc, zd, ze, zf, zg, zh⟩ from rfl]
              generalize hp : pOf kt wt ⟨za, zb, zc, zd, ze, zf, zg, zh⟩ = p
              have HP := Lib.hid hp
              clear hp
              go_wp2_with (first | (go_at_call 47; (with_reducible refine (refRor_any _ _ _ (by decide) (by decide)).mono ?_); rintro e w' ⟨rfl, m, rfl⟩))
              go_roundw
              case rel =>
                refine ⟨t + 1, rnd kt wt ⟨za, zb, zc, zd, ze, zf, zg, zh⟩, by omega, HRN.out.symm, by go_num, ?_, rfl, rfl, rfl, ?_, rfl, rfl, rfl, ?_, ?_⟩
                · show _ = Value.int .u32 (u (pOf kt wt ⟨za, zb, zc, zd, ze, zf, zg, zh⟩ + qOf ⟨za, zb, zc, zd, ze, zf, zg, zh⟩))
                  rw [HP.out]
                  unfold qOf
                  simp only [xor_u, and_u, addm_u]
                · show _ = Value.int .u32 (u (zd + pOf kt wt ⟨za, zb, zc, zd, ze, zf, zg, zh⟩))
                  rw [HP.out, addm_u]
                · first | exact HFN.out.drew _ | exact (HFN.out.drew _).drew _ | exact ((HFN.out.drew _).drew _).drew _
                · exact HKN.out
              case measure => simp [intOf]; omega
            · obtain rfl : t = 64 := by omega
              have hbk := HBK.out
              rw [← HZ.out] at hbk
              have HBK := Lib.hid hbk
              have s0 : wr.cell? ⟨w.heap.size, 0, none⟩ = some (.int .u32 (u s.a)) := hf.b2.cell 0
              have s1 : wr.cell? ⟨w.heap.size, 1, none⟩ = some (.int .u32 (u s.b)) := hf.b2.cell 1
              have s2 : wr.cell? ⟨w.heap.size, 2, none⟩ = some (.int .u32 (u s.c)) := hf.b2.cell 2
              have s3 : wr.cell? ⟨w.heap.size, 3, none⟩ = some (.int .u32 (u s.d)) := hf.b2.cell 3
              have s4 : wr.cell? ⟨w.heap.size, 4, none⟩ = some (.int .u32 (u s.e)) := hf.b2.cell 4
              have s5 : wr.cell? ⟨w.heap.size, 5, none⟩ = some (.int .u32 (u s.f)) := hf.b2.cell 5
              have s6 : wr.cell? ⟨w.heap.size, 6, none⟩ = some (.int .u32 (u s.g)) := hf.b2.cell 6
              have s7 : wr.cell? ⟨w.heap.size, 7, none⟩ = some (.int .u32 (u s.h)) := hf.b2.cell 7
              have HF := Lib.hid hf
              have a0 := addm_u s.a z.a
              have a1 := addm_u s.b z.b
              have a2 := addm_u s.c z.c
              have a3 := addm_u s.d z.d
              have a4 := addm_u s.e z.e
              have a5 := addm_u s.f z.f
              have a6 := addm_u s.g z.g
              have a7 := addm_u s.h z.h
              have hs8 : (Tryd.prog.info? 56).map (·.size) = some (hcells (add8 s z)).size := by kernel_rfl
              have HS8 := Lib.hid hs8
              have hlt4 := hf.lt
              have HONE8 := Lib.hid (hcells_one (add8 s z))
              clear hbk hf hk HZ hlt HG HGK HI HONE HSZ hs8
              go_wp2_with (first
                | (refine wpList_store_row rfl 56 (.tmp 4) (.tmp 190) rfl h4 (hcells (add8 s z)) rfl rfl 56 (hcells z8) HF.out.b4 HS8.out rfl HONE8.out ?_))
              refine bodyPost_ret (v := .agg (hcells (add8 s z))) ?_ rfl ?_
              · exact results_cell_row Tryd.results32 _ _ h4 56 (hcells (add8 s z)) (0, 0) _ rfl (Box.setRow HF.out.b4) Tryd.underlying56 rfl HS8.out
              · exact ⟨by rw [HBK.out], HF.out.out.trans (below_grown (setRow_grown wr h4 _) (by omega) HF.out.out.size)⟩
end Go.Proofs.YtdjlblfpkieenaaDoor
