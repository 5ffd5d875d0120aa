/- The reference's Sum. -/
import Derived.Test.YtdjlblfpkieenaaDoorRfPad
import Derived.Test.YtdjlblfpkieenaaDoorRfBlock
import Derived.Test.YtdjlblfpkieenaaDoorQl
namespace Go.Proofs.YtdjlblfpkieenaaDoor
open Go.RowKit Go.Sort
set_option linter.unusedVariables false

theorem pad_length (l : List UInt8) : (pad l).length = 64 * ((pad l).length / 64) := by
  have e : (pad l).length = l.length + 1 + (gap l.length + 8) := by simp [pad, be_length]; omega
  have : gap l.length = (119 - l.length % 64) % 64 := rfl
  omega
theorem pad_le (l : List UInt8) : (pad l).length ≤ l.length + 72 := by
  have e : (pad l).length = l.length + 1 + (gap l.length + 8) := by simp [pad, be_length]; omega
  have : gap l.length = (119 - l.length % 64) % 64 := rfl
  omega
theorem pad_nine (l : List UInt8) : 9 ≤ (pad l).length := by
  have e : (pad l).length = l.length + 1 + (gap l.length + 8) := by simp [pad, be_length]; omega
  omega
theorem hcells_list (z : S8) : hcells z = (hcells z).toList.toArray := rfl
theorem hcells_get (z : S8) (i : Nat) (h : i < 8) : (hcells z)[i]? = some (.int .u32 (u (hg z i))) := by
  match i, h with
  | 0, _ => rfl
  | 1, _ => rfl
  | 2, _ => rfl
  | 3, _ => rfl
  | 4, _ => rfl
  | 5, _ => rfl
  | 6, _ => rfl
  | 7, _ => rfl
theorem hsize8 (z : S8) : (Tryd.prog.info? 56).map (·.size) = some (hcells z).toList.length := by
  show _ = some 8
  kernel_rfl

theorem hsize8s (z : S8) : (Tryd.prog.info? 56).map (·.size) = some (hcells z).size := hsize8 z
theorem hsize_eq (z z' : S8) : (hcells z).size = (hcells z').size := rfl

/-- What a call of the reference's block does in grown worlds. -/
theorem block_grown (A : Option Addr) (m c : Nat) (hm : m = 64) (l : List UInt8) (s : S8) (w : World) (hB : Bs w.heap.size w A l) (hl : l.length = 64) (h1 : 64 ≤ c) (h2 : c ≤ maxLen) (n : Nat) (os : Array Obj) :
    Calls Tryd.prog 32 #[.agg (hcells s), .slice A m c] (grow (redrawn w n) os) fun e w' => e = .returned (.agg (hcells (block l s))) ∧ ∃ p : Regrown, w' = grow (redrawn w p.d) p.os := by
  subst hm
  exact Calls.regrownAll (fun w' hb => refBlock_any A c l s w' (hB.up hb) hl h1 h2) n os

structure SF (w : World) (h2 h3 : Nat) (A : Option Addr) (p : List UInt8) (c : Nat) (z : S8) (wr : World) : Prop where
  lt : w.heap.size ≤ h2 ∧ h2 < h3
  out : Below w.heap.size w wr
  b2 : Box wr h2 (bcells []) 26
  b3 : Box wr h3 (hcells z) 56
  sl : Sl wr A p c
  ne : ∀ b off, A = some ⟨b, off, none⟩ → h3 < b
theorem SF.up {w wr w' : World} {h2 h3 : Nat} {A : Option Addr} {p : List UInt8} {c : Nat} {z : S8} (h : SF w h2 h3 A p c z wr) (hb : Below wr.heap.size wr w') : SF w h2 h3 A p c z w' :=
  ⟨h.lt, h.out.trans (hb.mono h.out.size), h.b2.below hb, h.b3.below hb, h.sl.up hb, h.ne⟩
theorem SF.set {w wr : World} {h2 h3 : Nat} {A : Option Addr} {p : List UInt8} {c : Nat} {z : S8} (z' : S8) (h : SF w h2 h3 A p c z wr) : SF w h2 h3 A p c z' (wr.setRow h3 (hcells z')) :=
  have hlt := h.lt
  ⟨h.lt, h.out.trans (below_grown (setRow_grown _ _ _) (by omega) h.out.size), h.b2.grown (setRow_grown _ _ _) (fun e => by injection e with e; omega), Box.setRow h.b3,
    ⟨(h.sl.1.keep (setRow_grown _ _ _) (fun b off e he => by have := h.ne b off e; injection he with he; omega)).more (by simp), h.sl.2⟩, h.ne⟩

set_option maxHeartbeats 1000000 in
set_option maxRecDepth 100000 in
theorem refSum_any (A : Option Addr) (c : Nat) (l : List UInt8) (w : World) (hS : Sl w A l c) (hl : l.length ≤ 100000) :
    Calls Tryd.prog 13 #[.slice A l.length c] w (HashPost l w) := by
  have hb0 := ((Below.refl w.heap.size w).alloc (Nat.le_refl _) (.cells (bcells []) 26)).alloc (by simp) (.cells (hcells z8) 56)
  have hx2 := (Box.new w (bcells []) 26).alloc (.cells (hcells z8) 56)
  have hx3 := Box.new (w.alloc (.cells (bcells []) 26)) (hcells z8) 56
  rw [World.size_alloc] at hx3
  have HB0 := Lib.hid hb0
  have HX2 := Lib.hid hx2
  have HX3 := Lib.hid hx3
  have HS := Lib.hid hS
  have HI8 : Hid ((Tryd.prog.info? 56).map (·.size) = some (hcells s0).size) := Lib.hid (by show _ = some 8; kernel_rfl)
  have HONE8 := Lib.hid (hcells_one s0)
  clear hb0 hx2 hx3 hS
  go_enter Tryd.func13, Tryd.ntmps13
  go_wp2_with (first | (refine wpList_store_row rfl 56 (.tmp 3) (.tmp 8) rfl (w.heap.size + 1) (hcells s0) rfl rfl 56 (hcells z8) HX3.out HI8.out rfl HONE8.out ?_))
  generalize hW : World.setRow _ _ _ = W1
  have hb1 : Below w.heap.size w W1 := by rw [← hW]; exact HB0.out.trans (below_grown (setRow_grown _ _ _) (by omega) (by simp; omega))
  have hx2 : Box W1 w.heap.size (bcells []) 26 := by rw [← hW]; exact HX2.out.grown (setRow_grown _ _ _) (fun e => by injection e with e; omega)
  have hx3 : Box W1 (w.heap.size + 1) (hcells s0) 56 := by rw [← hW]; exact Box.setRow HX3.out
  clear hW HB0 HX2 HX3 HI8 HONE8
  refine (refPadded_any A c l W1 (HS.out.up hb1) hl).mono ?_
  rintro e W2 ⟨A', c', rfl, hrow⟩
  have hsl := hrow.sl
  have hb2 := hrow.2
  have hne : ∀ b off, A' = some ⟨b, off, none⟩ → w.heap.size + 1 < b := by
    intro b off hA
    subst hA
    have h1 := hx3.lt
    have h2 : 0 < (pad l).length := by have := pad_nine l; omega
    rcases hrow.1.2 with ⟨hv, _⟩ | ⟨g, cap, cur, hv, hbg, _⟩
    · injection hv with hv
      cases hv
    · injection hv with hv
      injection hv with hv
      injection hv with hv
      omega
  have hF : SF w w.heap.size (w.heap.size + 1) A' (pad l) c' s0 W2 := ⟨by omega, bthen hb1 hb2, hx2.below hb2, hx3.below hb2, hsl, hne⟩
  have HF := Lib.hid hF
  have hpl := pad_length l
  have hple := pad_le l
  have hsha : sha l = bytes8 (blocks ((pad l).length / 64) (pad l) s0) := rfl
  have h64 := pad_nine l
  clear hb1 hx2 hx3 hsl hb2 hF HS hrow hne
  generalize w.heap.size + 1 = h3 at *
  generalize pad l = p at *
  generalize hN : p.length / 64 = N at *
  obtain ⟨M, hM⟩ : ∃ M, p.length = M := ⟨_, rfl⟩
  rw [hM] at hpl hple h64
  rw [hM]
  have HPL := Lib.hid hpl
  have HPM := Lib.hid hM
  have HSHA := Lib.hid hsha
  have hM6 : M ≤ 200000 := by omega
  clear hN hM hsha hple hl hpl
  go_wp2_with fail
  go_loopw [5] (fun i wr => ∃ (k a : Nat) (z : S8), k ≤ N ∧ a = 64 * k ∧ i = .int .i64 a ∧ SF w w.heap.size h3 A' p c' z wr ∧ blocks N p s0 = blocks (N - k) (p.drop a) z) (fun i _ => M - (intOf i).toNat)
  case atStart => exact ⟨0, 0, s0, Nat.zero_le _, rfl, rfl, HF.out, by rw [Nat.sub_zero, List.drop_zero]⟩
  case round =>
    clear HF
    obtain ⟨k, a, z, hk, ha, rfl, hf, hbl⟩ := hrel
    have HBL := Lib.hid hbl
    have HF := Lib.hid hf
    have hmn := HPL.out
    clear hbl hf
    by_cases hlt : a < M
    · obtain ⟨b, off, rfl, hbh, hcell⟩ := HF.out.sl.1 (by rw [HPM.out]; omega)
      have hpart : Bs wr.heap.size wr (some ⟨b, off + a, none⟩) ((p.drop a).take 64) := by
        have := (HF.out.sl.1.drop (n := a)).take (n := 64)
        simpa [add_off] using this
      have hlen : ((p.drop a).take 64).length = 64 := by rw [List.length_take, List.length_drop, HPM.out]; omega
      have hc1 := HF.out.sl.2.1
      have hc2 := HF.out.sl.2.2.1
      rw [HPM.out] at hc1
      have cB := block_grown _ 64 (c' - a) rfl _ z wr hpart hlen (by omega) (by omega)
      have hnk : N - k = (N - (k + 1)) + 1 := by omega
      have HBL2 : Hid (blocks N p s0 = blocks (N - (k + 1)) (p.drop (a + 64)) (block ((p.drop a).take 64) z)) := Lib.hid (by rw [HBL.out, hnk, blocks_step, List.drop_drop])
      generalize block ((p.drop a).take 64) z = z' at *
      have HA := Lib.hid ha
      have HK2 : Hid (k + 1 ≤ N ∧ a + 64 = 64 * (k + 1)) := Lib.hid (by omega)
      have hca : ¬ (c' = a) := by omega
      have j64 : IntKind.i64.wrap ((a : Int) + 64) = ((a + 64 : Nat) : Int) := (IntWalk.i64_in _ (by omega)).trans (by omega)
      have i0 : (0 : Int) ≤ (a : Int) + 64 := by omega
      have i1 : (a : Int) + 64 ≤ (c' : Int) := by omega
      have i2 : ((a : Int) + 64).toNat = a + 64 := by omega
      have HQ := Lib.hid (range_regrown (Box.range (show Box wr h3 (hcells z).toList.toArray 56 from HF.out.b3)))
      have HIQ := Lib.hid (hsize8 z)
      clear hpart hcell hlen hnk hmn ha hk
      go_wp2_with fail
      refine region_tail_below 7 (by kernel_rfl) (by kernel_rfl) ?_
      simp only [List.take_succ_cons, List.take_zero, List.drop_succ_cons, List.drop_zero]
      refine qload rfl 56 (.tmp 3) rfl h3 0 rfl (hcells z).toList _ HQ.out Tryd.underlying56 rfl HIQ.out ?_
      simp only [Act.put, List.setIfInBounds_toArray, List.set_cons_succ, List.set_cons_zero]
      iterate 5 (quiet_step (fail))
      quiet_step (exact cB _ _)
      refine wpQuiet_nil ?_
      intro w2 hw'
      obtain ⟨⟨dq, osq⟩, hw''⟩ := hw'
      subst hw''
      have hfq := HF.out.up (below_regrown wr dq osq)
      generalize grow (redrawn wr dq) osq = Wq at *
      have HFQ := Lib.hid hfq
      have HI8 := Lib.hid (hsize8s z')
      have HE8 := Lib.hid (hsize_eq z z')
      have HONE8 := Lib.hid (hcells_one z')
      clear cB hfq HQ HIQ HF
      go_wp2_with (first | (refine wpList_store_row rfl 56 (.tmp 3) (.tmp 23) rfl h3 (hcells z') rfl rfl 56 (hcells z) HFQ.out.b3 HI8.out HE8.out HONE8.out ?_))
      go_roundw
      case rel => exact ⟨k + 1, a + 64, z', HK2.out.1, HK2.out.2, by go_num, HFQ.out.set z', HBL2.out⟩
      case measure => simp [intOf]; omega
    · have hkn : k = N := by omega
      have hfin : blocks N p s0 = z := by rw [HBL.out, hkn, Nat.sub_self, blocks_zero]
      have hshz : sha l = bytes8 z := by rw [HSHA.out, hfin]
      have HSZ := Lib.hid hshz
      have hnew := Box.new wr (bcells []) 26
      have hbnew := (Below.refl wr.heap.size wr).alloc (Nat.le_refl _) (.cells (bcells []) 26)
      have HNEW := Lib.hid hnew
      have HFN := Lib.hid (HF.out.up (hbnew.trans (below_grown (setRow_grown _ wr.heap.size (bcells [])) (Nat.le_refl _) (by simp))))
      have hsz0 := bcells_size [] (by simp)
      have HI0 := Lib.hid (size32 hsz0)
      have HZ0 := Lib.hid hsz0
      have HONE0 := Lib.hid (bcells_one [])
      have hh3 : h3 < wr.heap.size := HF.out.b3.lt
      clear hkn hfin hshz hnew hbnew hsz0 HBL HSHA HF ha hk hmn
      go_wp2_with (first
        | (refine wpList_buildTo rfl 26 #[] rfl (some 24) rfl (bcells []) (by as_aux_lemma => kernel_rfl) ?_)
        | (refine wpList_store_row rfl 26 (.tmp 6) (.tmp 24) rfl wr.heap.size (bcells []) rfl rfl 26 (bcells []) HNEW.out HI0.out rfl HONE0.out ?_))
      generalize hW : World.setRow _ _ _ = W3
      have HF3 : Hid (SF w w.heap.size h3 A' p c' z W3) := by rw [← hW]; exact HFN.out
      have HB6 : Hid (Box W3 wr.heap.size (bcells []) 26) := by rw [← hW]; exact Box.setRow HNEW.out
      clear hW HNEW HFN HI0 HZ0 HONE0
      generalize wr.heap.size = h6 at *
      have HGET := Lib.hid (bytes8_get z)
      have HLEN := Lib.hid (bytes8_length z)
      generalize hBY : bytes8 z = BY at *
      have HBY := Lib.hid hBY
      clear hBY
      have HCG := Lib.hid (hcells_get z)
      have h6lt : Hid (h6 = h6) := rfl
      go_loopw [7] (fun i wr => ∃ k : Nat, k ≤ 32 ∧ i = .int .i64 k ∧ Below w.heap.size w wr ∧ Box wr w.heap.size (bcells []) 26 ∧ Box wr h3 (hcells z) 56 ∧ Box wr h6 (bcells (BY.take k)) 26) (fun i _ => 32 - (intOf i).toNat)
      case atStart => exact ⟨0, by omega, rfl, HF3.out.out, HF3.out.b2, HF3.out.b3, by rw [List.take_zero]; exact HB6.out⟩
      case round =>
        have hlt23 := HF3.out.lt
        clear HF3 HB6
        obtain ⟨k, hk, rfl, hbw, hf2, hf3, hb⟩ := hrel
        have HF2 := Lib.hid hf2
        have HF3 := Lib.hid hf3
        have HB := Lib.hid hb
        by_cases hlt2 : k < 32
        · obtain ⟨q, r, hq, hr, hkq⟩ : ∃ q r, q < 8 ∧ r < 4 ∧ k = 4 * q + r := ⟨k / 4, k % 4, by omega, by omega, by omega⟩
          have hcell : wr.cell? ⟨h3, q, none⟩ = some (.int .u32 (u (hg z q))) := by rw [hf3.cell q]; exact HCG.out q hq
          have hlen : (BY.take k).length = k := by rw [List.length_take, HLEN.out]; omega
          have hz : wr.cell? ⟨h6, k, none⟩ = some (.int .u8 0) := by rw [hb.cell _]; exact bcells_zero _ _ (by rw [hlen]; omega) (by omega)
          have hfz : wr.frozen? ⟨h6, k, none⟩ = false := hb.frozen _
          have HG : Hid (BY[k]? = some (byteOf (hg z q) r)) := Lib.hid (by rw [hkq]; exact HGET.out q r hq hr)
          have e1 : (k : Int) / 4 = (q : Int) := by omega
          have e2 : (k : Int) % 4 = (r : Int) := by omega
          have e3 : (24 : Int) - 8 * (r : Int) = ((8 * (3 - r) : Nat) : Int) := by omega
          have HLK := Lib.hid hlen
          generalize hg z q = x at *
          have hq0 : (0 : Int) ≤ (q : Int) ∧ (q : Int) < 8 := by omega
          have hr0 : (0 : Int) ≤ (r : Int) ∧ (r : Int) < 4 := by omega
          clear hf2 hf3 hb hlen hkq
          go_wp2_with fail
          go_roundw
          case rel =>
            refine ⟨k + 1, by omega, by go_num, hbw.trans (below_grown (set_grown_at wr h6 k _) (by omega) hbw.size), HF2.out.grown (set_grown_at wr h6 k _) (fun e => by injection e with e; omega), HF3.out.grown (set_grown_at wr h6 k _) (fun e => by injection e with e; omega), ?_⟩
            rw [byte_u, take_next HG.out]
            exact bcells_step _ HB.out HLK.out (by omega)
          case measure => simp [intOf]; omega
        · obtain rfl : k = 32 := by omega
          have hb' := HB.out
          rw [List.take_of_length_le (by rw [HLEN.out]; omega), bcells_full _ HLEN.out] at hb'
          have hsz : (dcells BY).size = 32 := by simp [dcells, HLEN.out]
          have hi := size32 hsz
          have hone : (dcells BY).all (·.oneCell') = true := by rw [← bcells_full _ HLEN.out]; exact bcells_one _
          have hfin : HashPost l w (.returned (.agg (dcells BY))) (wr.setRow w.heap.size (dcells BY)) := ⟨by rw [HSZ.out], hbw.trans (below_grown (setRow_grown wr w.heap.size _) (Nat.le_refl _) hbw.size)⟩
          generalize hCS : dcells BY = CS at *
          have HFIN := Lib.hid hfin
          have HI := Lib.hid hi
          have HONE := Lib.hid hone
          have HZ := Lib.hid hsz
          have HBX := Lib.hid hb'
          clear hsz hi hone hb hb' hCS HB HGET HCG hfin hf2 hf3
          go_wp2_with (first
            | (refine wpList_load_row rfl 26 (.tmp 6) rfl h6 rfl 26 CS (0, 0) _ HBX.out Tryd.underlying26 rfl HI.out ?_)
            | (refine wpList_store_row rfl 26 (.tmp 2) (.tmp 41) rfl w.heap.size CS rfl rfl 26 (bcells []) HF2.out HI.out HZ.out.symm HONE.out ?_))
          refine bodyPost_ret (v := .agg CS) ?_ rfl ?_
          · exact results_cell_row Tryd.results13 _ _ w.heap.size 26 CS (0, 0) _ rfl (Box.setRow HF2.out) Tryd.underlying26 rfl HI.out
          · exact HFIN.out
end Go.Proofs.YtdjlblfpkieenaaDoor
