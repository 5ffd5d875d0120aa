/- Clone, performed. -/
import Derived.Test.YtiphajgmjmjanaaCk
import Derived.Test.YtiphajgmjmjanaaDr
import Derived.Test.YtiphajgmjmjanaaSec
import Derived.Test.YtiphajgmjmjanaaPlT
import Derived.Deep.RegionHeld3
import Derived.IntWalk
import Derived.LoopTactic
import Derived.Lib.BufferMore
namespace Go.Proofs.Ytiphajgmjmjanaa
open Go.RowKit
set_option linter.unusedVariables false

theorem own_rows {base : Nat} (w : World) (hb : base ≤ w.heap.size) : (w.alloc (.cells #[] 35)).ownsRow base 35 1 (.slice (some ⟨w.heap.size, 0, none⟩) 0 0) 0 [] :=
  World.ownsRow_lit w #[] 0 hb (by unfold maxLen; omega) rfl

def ClonePost (lo : Nat) (l : List (List UInt8)) (w : World) (e : Ending) (w' : World) : Prop := ∃ g cg, e = .returned (.slice (some ⟨g, 0, none⟩) l.length cg) ∧ OwnR lo w.heap.size w' g cg l ∧ Below w.heap.size w w'
set_option maxHeartbeats 1000000 in
set_option maxRecDepth 100000 in
theorem clone_any (A : Option Addr) (c : Nat) (l : List (List UInt8)) (w0 w : World) (hS : RR w0 A l c) (hb0 : Below w0.heap.size w0 w) (hp : 0 < l.length) (hl : l.length ≤ 1000000) (h0 : ∀ s ∈ l, 0 < s.length) :
    Calls Try.prog 41 #[.slice A l.length c] w (ClonePost w0.heap.size l w) := by
  obtain ⟨i0, hi0, hz0, hz1, hz2⟩ := info_parts rw_info
  obtain ⟨b, off, rfl, hb, _⟩ := hS.1 hp
  have hb1 : Below w.heap.size w (w.alloc (.cells #[] 35)) := (Below.refl _ w).alloc (Nat.le_refl _) _
  obtain ⟨vs, v1, v2, v3, v40⟩ := hS.cells
  have v4 : ∀ j u, vs[j]? = some u → (w.alloc (.cells #[] 35)).cell? ((⟨b, off, none⟩ : Addr).add j) = some u := fun j u hu => by
    have := v40 j u hu
    rw [add_off] at this ⊢
    exact ((hb1.cell (p := ⟨b, off + j, none⟩) (Nat.lt_of_lt_of_le hb hb0.size)).trans (hb0.cell (p := ⟨b, off + j, none⟩) hb)).trans this
  have HV := Lib.hid (And.intro v2 (And.intro v3 v4))
  have HB := Lib.hid (And.intro hb1 h0)
  have HB0 := Lib.hid hb0
  clear hb0
  unfold ClonePost
  obtain ⟨n, hn⟩ : ∃ n, l.length = n := ⟨_, rfl⟩
  rw [hn] at v1 hl hp ⊢
  have HN := Lib.hid hn
  have HV1 := Lib.hid v1
  clear hS v1 v2 v3 v4 hb1 hn
  have hnil : ∀ W : World, (binOp .eql 22 (.slice (some ⟨b, off, none⟩) n c) (.slice none 0 0)).run Try.prog W = .ok (.bool false) W := fun W => Lib.run_eql_slice_some_nil W _ _ _ Try.underlying22
  have HO := Lib.hid (own_rows w (Nat.le_refl w.heap.size))
  go_enter Try.func41, Try.ntmps41
  go_wp2_with (refine wpList_append_lies _ rfl (.tmp 5) (.tmp 6) 22 rfl w.heap.size 35 i0 (.slice none 0 0) 1 24 Try.underlying22 hi0 hz0 hz1 hz2 rfl (by decide) (.slice (some ⟨w.heap.size, 0, none⟩) 0 0) 0 [] rfl HO.out ⟨b, off, none⟩ n c vs rfl (by rw [HV1.out, Nat.mul_one]) HV.out.2.2 HV.out.1 hp (le_maxLen (by omega)) (by omega) (by simp) _ rfl ?_; intro g cg w1 ho hg hat hlt)
  go_ret
  have hbw : Below w.heap.size w w1 := HB.out.1.grown hg HB.out.1.size (fun k e => by
    have e2 : some w.heap.size = some k := e
    injection e2 with e2
    omega)
  refine ⟨g, cg, rfl, ?_, hbw⟩
  rw [Nat.zero_add, ← HN.out, List.nil_append] at ho
  exact OwnR.of_copy HB0.out hbw ho HV.out.2.1 HB.out.2

def PerfPost (s : List (List UInt8)) (x : Int) (q : Bool) (w : World) (e : Ending) (w' : World) : Prop := ∃ g cg, w.heap.size ≤ g ∧ e = .returned (.agg #[.slice (some ⟨g, 0, none⟩) s.length cg, .slice none 0 0, .int .i64 x, .bool q]) ∧ OwnR w.heap.size w.heap.size w' g cg s ∧ Below w.heap.size w w'
set_option maxHeartbeats 4000000 in
set_option maxRecDepth 100000 in
theorem perf_any (d : Dk) (A B : Option Addr) (c k0 n : Nat) (w : World) (hS : DkIn w d A c B k0) (hv : vld d = true) (hn : n ≤ d.pend.length) :
    Calls Try.prog 37 #[dkv d A c B k0, .int .i64 (n : Int)] w (PerfPost (perf d.secs (d.pend.take n)) d.left d.stop w) := by
  obtain ⟨⟨f1, f2⟩, f3, f4, f5, f6⟩ := vld_facts.1 hv
  have hb1 := (Below.refl w.heap.size w).alloc (Nat.le_refl _) (.cells (dkc d A c B k0) 25)
  have hD1 : DBox (w.alloc (.cells (dkc d A c B k0) 25)) w.heap.size d A c B k0 := Box.new w _ _
  have hb2 := hb1.alloc (by simp) (.cells (dkc dk0 none 0 none 0) 25)
  have hD2 : DBox ((w.alloc (.cells (dkc d A c B k0) 25)).alloc (.cells (dkc dk0 none 0 none 0) 25)) w.heap.size d A c B k0 := Box.alloc hD1 _
  have hR2 : Box ((w.alloc (.cells (dkc d A c B k0) 25)).alloc (.cells (dkc dk0 none 0 none 0) 25)) (w.heap.size + 1) (dkc dk0 none 0 none 0) 25 := by
    have := Box.new (w.alloc (.cells (dkc d A c B k0) 25)) (dkc dk0 none 0 none 0) 25
    rw [World.size_alloc] at this
    exact this
  have HC := Lib.hid (clone_any A c d.secs w _ hS.1 hb2 f1 (by omega) (fun s hs => by have := f5 s hs; omega))
  have HS := Lib.hid (hS.2.up hb2)
  have HF := Lib.hid f6
  have HL := Lib.hid (fun k => perf_length (d.pend.take k) d.secs)
  have HT := Lib.hid (fun k (h : k < d.pend.length) => (List.getElem?_eq_getElem h : d.pend[k]? = some d.pend[k]))
  have HZ := Lib.hid (show perf d.secs (d.pend.take 0) = d.secs from rfl)
  have hz2 : ((w.alloc (.cells (dkc d A c B k0) 25)).alloc (.cells (dkc dk0 none 0 none 0) 25)).heap.size = w.heap.size + 1 + 1 := by simp
  have HB := Lib.hid (And.intro hb2 (And.intro hD2 (And.intro hR2 hz2)))
  have hnk : (n : Int) ≤ (k0 : Int) := by have := hS.2.2.1; omega
  unfold PerfPost
  unfold ClonePost at HC
  unfold dkv dkc at *
  simp only [dk0, List.length_nil] at *
  clear hb1 hD1 hb2 hD2 hR2 hS f5 f6 hv hz2
  obtain ⟨N, hN⟩ : ∃ N, d.secs.length = N := ⟨_, rfl⟩
  obtain ⟨m, hm⟩ : ∃ m, d.pend.length = m := ⟨_, rfl⟩
  rw [hN, hm] at HC HB HS
  rw [hN] at HL
  rw [hN, hm]
  have hnm : (n : Int) ≤ (m : Int) := by omega
  have hn0 : (0 : Int) ≤ (n : Int) := by omega
  have HN := Lib.hid (And.intro hN hm)
  clear hN hm
  go_enter Try.func37, Try.ntmps37
  go_wp2_with fail
  generalize World.alloc _ _ = W at *
  refine HC.out.mono ?_
  rintro e w1 ⟨g, cg, rfl, hO, hb1⟩
  obtain ⟨b0, b1, b2, b3⟩ := (DBox.up HB.out.2.1 hb1).cells
  rw [HN.out.1] at b0
  rw [HN.out.2] at b1
  have H1 := Lib.hid (And.intro hO hb1)
  have hwW : w.heap.size + 1 < W.heap.size := by have := HB.out.2.2.2; omega
  have HWW := Lib.hid hwW
  clear hO hb1 HC
  go_wp2_with fail
  clear b0 b1 b2 b3
  go_loopw [17] (fun i wr => ∃ k : Nat, k ≤ n ∧ i = .int .i64 k ∧ OwnR w.heap.size W.heap.size wr g cg (perf d.secs (d.pend.take k)) ∧ Below W.heap.size W wr) (fun i _ => n - (intOf i).toNat)
  case atStart => exact ⟨0, Nat.zero_le _, rfl, H1.out.1, H1.out.2⟩
  case round =>
    obtain ⟨k, hk, rfl, hO, hb⟩ := hrel
    by_cases hlt : k < n
    · have hkm : k < d.pend.length := by omega
      obtain ⟨b, off, rfl, hlb, hat⟩ := HS.out.1 (by omega)
      obtain ⟨D1, c1, h1, h2, h3⟩ := (hat k _ (HT.out k hkm)).up hlb hb
      have hlb2 : b < wr.heap.size := Nat.lt_of_lt_of_le hlb hb.size
      obtain ⟨hp0, hp1⟩ := HF.out (d.pend[k]'hkm) (List.getElem_mem hkm)
      have HTS := Lib.hid (take_snoc (HT.out k hkm))
      obtain ⟨a, ha⟩ : ∃ a, d.pend[k]'hkm = a := ⟨_, rfl⟩
      rw [ha] at h1 h2 h3 hp0 hp1 HTS
      clear ha hat
      obtain ⟨x, s⟩ := a
      simp only at h1 h2 h3 hp0 hp1
      rw [hp1] at h2
      obtain ⟨p, rfl⟩ : ∃ p : Nat, x = (p : Int) := ⟨x.toNat, by omega⟩
      have hpN : p < N := by rw [HN.out.1] at hp0; omega
      have HP := Lib.hid (And.intro hp1 h3)
      have HO := Lib.hid (And.intro hO hb)
      have hg := hO.lt
      clear hp0 hp1 h3 hO hb
      have hb3 : Below wr.heap.size wr (wr.alloc (.cells #[.int .i64 (p : Int), .slice D1 128 c1] 54)) := (Below.refl _ wr).alloc (Nat.le_refl _) _
      have hBx : Box (wr.alloc (.cells #[.int .i64 (p : Int), .slice D1 128 c1] 54)) wr.heap.size #[.int .i64 (p : Int), .slice D1 128 c1] 54 := Box.new wr _ _
      have HB3 := Lib.hid (And.intro hb3 hBx)
      clear hb3 hBx
      go_wp2_with fail
      generalize wr.alloc (.cells #[.int .i64 (p : Int), .slice D1 128 c1] 54) = W3 at *
      have q0 := HB3.out.2.cell 0
      have q1 := HB3.out.2.cell 1
      simp only [List.getElem?_toArray, List.getElem?_cons_zero, List.getElem?_cons_succ] at q0 q1
      have HQ := Lib.hid (show W3.drew.cell? ⟨wr.heap.size, 0, none⟩ = some (.int .i64 (p : Int)) ∧ W3.drew.cell? ⟨wr.heap.size, 1, none⟩ = some (.slice D1 128 c1) from ⟨q0, q1⟩)
      have HSEC := Lib.hid (show Calls Try.prog 30 #[.slice D1 128 c1] W3.drew fun e w' => e = .returned (.slice (some ⟨W3.heap.size, 0, none⟩) 128 128) ∧ Box w' W3.heap.size (rowOf s) 5 ∧ Below W3.heap.size W3 w' from by
        have := sector_any D1 c1 s W3.drew (show Sl W3 D1 s c1 from HP.out.2.up HB3.out.1)
        rw [sec_whole HP.out.1, HP.out.1] at this
        exact this.mono fun e w' h => ⟨h.1, h.2.1, (Below.refl W3.heap.size W3).drew.trans h.2.2⟩)
      have HK := Lib.hid (fun w5 (hb5 : Below W3.heap.size W3 w5) => show w5.cell? ⟨wr.heap.size, 0, none⟩ = some (.int .i64 (p : Int)) ∧ w5.cell? ⟨wr.heap.size, 1, none⟩ = some (.slice D1 128 c1) from
        ⟨(hb5.cell (p := ⟨wr.heap.size, 0, none⟩) HB3.out.2.lt).trans q0, (hb5.cell (p := ⟨wr.heap.size, 1, none⟩) HB3.out.2.lt).trans q1⟩)
      have HKS := Lib.hid (fun w5 v (hb5 : Below W3.heap.size W3 w5) => show (w5.setCell ⟨g, p, none⟩ v).cell? ⟨wr.heap.size, 0, none⟩ = some (.int .i64 (p : Int)) ∧ (w5.setCell ⟨g, p, none⟩ v).cell? ⟨wr.heap.size, 1, none⟩ = some (.slice D1 128 c1) from
        ⟨(set_grown_at w5 g p v).cell (HK.out w5 hb5).1 (by simp; omega), (set_grown_at w5 g p v).cell (HK.out w5 hb5).2 (by simp; omega)⟩)
      clear q0 q1
      have hpl : p < (perf d.secs (d.pend.take k)).length := by rw [HL.out]; exact hpN
      have HSET := Lib.hid (fun w5 (hb5 : Below W3.heap.size W3 w5) => ((HO.out.1.below (HB3.out.1)).below hb5))
      have hpN2 : (p : Int) < (N : Int) := by omega
      have hp0 : (0 : Int) ≤ (p : Int) := by omega
      go_region_held3 (fun w' => w'.cell? ⟨wr.heap.size, 0, none⟩ = some (.int .i64 (p : Int)) ∧ w'.cell? ⟨wr.heap.size, 1, none⟩ = some (.slice D1 128 c1))
        (with_reducible first | exact HQ.out | exact HK.out _ B5.out | exact HKS.out _ _ B5.out)
        (first
          | (go_at_call 30; (with_reducible refine HSEC.out.mono ?_); rintro e w5 ⟨rfl, hx5, hb5⟩; have B5 := Lib.hid hb5; have X5 := Lib.hid hx5; obtain ⟨A5, k5, c5, _, _⟩ := (HSET.out w5 hb5).at_ (List.getElem?_eq_getElem hpl); have f5 := (HSET.out w5 hb5).frozen p; clear hb5 hx5)
          | fail)
      have hfin := (HSET.out w5 B5.out).set p (some ⟨W3.heap.size, 0, none⟩) s 128 128 HP.out.1 (sl_box X5.out HP.out.1 (by omega)) (fun b off e => by
        cases e
        have h3 := HB3.out.1.size
        have h4 := HO.out.2.size
        omega)
      have hfb : Below W.heap.size W (w5.setCell ⟨g, p, none⟩ (.slice (some ⟨W3.heap.size, 0, none⟩) 128 128)) :=
        ((HO.out.2.trans (HB3.out.1.mono HO.out.2.size)).trans (B5.out.mono (Nat.le_trans HO.out.2.size HB3.out.1.size))).setCell hg.1 _
      have hpf : perf d.secs (d.pend.take (k + 1)) = (perf d.secs (d.pend.take k)).set p s := by
        rw [HTS.out, perf_snoc]
        rfl
      rw [← hpf] at hfin
      have HFIN := Lib.hid (And.intro hfin.1 hfb)
      clear hfin hfb hpf c5 f5 hg HSET HKS HK HQ HB3 HO
      go_wp2_with fail
      go_roundw
      case rel => exact ⟨k + 1, by omega, by go_num, HFIN.out.1, HFIN.out.2⟩
      case measure => simp [intOf]; omega
    · obtain rfl : k = n := by omega
      obtain ⟨b0, b1, b2, b3⟩ := (DBox.up HB.out.2.1 hb).cells
      have hr0 := Box.below HB.out.2.2.1 hb
      have r0 := hr0.cell 0
      have r1 := hr0.cell 1
      have r2 := hr0.cell 2
      have r3 := hr0.cell 3
      have g0 := hr0.frozen 0
      have g1 := hr0.frozen 1
      have g2 := hr0.frozen 2
      have g3 := hr0.frozen 3
      have e0 := Box.frozen (DBox.up HB.out.2.1 hb) 0
      have e1 := Box.frozen (DBox.up HB.out.2.1 hb) 1
      simp only [List.getElem?_toArray, List.getElem?_cons_zero, List.getElem?_cons_succ] at r0 r1 r2 r3
      have HE := Lib.hid (And.intro hO hb)
      have HR0 := Lib.hid hr0
      clear hO hb hr0
      go_wp2_with fail
      have hfb := ((((((HE.out.2.mono (Nat.le_of_lt (Nat.lt_of_succ_lt hwW))).setCell (p := ⟨w.heap.size, 0, none⟩) (Nat.le_refl _) (.slice (some ⟨g, 0, none⟩) N cg)).setCell (p := ⟨w.heap.size, 1, none⟩) (Nat.le_refl _) (.slice none 0 0)).setCell (p := ⟨w.heap.size + 1, 0, none⟩) (Nat.le_succ _) (.slice (some ⟨g, 0, none⟩) N cg)).setCell (p := ⟨w.heap.size + 1, 1, none⟩) (Nat.le_succ _) (.slice none 0 0)).setCell (p := ⟨w.heap.size + 1, 2, none⟩) (Nat.le_succ _) (.int .i64 d.left)).setCell (p := ⟨w.heap.size + 1, 3, none⟩) (Nat.le_succ _) (.bool d.stop)
      have hw1 : w.heap.size < W.heap.size := Nat.lt_of_succ_lt hwW
      have hof := (((((HE.out.1.other (b := w.heap.size) (Nat.le_refl _) hw1 0 (.slice (some ⟨g, 0, none⟩) N cg)).other (b := w.heap.size) (Nat.le_refl _) hw1 1 (.slice none 0 0)).other (b := w.heap.size + 1) (Nat.le_succ _) hwW 0 (.slice (some ⟨g, 0, none⟩) N cg)).other (b := w.heap.size + 1) (Nat.le_succ _) hwW 1 (.slice none 0 0)).other (b := w.heap.size + 1) (Nat.le_succ _) hwW 2 (.int .i64 d.left)).other (b := w.heap.size + 1) (Nat.le_succ _) hwW 3 (.bool d.stop)
      refine bodyPost_ret (dk_ret Try.results37 rfl (box4 _ _ _ _ (box_other (box_other HR0.out (by omega)) (by omega)))) rfl ⟨g, cg, ?_, ?_, hof.more (Nat.le_of_lt hw1), HB.out.1.trans hfb⟩
      · exact Nat.le_trans (Nat.le_of_lt hw1) HE.out.1.lt.1
      · rw [HL.out]
end Go.Proofs.Ytiphajgmjmjanaa
