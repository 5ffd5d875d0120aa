/- New. -/
import Derived.Test.YtiphajgmjmjanaaSd
import Derived.Deep.Cut
namespace Go.Proofs.Ytiphajgmjmjanaa
open Go.RowKit
set_option linter.unusedVariables false

/-- The first k of n rows are sectors of zero bytes, the others nil. -/
def nrows (n k : Nat) : List (List UInt8) := List.replicate k (List.replicate 128 0) ++ List.replicate (n - k) []
theorem nrows_length {n k : Nat} (h : k ≤ n) : (nrows n k).length = n := by
  unfold nrows
  rw [List.length_append, List.length_replicate, List.length_replicate]
  omega
theorem nrows_step {n k : Nat} (h : k < n) : (nrows n k).set k (List.replicate 128 0) = nrows n (k + 1) := by
  unfold nrows
  generalize List.replicate 128 (0 : UInt8) = Z
  rw [List.set_append_right _ _ (by simp), List.length_replicate, Nat.sub_self, show n - k = (n - (k + 1)) + 1 by omega, List.replicate_succ (a := []), List.set_cons_zero, List.replicate_succ', List.append_assoc]
  rfl
theorem nrows_all (n : Nat) : nrows n n = List.replicate n (List.replicate 128 0) := by
  unfold nrows
  rw [Nat.sub_self]
  simp
theorem nrows_zero (n : Nat) : nrows n 0 = List.replicate n [] := by
  unfold nrows
  simp
theorem nil_sec : sec [] = List.replicate 128 0 := rfl

set_option maxHeartbeats 1000000 in
set_option maxRecDepth 100000 in
theorem new_no (n : Int) (w : World) (h : size1 n = false) : Calls Try.prog 12 #[.int .i64 n] w (DkPost (nw n) (nwe n) w) := by
  have he : nwe n = 1 := by unfold nwe; rw [h]; rfl
  have hd : nw n = dk0 := by unfold nw; rw [he]; rfl
  rw [he, hd]
  have HI := Lib.hid (isSize_any n (w.alloc (.cells #[.slice none 0 0, .slice none 0 0, .int .i64 0, .bool false] 25)))
  rw [h] at HI
  clear he hd h
  unfold DkPost dkv dkc
  go_enter Try.func12, Try.ntmps12
  go_wp2_with fail
  refine HI.out.mono ?_
  rintro e w1 ⟨rfl, rfl⟩
  go_wp2_with fail
  exact bodyPost_ret (dk_ret2 Try.results12 rfl (Box.new w _ _)) rfl ⟨none, 0, none, 0, rfl, DkIn.zero _, (Below.refl _ w).alloc (Nat.le_refl _) _⟩

set_option maxHeartbeats 1000000 in
set_option maxRecDepth 100000 in
theorem new_yes (n : Nat) (w : World) (h1 : 1 ≤ n) (h2 : n ≤ 4096) : Calls Try.prog 12 #[.int .i64 (n : Int)] w (DkPost (nw n) (nwe n) w) := by
  have hs : size1 (n : Int) = true := by unfold size1; apply decide_eq_true; omega
  have he : nwe (n : Int) = 0 := by unfold nwe; rw [hs]; rfl
  have hd : nw (n : Int) = ⟨nrows n n, [], -1, false⟩ := by unfold nw; rw [if_pos he, nrows_all]; rfl
  rw [he, hd]
  obtain ⟨i0, hi0, hz0, hz1, hz2⟩ := info_parts rw_info
  have HI := Lib.hid (isSize_any n (w.alloc (.cells #[.slice none 0 0, .slice none 0 0, .int .i64 0, .bool false] 25)))
  rw [hs] at HI
  have HSZ : Hid ((w.alloc (.cells #[.slice none 0 0, .slice none 0 0, .int .i64 0, .bool false] 25)).heap.size = w.heap.size + 1) := Lib.hid (by simp)
  have hbx := Box.new w #[.slice none 0 0, .slice none 0 0, .int .i64 0, .bool false] 25
  have hb0 := (Below.refl w.heap.size w).alloc (Nat.le_refl _) (.cells #[.slice none 0 0, .slice none 0 0, .int .i64 0, .bool false] 25)
  have HB := Lib.hid (And.intro hbx hb0)
  clear he hd hs hbx hb0
  unfold DkPost dkv dkc
  go_enter Try.func12, Try.ntmps12
  go_wp2_with fail
  refine HI.out.mono ?_
  rintro e w1 ⟨rfl, rfl⟩
  generalize w.alloc _ = W0 at *
  go_upto_region 4 with (refine wpList_make_full _ rfl (.tmp 9) (.tmp 9) 22 rfl W0.heap.size 35 i0 (.slice none 0 0) 1 Try.underlying22 hi0 hz0 hz1 .i64 .i64 n n n rfl rfl rfl rfl (by rw [hz2]; omega) (le_maxLen (by omega)) (Nat.le_refl _) ?_; intro w1 hown hgr; have hbr := HB.out.1.below (grown_below hgr); have r0 : w1.cell? ⟨w.heap.size, 0, none⟩ = some (.slice none 0 0) := hbr.cell 0; have r1 : w1.cell? ⟨w.heap.size, 1, none⟩ = some (.slice none 0 0) := hbr.cell 1; have r2 : w1.cell? ⟨w.heap.size, 2, none⟩ = some (.int .i64 0) := hbr.cell 2; have r3 : w1.cell? ⟨w.heap.size, 3, none⟩ = some (.bool false) := hbr.cell 3; have g0 := hbr.frozen 0; have g1 := hbr.frozen 1; have g2 := hbr.frozen 2; have g3 := hbr.frozen 3; have HOW := Lib.hid (And.intro hown (And.intro hbr hgr)); clear hown hbr hgr)
  have hz3 : w.heap.size < W0.heap.size := by rw [HSZ.out]; omega
  have hown0 : OwnR w.heap.size W0.heap.size w1 W0.heap.size n (nrows n 0) := by
    refine ⟨_, by rw [nrows_length (Nat.zero_le _)]; exact HOW.out.1, fun i s hi => ?_⟩
    have hin : i < n := by
      have := (List.getElem?_eq_some_iff.1 hi).1
      rw [nrows_length (Nat.zero_le _)] at this
      exact this
    rw [nrows_zero, List.getElem?_replicate, if_pos hin] at hi
    cases hi
    refine ⟨none, 0, ?_, sl_none w1, fun b off e => by cases e⟩
    simp [madeCells, hin, Value.cells, Nat.mod_one]
  have hO4 := (((hown0.other (Nat.le_refl _) hz3 0 (.slice (some ⟨W0.heap.size, 0, none⟩) n n)).other (Nat.le_refl _) hz3 1 (.slice none 0 0)).other (Nat.le_refl _) hz3 2 (.int .i64 (-1))).other (Nat.le_refl _) hz3 3 (.bool false)
  have hX4 := box4 (.slice (some ⟨W0.heap.size, 0, none⟩) n n) (.slice none 0 0) (.int .i64 (-1)) (.bool false) HOW.out.2.1
  have hB4 := ((((HB.out.2.trans ((grown_below HOW.out.2.2).mono (Nat.le_of_lt hz3))).setCell (p := ⟨w.heap.size, 0, none⟩) (Nat.le_refl _) (.slice (some ⟨W0.heap.size, 0, none⟩) n n)).setCell (p := ⟨w.heap.size, 1, none⟩) (Nat.le_refl _) (.slice none 0 0)).setCell (p := ⟨w.heap.size, 2, none⟩) (Nat.le_refl _) (.int .i64 (-1))).setCell (p := ⟨w.heap.size, 3, none⟩) (Nat.le_refl _) (.bool false)
  clear hown0 r0 r1 r2 r3 g0 g1 g2 g3
  generalize World.setCell _ ⟨w.heap.size, 3, none⟩ _ = W4 at *
  have r0 : W4.cell? ⟨w.heap.size, 0, none⟩ = some (.slice (some ⟨W0.heap.size, 0, none⟩) n n) := hX4.cell 0
  have H4 := Lib.hid (And.intro hO4 (And.intro hX4 hB4))
  clear hO4 hX4 hB4 HOW HI
  generalize W0.heap.size = g at *
  go_wp2_with fail
  clear r0
  go_loopw [15] (fun i wr => ∃ k : Nat, k ≤ n ∧ i = .int .i64 k ∧ OwnR w.heap.size g wr g n (nrows n k) ∧ Box wr w.heap.size #[.slice (some ⟨g, 0, none⟩) n n, .slice none 0 0, .int .i64 (-1), .bool false] 25 ∧ Below w.heap.size w wr) (fun i _ => n - (intOf i).toNat)
  case atStart => exact ⟨0, Nat.zero_le _, rfl, H4.out.1, H4.out.2.1, H4.out.2.2⟩
  case round =>
    clear H4
    obtain ⟨k, hk, rfl, hO, hX, hb⟩ := hrel
    by_cases hlt : k < n
    · have HO := Lib.hid (And.intro hO (And.intro hX hb))
      have q0 : wr.cell? ⟨w.heap.size, 0, none⟩ = some (.slice (some ⟨g, 0, none⟩) n n) := hX.cell 0
      have hgl := hO.lt.2
      have hkl : k < (nrows n k).length := by rw [nrows_length hk]; exact hlt
      have HQ := Lib.hid (show wr.drew.cell? ⟨w.heap.size, 0, none⟩ = some (.slice (some ⟨g, 0, none⟩) n n) from q0)
      have hxl := hX.lt
      have HK := Lib.hid (fun w5 (hb5 : Below wr.heap.size wr w5) => show w5.cell? ⟨w.heap.size, 0, none⟩ = some (.slice (some ⟨g, 0, none⟩) n n) from (hb5.cell (p := ⟨w.heap.size, 0, none⟩) hxl).trans q0)
      have HKS := Lib.hid (fun w5 v (hb5 : Below wr.heap.size wr w5) => show (w5.setCell ⟨g, k, none⟩ v).cell? ⟨w.heap.size, 0, none⟩ = some (.slice (some ⟨g, 0, none⟩) n n) from (set_grown_at w5 g k v).cell (HK.out w5 hb5) (by simp; omega))
      have HSEC := Lib.hid (show Calls Try.prog 30 #[.slice none 0 0] wr.drew fun e w' => e = .returned (.slice (some ⟨wr.heap.size, 0, none⟩) 128 128) ∧ Box w' wr.heap.size (rowOf (List.replicate 128 0)) 5 ∧ Below wr.heap.size wr w' from by
        have := sector_any none 0 [] wr.drew (sl_none _)
        exact this.mono fun e w' h => ⟨h.1, h.2.1, (Below.refl wr.heap.size wr).drew.trans h.2.2⟩)
      have HSET := Lib.hid (fun w5 (hb5 : Below wr.heap.size wr w5) => And.intro (hO.below hb5) (hX.below hb5))
      clear q0 hO hX hb
      have hk1 : (k : Int) < (n : Int) := by omega
      have hk0 : (0 : Int) ≤ (k : Int) := by omega
      go_wp2_with fail
      go_region_held3 (fun w' => w'.cell? ⟨w.heap.size, 0, none⟩ = some (.slice (some ⟨g, 0, none⟩) n n))
        (with_reducible first | exact HQ.out | exact HK.out _ B5.out | exact HKS.out _ _ B5.out)
        (first
          | (go_at_call 30; (with_reducible refine HSEC.out.mono ?_); rintro e w5 ⟨rfl, hx5, hb5⟩; have B5 := Lib.hid hb5; have X5 := Lib.hid hx5; obtain ⟨A5, k5, c5, _, _⟩ := (HSET.out w5 hb5).1.at_ (List.getElem?_eq_getElem hkl); have f5 := (HSET.out w5 hb5).1.frozen k; clear hb5 hx5)
          | fail)
      have hfin := (HSET.out w5 B5.out).1.set k (some ⟨wr.heap.size, 0, none⟩) (List.replicate 128 0) 128 128 (by rw [List.length_replicate]) (sl_box X5.out (by rw [List.length_replicate]) (by omega)) (fun b off e => by
        cases e
        exact ⟨by omega, .inr (by omega)⟩)
      rw [nrows_step hlt] at hfin
      have hbx := box_other (b := g) (i := k) (v := .slice (some ⟨wr.heap.size, 0, none⟩) 128 128) (HSET.out w5 B5.out).2 (by omega)
      have hfb : Below w.heap.size w (w5.setCell ⟨g, k, none⟩ (.slice (some ⟨wr.heap.size, 0, none⟩) 128 128)) := (HO.out.2.2.trans (B5.out.mono HO.out.2.2.size)).setCell (Nat.le_of_lt hz3) _
      have HFIN := Lib.hid (And.intro hfin.1 (And.intro hbx hfb))
      clear hfin hfb hbx c5 f5 HSET HKS HK HQ HO
      go_wp2_with fail
      go_roundw
      case rel => exact ⟨k + 1, by omega, by go_num, HFIN.out.1, HFIN.out.2.1, HFIN.out.2.2⟩
      case measure => simp [intOf]; omega
    · obtain rfl : k = n := by omega
      have r0 := hX.cell 0
      have r1 := hX.cell 1
      have r2 := hX.cell 2
      have r3 := hX.cell 3
      have g0 := hX.frozen 0
      have g1 := hX.frozen 1
      have g2 := hX.frozen 2
      have g3 := hX.frozen 3
      simp only [List.getElem?_toArray, List.getElem?_cons_zero, List.getElem?_cons_succ] at r0 r1 r2 r3
      have HE := Lib.hid (And.intro hO (And.intro hX hb))
      clear hO hX hb
      go_wp2_with fail
      have hof := (((HE.out.1.other (Nat.le_refl _) hz3 0 (.slice (some ⟨g, 0, none⟩) k k)).other (Nat.le_refl _) hz3 1 (.slice none 0 0)).other (Nat.le_refl _) hz3 2 (.int .i64 (-1))).other (Nat.le_refl _) hz3 3 (.bool false)
      have hX4 := box4 (.slice (some ⟨g, 0, none⟩) k k) (.slice none 0 0) (.int .i64 (-1)) (.bool false) HE.out.2.1
      have hB4 := (((HE.out.2.2.setCell (p := ⟨w.heap.size, 0, none⟩) (Nat.le_refl _) (.slice (some ⟨g, 0, none⟩) k k)).setCell (p := ⟨w.heap.size, 1, none⟩) (Nat.le_refl _) (.slice none 0 0)).setCell (p := ⟨w.heap.size, 2, none⟩) (Nat.le_refl _) (.int .i64 (-1))).setCell (p := ⟨w.heap.size, 3, none⟩) (Nat.le_refl _) (.bool false)
      exact bodyPost_ret (dk_ret2 Try.results12 rfl hX4) rfl ⟨some ⟨g, 0, none⟩, k, none, 0, by rw [nrows_length (Nat.le_refl _)]; rfl, ⟨hof.rr, WW.nil _⟩, hB4⟩
theorem new_any (n : Int) (w : World) : Calls Try.prog 12 #[.int .i64 n] w (DkPost (nw n) (nwe n) w) := by
  cases h : size1 n
  · exact new_no n w h
  · unfold size1 at h
    have := of_decide_eq_true h
    obtain ⟨m, rfl⟩ : ∃ m : Nat, n = (m : Int) := ⟨n.toNat, by omega⟩
    exact new_yes m w (by omega) (by omega)
end Go.Proofs.Ytiphajgmjmjanaa
