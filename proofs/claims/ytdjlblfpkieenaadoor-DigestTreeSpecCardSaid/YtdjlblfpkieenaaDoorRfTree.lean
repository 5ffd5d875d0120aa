/- The reference's half, node and Tree. -/
import Derived.Test.YtdjlblfpkieenaaDoorRfChain
import Derived.Test.YtdjlblfpkieenaaDoorSteps
namespace Go.Proofs.YtdjlblfpkieenaaDoor
open Go.RowKit Go.Sort
set_option linter.unusedVariables false

set_option maxHeartbeats 400000 in
set_option maxRecDepth 100000 in
theorem refHalf_any (n : Nat) (w : World) (h1 : 1 < n) (hn : n ≤ 2199023255552) :
    Calls Tryd.prog 37 #[.int .i64 n] w fun e w' => e = .returned (.int .i64 (half n)) ∧ w = w' := by
  go_enter Tryd.func37, Tryd.ntmps37
  go_wp2_with fail
  go_loop [3] (fun v => ∃ j k : Nat, k = 2 ^ j ∧ v = .int .i64 k ∧ k < n) (fun v => n - (intOf v).toNat)
  case atStart => exact ⟨0, 1, rfl, rfl, by omega⟩
  case round =>
    obtain ⟨j, k, hk, rfl, hkm⟩ := hrel
    have hk0 : 0 < k := by rw [hk]; exact Nat.pow_pos (by omega)
    have HKJ := Lib.hid hk
    clear hk
    by_cases h2k : 2 * k < n
    · go_wp2_with fail
      go_round
      case rel => exact ⟨j + 1, 2 * k, by rw [HKJ.out, Nat.pow_succ]; omega, by go_num, by omega⟩
      case measure => simp [intOf]; omega
    · have hkh : half n = k := by rw [half_pow j n (by rw [← HKJ.out]; omega) (by rw [Nat.pow_succ, ← HKJ.out]; omega), HKJ.out]
      have HKH := Lib.hid hkh
      clear hkh
      go_wp2_with fail
      go_ret
      exact ⟨by rw [HKH.out]; rfl, rfl⟩

set_option maxHeartbeats 1000000 in
set_option maxRecDepth 100000 in
theorem refNode_any (d1 d2 : List UInt8) (w : World) (hd1 : d1.length = 32) (hd2 : d2.length = 32) :
    Calls Tryd.prog 38 #[.agg (dcells d1), .agg (dcells d2)] w (DigPost (tg [110, 111, 100, 101] (d1 ++ d2)) w) := by
  have hb1 := (((Below.refl w.heap.size w).alloc (Nat.le_refl _) (.cells (dcells d1) 26)).alloc (by simp) (.cells (dcells d2) 26)).alloc (by simp; omega) (.cells dz 26)
  have hx1 := ((Box.new w (dcells d1) 26).alloc (.cells (dcells d2) 26)).alloc (.cells dz 26)
  have hx2 := (Box.new (w.alloc (.cells (dcells d1) 26)) (dcells d2) 26).alloc (.cells dz 26)
  have hz := Box.new ((w.alloc (.cells (dcells d1) 26)).alloc (.cells (dcells d2) 26)) dz 26
  simp only [World.size_alloc] at hz hx2
  have hs1 := Sl.of_box hx1 hd1
  have hs2 := Sl.of_box hx2 hd2
  have HB := Lib.hid hb1
  have HS1 := Lib.hid hs1
  have HS2' := Lib.hid hs2
  have HZ := Lib.hid hz
  have HL1 := Lib.hid hd1
  have HL2 := Lib.hid hd2
  have hz1 : (dcells d1).size = 32 := by simp [dcells, hd1]
  have hz2 : (dcells d2).size = 32 := by simp [dcells, hd2]
  clear hb1 hx1 hx2 hz hs1 hs2 hd1 hd2
  generalize dcells d1 = C1 at *
  generalize dcells d2 = C2 at *
  go_enter Tryd.func38, Tryd.ntmps38
  go_wp2_with fail
  generalize hW : World.alloc (World.alloc (World.alloc w _) _) _ = W
  have hbw : Below w.heap.size w W := by rw [← hW]; exact HB.out
  have HS2 : Hid (Sl W (some ⟨w.heap.size, 0, none⟩) d1 32) := by rw [← hW]; exact HS1.out
  have HS3 : Hid (Sl W (some ⟨w.heap.size + 1, 0, none⟩) d2 32) := by rw [← hW]; exact HS2'.out
  have HZW : Hid (Box W (w.heap.size + 1 + 1) dz 26) := by rw [← hW]; exact HZ.out
  clear hW HB HS1 HS2' HZ
  have hh4 : w.heap.size ≤ w.heap.size + 1 + 1 := by omega
  generalize hh : w.heap.size + 1 + 1 = h4 at *
  clear hh
  generalize w.heap.size + 1 = h3 at *
  have HBW := Lib.hid hbw
  generalize hB : w.heap.size = h2 at *
  clear hbw
  have hlen : (d1 ++ d2).length = 64 := by rw [List.length_append, HL1.out, HL2.out]
  have HLEN := Lib.hid hlen
  have hTG : ∀ W' A4 c4, Below W.heap.size W W' → W'.ownsRow W.heap.size 5 1 (.slice A4 64 c4) 64 (([] ++ d1.map bv) ++ d2.map bv) → Calls Tryd.prog 15 #[.string ⟨#[110, 111, 100, 101]⟩, .slice A4 64 c4] W' (DigPost (tg [110, 111, 100, 101] (d1 ++ d2)) W') := fun W' A4 c4 hb ho => by
    have hs := Sl.of_own (B := W.heap.size) (A := A4) (c := c4) (l := d1 ++ d2) (w := W') (by rw [HLEN.out, List.map_append]; exact ho)
    have := refTagged_any ⟨#[110, 111, 100, 101]⟩ A4 c4 (d1 ++ d2) W' hs (by decide) (by rw [HLEN.out]; omega)
    rw [HLEN.out] at this
    exact this
  have HTL : Hid ((tg [110, 111, 100, 101] (d1 ++ d2)).length = 32) := rfl
  unfold DigPost at hTG
  generalize hR : tg [110, 111, 100, 101] (d1 ++ d2) = R at *
  obtain ⟨hi1, hs1, ho1⟩ := dcells_facts HTL.out
  generalize hCT : dcells R = CT at *
  have HTG := Lib.hid hTG
  have HCT := Lib.hid hCT
  have HI := Lib.hid hi1
  have HSZ := Lib.hid hs1
  have HONE := Lib.hid ho1
  clear hTG hR hCT hi1 hs1 ho1 hlen
  refine region_gen 6 [some 5, some 6, some 7, some 8, some 9, some 10] (Aft W) (phiT W.heap.size [.row 5 1 0 [], .val (.slice (some ⟨h2, 0, none⟩) 32 32 : Value), .row 5 1 32 ([] ++ d1.map bv), .val (.slice (some ⟨h3, 0, none⟩) 32 32 : Value), .row 5 1 64 (([] ++ d1.map bv) ++ d2.map bv), .val (.agg CT)]) (psiT [.row 5 1 0 [], .val (.slice (some ⟨h2, 0, none⟩) 32 32 : Value), .row 5 1 32 ([] ++ d1.map bv), .val (.slice (some ⟨h3, 0, none⟩) 32 32 : Value), .row 5 1 64 (([] ++ d1.map bv) ++ d2.map bv), .val (.agg CT)]) (fun i j => (i == 2 && j == 0) || (i == 4 && j == 2)) (by kernel_rfl) ?_ ?_ ?_ ?_ ?_
  · kernel_rfl
  · kernel_rfl
  · exact (Below.refl W.heap.size W).drew
  · simp only [List.take_succ_cons, List.take_zero, StepsG, Nat.reduceAdd, Nat.zero_add]
    refine ⟨?_, ?_, ?_, ?_, ?_, ?_, trivial⟩
    · exact st_c0 rfl rfl rfl (fun _ _ => by kernel_rfl)
    · exact st_sl (.tmp 2) h2 rfl rfl rfl (fun _ => by kernel_rfl) (fun _ _ => by kernel_rfl)
    · exact st_apb 0 1 (.tmp 5) (.tmp 6) rfl rfl rfl (by kernel_rfl) (by kernel_rfl) rfl rfl rfl (fun _ => by kernel_rfl) (fun _ => by kernel_rfl) (fun _ _ => by kernel_rfl) HL1.out HS2.out rfl (by omega)
    · exact st_sl (.tmp 3) h3 rfl rfl rfl (fun _ => by kernel_rfl) (fun _ _ => by kernel_rfl)
    · exact st_apb 2 3 (.tmp 7) (.tmp 8) rfl rfl rfl (by kernel_rfl) (by kernel_rfl) rfl rfl rfl (fun _ => by kernel_rfl) (fun _ => by kernel_rfl) (fun _ _ => by kernel_rfl) HL2.out HS3.out rfl (by omega)
    · constructor
      intro vs W hC hd
      obtain ⟨A4, c4, e4, o4⟩ := (show ∃ A c, vs 4 = .slice A 64 c ∧ W.ownsRow _ 5 1 (vs 4) 64 (([] ++ d1.map bv) ++ d2.map bv) from hd 4 (by kernel_rfl))
      refine ⟨wants rfl, fun K hK => ?_⟩
      rw [vs_is e4]
      go_simp
      refine (HTG.out W A4 c4 hC (e4 ▸ o4)).mono ?_
      rintro e w' ⟨rfl, hb⟩
      refine hK _ _ (left_val (.agg CT) rfl ?_ hb hC)
      rw [vs_is e4]
      kernel_rfl
  · intro vs W9 hC hv hp
    have e5 : vs 5 = .agg CT := hv 5 (by omega) (fun k hk => by match k, hk with
      | 0, _ => rfl
      | 1, _ => rfl
      | 2, _ => rfl
      | 3, _ => rfl
      | 4, _ => rfl
      | 5, _ => rfl)
    clear hv hp
    have hC9 : Below W.heap.size W W9 := hC
    have HX9 := Lib.hid (HZW.out.below hC9)
    have HB9 := Lib.hid (HBW.out.trans (hC9.mono (hB ▸ HBW.out.size)))
    clear hC hC9 HTG
    simp only [List.drop_succ_cons, List.drop_zero, putO, e5, Nat.reduceAdd, Nat.zero_add]
    clear e5
    simp only [Act.put, List.setIfInBounds_toArray, List.set_cons_succ, List.set_cons_zero]
    go_wp2_with (first | (refine wpList_store_row rfl 26 (.tmp 4) (.tmp 10) rfl h4 CT rfl rfl 26 dz HX9.out HI.out HSZ.out HONE.out ?_))
    refine bodyPost_ret (v := .agg CT) ?_ rfl ?_
    · exact results_cell_row Tryd.results38 _ _ h4 26 CT (0, 0) _ rfl (Box.setRow HX9.out) Tryd.underlying26 rfl HI.out
    · exact ⟨by rw [HCT.out], by subst hB; exact HB9.out.trans (below_grown (setRow_grown W9 h4 CT) hh4 HB9.out.size)⟩

set_option maxHeartbeats 1000000 in
set_option maxRecDepth 100000 in
theorem refTree_none (A : Option Addr) (c : Nat) (w : World) :
    Calls Tryd.prog 18 #[.slice A 0 c] w (DigPost (tr []) w) := by
  have hb1 := (Below.refl w.heap.size w).alloc (Nat.le_refl _) (.cells dz 26)
  have hz := Box.new w dz 26
  have HL := Lib.hid (refTagged_any ⟨#[101, 109, 112, 116, 121]⟩ none 0 [] (w.alloc (.cells dz 26)) ⟨Bs.none_, by simp, by unfold maxLen; omega, fun _ => ⟨rfl, rfl⟩⟩ (by decide) (by simp))
  have HZ := Lib.hid hz
  have HB := Lib.hid hb1
  clear hb1 hz
  go_enter Tryd.func18, Tryd.ntmps18
  go_wp2_with fail
  refine HL.out.mono ?_
  rintro e w1 ⟨rfl, hb2⟩
  have hbw := HB.out.trans (hb2.mono HB.out.size)
  have hr := HZ.out.below hb2
  obtain ⟨hi1, hs1, ho1⟩ := dcells_facts (tg_length [101, 109, 112, 116, 121] [])
  have hT : tr [] = tg [101, 109, 112, 116, 121] [] := tr_zero
  generalize hR : tg [101, 109, 112, 116, 121] [] = R at *
  generalize hCS : dcells R = CR at *
  have HT := Lib.hid hT
  have HCR := Lib.hid hCS
  have HI := Lib.hid hi1
  have HSZ := Lib.hid hs1
  have HONE := Lib.hid ho1
  have HBX := Lib.hid hr
  clear hCS hi1 hs1 ho1 hr hb2 HL HB HZ hT hR
  go_wp2_with (first | (refine wpList_store_row rfl 26 (.tmp 2) (.tmp 7) rfl w.heap.size CR rfl rfl 26 dz HBX.out HI.out HSZ.out HONE.out ?_))
  refine bodyPost_ret (v := .agg CR) ?_ rfl ?_
  · exact results_cell_row Tryd.results18 _ _ w.heap.size 26 CR (0, 0) _ rfl (Box.setRow HBX.out) Tryd.underlying26 rfl HI.out
  · exact ⟨by rw [HT.out, HCR.out], fin_store CR hbw (Nat.le_refl _)⟩

set_option maxHeartbeats 1000000 in
set_option maxRecDepth 100000 in
theorem refTree_leaf (A : Option Addr) (c : Nat) (d : List UInt8) (w : World) (hD : Ds w.heap.size w A [d]) :
    Calls Tryd.prog 18 #[.slice A 1 c] w (DigPost (tr [d]) w) := by
  have hd : d.length = 32 := hD.1 d (by simp)
  have hb1 := (Below.refl w.heap.size w).alloc (Nat.le_refl _) (.cells dz 26)
  have hz := Box.new w dz 26
  obtain ⟨b, off, rfl, hbl, hc⟩ := (hD.up hb1).2 (by simp)
  have hr0 : World.rangeAt (w.alloc (.cells dz 26)) b off (d.map bv) := by have := hc 0 d rfl; simpa using this
  have hs0 : Sl (w.alloc (.cells dz 26)) (some ⟨b, off, none⟩) d 32 := by
    refine ⟨fun _ => ⟨b, off, rfl, hbl, fun j u hu => hr0 j (bv u) (by simp [hu])⟩, by omega, by unfold maxLen; omega, fun h => by cases h⟩
  have hL := refTagged_any ⟨#[108, 101, 97, 102]⟩ _ 32 d _ hs0 (by decide) (by omega)
  rw [hd] at hL
  have HL := Lib.hid hL
  have HZ := Lib.hid hz
  have HB := Lib.hid hb1
  clear hb1 hz hD hc hr0 hd hs0 hL
  go_enter Tryd.func18, Tryd.ntmps18
  go_wp2_with fail
  refine HL.out.mono ?_
  rintro e w1 ⟨rfl, hb2⟩
  have hbw := HB.out.trans (hb2.mono HB.out.size)
  have hr := HZ.out.below hb2
  obtain ⟨hi1, hs1, ho1⟩ := dcells_facts (tg_length [108, 101, 97, 102] d)
  have hT : tr [d] = tg [108, 101, 97, 102] d := tr_one d
  generalize hR : tg [108, 101, 97, 102] d = R at *
  generalize hCS : dcells R = CR at *
  have HT := Lib.hid hT
  have HCR := Lib.hid hCS
  have HI := Lib.hid hi1
  have HSZ := Lib.hid hs1
  have HONE := Lib.hid ho1
  have HBX := Lib.hid hr
  clear hCS hi1 hs1 ho1 hr hb2 HL HB HZ hT hR
  go_wp2_with (first | (refine wpList_store_row rfl 26 (.tmp 2) (.tmp 14) rfl w.heap.size CR rfl rfl 26 dz HBX.out HI.out HSZ.out HONE.out ?_))
  refine bodyPost_ret (v := .agg CR) ?_ rfl ?_
  · exact results_cell_row Tryd.results18 _ _ w.heap.size 26 CR (0, 0) _ rfl (Box.setRow HBX.out) Tryd.underlying26 rfl HI.out
  · exact ⟨by rw [HT.out, HCR.out], fin_store CR hbw (Nat.le_refl _)⟩

set_option maxHeartbeats 400000 in
set_option maxRecDepth 100000 in
theorem refTree_step (m : Nat) (ih : ∀ (ds : List (List UInt8)) (A : Option Addr) (c : Nat) (w : World), ds.length ≤ m → Ds w.heap.size w A ds → ds.length ≤ c → c ≤ maxLen → ds.length ≤ 1000000 → Calls Tryd.prog 18 #[.slice A ds.length c] w (DigPost (tr ds) w))
    (ds : List (List UInt8)) (A : Option Addr) (c : Nat) (w : World) (hm : ds.length ≤ m + 1) (hD : Ds w.heap.size w A ds) (h1 : ds.length ≤ c) (h2 : c ≤ maxLen) (h3 : ds.length ≤ 1000000) (h4 : 1 < ds.length) :
    Calls Tryd.prog 18 #[.slice A ds.length c] w (DigPost (tr ds) w) := by
  have hkl := half_le ds.length h4
  have hkp := half_pos ds.length
  have hT := tr_node ds h4
  have HSPL := Lib.hid (fun w => refHalf_any ds.length w h4 (by omega))
  have hb1 := (Below.refl w.heap.size w).alloc (Nat.le_refl _) (.cells dz 26)
  have hz := Box.new w dz 26
  obtain ⟨b, off, rfl, hbl, hc⟩ := hD.2 (by omega)
  clear hc
  have hl1 : (ds.take (half ds.length)).length = half ds.length := by rw [List.length_take]; omega
  have hl2 : (ds.drop (half ds.length)).length = ds.length - half ds.length := List.length_drop
  have hC1 : ∀ w', Below w.heap.size w w' → Calls Tryd.prog 18 #[.slice (some ⟨b, off, none⟩) (half ds.length) c] w' (DigPost (tr (ds.take (half ds.length))) w') := by
    intro w' hb
    have := ih (ds.take (half ds.length)) (some ⟨b, off, none⟩) c w' (by omega) ((hD.up hb).take _) (by omega) h2 (by omega)
    rwa [hl1] at this
  have hC2 : ∀ w', Below w.heap.size w w' → Calls Tryd.prog 18 #[.slice (some ⟨b, off + half ds.length * 32, none⟩) (ds.length - half ds.length) (c - half ds.length)] w' (DigPost (tr (ds.drop (half ds.length))) w') := by
    intro w' hb
    have := ih (ds.drop (half ds.length)) (some ⟨b, off + half ds.length * 32, none⟩) (c - half ds.length) w' (by omega) ((hD.up hb).drop _) (by omega) (by omega) (by omega)
    rwa [hl2] at this
  have hP : ∀ w', Below w.heap.size w w' → Calls Tryd.prog 38 #[.agg (dcells (tr (ds.take (half ds.length)))), .agg (dcells (tr (ds.drop (half ds.length))))] w' (DigPost (tr ds) w') := by
    intro w' hb
    rw [hT]
    exact refNode_any _ _ w' (tr_length _) (tr_length _)
  have hlen := tr_length ds
  have HB := Lib.hid hb1
  have HZ := Lib.hid hz
  have HC1 := Lib.hid hC1
  have HC2 := Lib.hid hC2
  have HP := Lib.hid hP
  have HLEN := Lib.hid hlen
  unfold maxLen at h2
  clear hD hl1 hl2 hC1 hC2 hP hT hlen hb1 hz ih
  generalize tr (ds.take (half ds.length)) = T1 at *
  generalize tr (ds.drop (half ds.length)) = T2 at *
  generalize tr ds = R at *
  generalize half ds.length = k at *
  generalize ds.length = n at *
  go_enter Tryd.func18, Tryd.ntmps18
  have t0 : ((n : Int) == 0) = false := by simp; omega
  have t1 : ((n : Int) == 1) = false := by simp; omega
  go_wp2_with fail
  refine (HSPL.out _).mono ?_
  rintro e w1 ⟨rfl, rfl⟩
  have i1 : (0 : Int) ≤ (k : Int) := by omega
  have i2 : (k : Int) ≤ (n : Int) := by omega
  have i3 : (k : Int) ≤ (c : Int) := by omega
  have i4 : (n : Int) ≤ (c : Int) := by omega
  go_wp2_with fail
  clear h2 h3
  generalize hW1 : World.alloc w _ = W1
  have hb1 : Below w.heap.size w W1 := by rw [← hW1]; exact HB.out
  have hz1 : Box W1 w.heap.size dz 26 := by rw [← hW1]; exact HZ.out
  have hg1 := hb1.size
  have cT1 := DigPost.grown (w := W1) (fun w' hb => HC1.out w' (hb1.trans (hb.mono hg1)))
  have cT2 := DigPost.grown (w := W1) (fun w' hb => HC2.out w' (hb1.trans (hb.mono hg1)))
  have cP := DigPost.grown (w := W1) (fun w' hb => HP.out w' (hb1.trans (hb.mono hg1)))
  obtain ⟨hi1, hs1, ho1⟩ := dcells_facts HLEN.out
  generalize hCS : dcells R = CR at *
  have HCR := Lib.hid hCS
  have HI := Lib.hid hi1
  have HSZ := Lib.hid hs1
  have HONE := Lib.hid ho1
  have HZ1 := Lib.hid hz1
  clear hCS hi1 hs1 ho1 HC1 HC2 HP HB HZ hz1
  refine region_tail_below 9 (by kernel_rfl) (by kernel_rfl) ?_
  simp only [List.take_succ_cons, List.take_zero, List.drop_succ_cons, List.drop_zero]
  clear hW1 t0 t1 HSPL
  have hck : ¬ c = k := by omega
  iterate 7 (quiet_step (exact cT1 _ _))
  quiet_step (exact cT2 _ _)
  quiet_step (exact cP _ _)
  refine wpQuiet_nil ?_
  intro w2 hw'
  obtain ⟨⟨dq, osq⟩, hw''⟩ := hw'
  subst hw''
  have hbq := below_regrown W1 dq osq
  have hbx := HZ1.out.below hbq
  have hbw := hb1.trans (hbq.mono hg1)
  generalize grow (redrawn W1 dq) osq = W2 at *
  have HBX := Lib.hid hbx
  clear cT1 cT2 cP hbx hbq HZ1
  go_wp2_with (first | (refine wpList_store_row rfl 26 (.tmp 2) (.tmp 26) rfl w.heap.size CR rfl rfl 26 dz HBX.out HI.out HSZ.out HONE.out ?_))
  refine bodyPost_ret (v := .agg CR) ?_ rfl ?_
  · exact results_cell_row Tryd.results18 _ _ w.heap.size 26 CR (0, 0) _ rfl (Box.setRow HBX.out) Tryd.underlying26 rfl HI.out
  · exact ⟨by rw [HCR.out], fin_store CR hbw (Nat.le_refl _)⟩

theorem refTree_any (m : Nat) : ∀ (ds : List (List UInt8)) (A : Option Addr) (c : Nat) (w : World), ds.length ≤ m → Ds w.heap.size w A ds → ds.length ≤ c → c ≤ maxLen → ds.length ≤ 1000000 → Calls Tryd.prog 18 #[.slice A ds.length c] w (DigPost (tr ds) w) := by
  induction m with
  | zero =>
    intro ds A c w hm hD h1 h2 h3
    obtain rfl : ds = [] := List.length_eq_zero_iff.1 (by omega)
    exact refTree_none A c w
  | succ m ih =>
    intro ds A c w hm hD h1 h2 h3
    match ds, hD with
    | [], _ => exact refTree_none A c w
    | [d], hD => exact refTree_leaf A c d w hD
    | d :: d' :: r, hD => exact refTree_step m ih (d :: d' :: r) A c w hm hD h1 h2 h3 (by simp)
end Go.Proofs.YtdjlblfpkieenaaDoor
