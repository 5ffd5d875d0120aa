/- The reference's climb. -/
import Derived.Test.YtdjlblfpkieenaaDoorRfPath
import Derived.Test.YtdjlblfpkieenaaDoorQl
import Derived.Test.YtdjlblfpkieenaaDoorClimb2
namespace Go.Proofs.YtdjlblfpkieenaaDoor
open Go.RowKit Go.Sort
set_option linter.unusedVariables false

theorem DF.of_list {L : List Value} (h : L.length = 32) (hone : L.toArray.all (·.oneCell') = true) : DF L.toArray :=
  ⟨by have := dig_size h; rw [this]; simp, by rw [show dz.size = 32 from rfl]; simp [h], hone⟩

set_option maxHeartbeats 1000000 in
set_option maxRecDepth 100000 in
theorem refClimb_leaf (d : List UInt8) (A : Option Addr) (m c : Nat) (w : World) (hd : d.length = 32) :
    Calls Tryd.prog 44 #[.agg (dcells d), .int .i64 0, .int .i64 1, .slice A m c] w (DigPost (tr [d]) w) := by
  have hb1 := ((Below.refl w.heap.size w).alloc (Nat.le_refl _) (.cells (dcells d) 26)).alloc (by simp) (.cells dz 26)
  have hx := (Box.new w (dcells d) 26).alloc (.cells dz 26)
  have hz := Box.new (w.alloc (.cells (dcells d) 26)) dz 26
  rw [World.size_alloc] at hz
  have hL := refTagged_any ⟨#[108, 101, 97, 102]⟩ (some ⟨w.heap.size, 0, none⟩) 32 d _ (Sl.of_box hx hd) (by decide) (by omega)
  rw [hd] at hL
  have HL := Lib.hid hL
  have HZ := Lib.hid hz
  have HB := Lib.hid hb1
  clear hL hz hb1 hx hd
  generalize dcells d = CD at *
  go_enter Tryd.func44, Tryd.ntmps44
  go_wp2_with fail
  refine HL.out.mono ?_
  rintro e w1 ⟨rfl, hb2⟩
  have hbw := HB.out.trans (hb2.mono HB.out.size)
  have hr := HZ.out.below hb2
  obtain ⟨hi1, hs1, ho1⟩ := dcells_facts (tg_length [108, 101, 97, 102] d)
  have hT : tr [d] = tg [108, 101, 97, 102] d := tr_one d
  generalize hR : tg [108, 101, 97, 102] d = R at *
  generalize hCS : dcells R = CR at *
  have HT := Lib.hid hT
  have HCR := Lib.hid hCS
  have HI := Lib.hid hi1
  have HSZ := Lib.hid hs1
  have HONE := Lib.hid ho1
  have HBX := Lib.hid hr
  clear hCS hi1 hs1 ho1 hr hb2 HL HB HZ hT hR
  go_wp2_with (first | (refine wpList_store_row rfl 26 (.tmp 8) (.tmp 14) rfl (w.heap.size + 1) CR rfl rfl 26 dz HBX.out HI.out HSZ.out HONE.out ?_))
  refine bodyPost_ret (v := .agg CR) ?_ rfl ?_
  · exact results_cell_row Tryd.results44 _ _ (w.heap.size + 1) 26 CR (0, 0) _ rfl (Box.setRow HBX.out) Tryd.underlying26 rfl HI.out
  · exact ⟨by rw [HT.out, HCR.out], fin_store CR hbw (by omega)⟩

set_option maxHeartbeats 1000000 in
set_option maxRecDepth 100000 in
theorem refClimb_left (b off n c i k m : Nat) (LD LL LT : List Value) (R : List UInt8) (w : World) (h1 : 1 < n) (hn : n ≤ 2199023255552) (hk : half n = k) (hi : i < k) (hm : m + 1 ≤ c) (hm2 : m ≤ 1000000)
    (hD : LD.length = 32) (hL : LL.length = 32) (hone : LL.toArray.all (·.oneCell') = true) (hR : R.length = 32) (hX : w.rangeAt b (off + m * 32) LL)
    (hC : ∀ W, Below w.heap.size w W → Calls Tryd.prog 44 #[.agg LD.toArray, .int .i64 i, .int .i64 k, .slice (some ⟨b, off, none⟩) m c] W (fun e w' => e = .returned (.agg LT.toArray) ∧ Below W.heap.size W w'))
    (hP : ∀ W, Below w.heap.size w W → Calls Tryd.prog 38 #[.agg LT.toArray, .agg LL.toArray] W (DigPost R W)) :
    Calls Tryd.prog 44 #[.agg LD.toArray, .int .i64 i, .int .i64 n, .slice (some ⟨b, off, none⟩) (m + 1) c] w (DigPost R w) := by
  have HSPL := Lib.hid (fun w => refHalf_any n w h1 (by omega))
  have hkl := half_le n h1
  have hkp := half_pos n
  rw [hk] at HSPL hkl hkp
  clear hk
  have t1 : ((n : Int) == 1) = false := by simp; omega
  have hb := ((Below.refl w.heap.size w).alloc (Nat.le_refl _) (.cells LD.toArray 26)).alloc (by simp) (.cells dz 26)
  have hx := ((Box.new w LD.toArray 26).alloc (.cells dz 26)).range
  have hz := Box.new (w.alloc (.cells LD.toArray 26)) dz 26
  rw [World.size_alloc] at hz
  have hl := range_below hX hb
  have HB := Lib.hid hb
  have HX := Lib.hid hx
  have HZ := Lib.hid hz
  have HL := Lib.hid hl
  have HC := Lib.hid hC
  have HP := Lib.hid hP
  have HID := Lib.hid (dig_size hD)
  have HIL := Lib.hid (dig_size hL)
  have HRF := Lib.hid (DF.of hR)
  clear hb hx hz hl hC hP hX
  go_enter Tryd.func44, Tryd.ntmps44
  go_wp2_with fail
  generalize hW : World.alloc (World.alloc w _) _ = W
  have hbW : Below w.heap.size w W := by rw [← hW]; exact HB.out
  have hxW : W.rangeAt w.heap.size 0 LD := by rw [← hW]; exact HX.out
  have hzW : Box W (w.heap.size + 1) dz 26 := by rw [← hW]; exact HZ.out
  have hlW : W.rangeAt b (off + m * 32) LL := by rw [← hW]; exact HL.out
  clear hW HB HX HZ HL
  have HXR := Lib.hid hxW
  have HLR := Lib.hid hlW
  have HZW := Lib.hid hzW
  have HBW := Lib.hid hbW
  clear hxW hlW hzW
  have hg1 := hbW.size
  have HBW2 := Lib.hid hbW
  have hoL := DF.of_list hL hone
  have hbf := below_fill' W dz LL.toArray 26
  have HZN := Lib.hid (HZW.out.below hbf)
  have HXN := Lib.hid (range_regrown (range_below HXR.out hbf))
  have HTN := Lib.hid (range_regrown (Box.range (box_fill' W dz LL.toArray 26)))
  have HBN := Lib.hid (HBW2.out.trans (hbf.mono HBW2.out.size))
  have HLN := Lib.hid HLR.out
  have HNW := Lib.hid (Box.new W dz 26)
  have HOL := Lib.hid hoL
  clear hbf hoL
  refine (HSPL.out _).mono ?_
  rintro e w1 ⟨rfl, rfl⟩
  go_wp2_with (first
    | (refine wpList_load_mid rfl 26 (.tmp 21) rfl b (off + m * 32) rfl LL _ HLN.out Tryd.underlying26 rfl HIL.out ?_)
    | (refine wpList_store_row rfl 26 (.tmp 10) (.tmp 22) rfl W.heap.size LL.toArray rfl rfl 26 dz HNW.out HOL.out.info HOL.out.size HOL.out.one ?_
       generalize hV : World.setRow (World.alloc W _) _ LL.toArray = V
       have HZV : Hid (Box V (w.heap.size + 1) dz 26) := Lib.hid (by rw [← hV]; exact HZN.out)
       have HXV : Hid (∀ w', (∃ p : Regrown, w' = grow (redrawn V p.d) p.os) → w'.rangeAt w.heap.size 0 LD) := Lib.hid (by rw [← hV]; exact HXN.out)
       have HTV : Hid (∀ w', (∃ p : Regrown, w' = grow (redrawn V p.d) p.os) → w'.rangeAt W.heap.size 0 LL) := Lib.hid (by rw [← hV]; exact HTN.out)
       have HBV : Hid (Below w.heap.size w V) := Lib.hid (by rw [← hV]; exact HBN.out)
       have hg2 := HBV.out.size
       have cC := Calls.regrownAll (w := V) (fun w' hb => HC.out w' (HBV.out.trans (hb.mono hg2)))
       have cP := DigPost.grown (w := V) (fun w' hb => HP.out w' (HBV.out.trans (hb.mono hg2)))
       clear hV HZN HXN HTN HBN HLN HNW HZW HXR HLR
       generalize W.heap.size = G at *))
  have i1 : (0 : Int) ≤ (m : Int) ∧ (m : Int) ≤ (c : Int) ∧ (m : Int) < (m : Int) + 1 := by omega
  have j1 : IntKind.i64.wrap (m : Int) = (m : Int) := IntWalk.i64_in _ (by omega)
  clear hbW HBW HSPL HC HP t1 hm hm2 hn
  refine region_tail_below 11 (by kernel_rfl) (by kernel_rfl) ?_
  simp only [List.take_succ_cons, List.take_zero, List.drop_succ_cons, List.drop_zero]
  refine qload rfl 26 (.tmp 4) rfl w.heap.size 0 rfl LD _ HXV.out Tryd.underlying26 rfl HID.out ?_
  simp only [Act.put, List.setIfInBounds_toArray, List.set_cons_succ, List.set_cons_zero]
  iterate 8 (quiet_step (exact cC _ _))
  refine qload rfl 26 (.tmp 10) rfl G 0 rfl LL _ HTV.out Tryd.underlying26 rfl HIL.out ?_
  simp only [Act.put, List.setIfInBounds_toArray, List.set_cons_succ, List.set_cons_zero]
  quiet_step (exact cP _ _)
  refine wpQuiet_nil ?_
  intro w2 hw'
  obtain ⟨⟨dq, osq⟩, hw''⟩ := hw'
  subst hw''
  have hbq := below_regrown V dq osq
  have hbx := HZV.out.below hbq
  have hbw := HBV.out.trans (hbq.mono hg2)
  generalize grow (redrawn V dq) osq = W2 at *
  have HBX := Lib.hid hbx
  clear cC cP hbx hbq HZV HXV HTV
  have HR := Lib.hid HRF.out
  generalize hCS : dcells R = CR at *
  have HCR := Lib.hid hCS
  clear hCS HRF
  go_wp2_with (first | (refine wpList_store_row rfl 26 (.tmp 8) (.tmp 36) rfl (w.heap.size + 1) CR rfl rfl 26 dz HBX.out HR.out.info HR.out.size HR.out.one ?_))
  refine bodyPost_ret (v := .agg CR) ?_ rfl ?_
  · exact results_cell_row Tryd.results44 _ _ (w.heap.size + 1) 26 CR (0, 0) _ rfl (Box.setRow HBX.out) Tryd.underlying26 rfl HR.out.info
  · exact ⟨by rw [HCR.out], fin_store CR hbw (by omega)⟩

set_option maxHeartbeats 1000000 in
set_option maxRecDepth 100000 in
theorem refClimb_right (b off n c i k m : Nat) (LD LL LT : List Value) (R : List UInt8) (w : World) (h1 : 1 < n) (hn : n ≤ 2199023255552) (hk : half n = k) (hi : ¬ i < k) (hin : i < n) (hm : m + 1 ≤ c) (hm2 : m ≤ 1000000)
    (hD : LD.length = 32) (hL : LL.length = 32) (hone : LL.toArray.all (·.oneCell') = true) (hR : R.length = 32) (hX : w.rangeAt b (off + m * 32) LL)
    (hC : ∀ W, Below w.heap.size w W → Calls Tryd.prog 44 #[.agg LD.toArray, .int .i64 ((i : Int) - (k : Int)), .int .i64 ((n : Int) - (k : Int)), .slice (some ⟨b, off, none⟩) m c] W (fun e w' => e = .returned (.agg LT.toArray) ∧ Below W.heap.size W w'))
    (hP : ∀ W, Below w.heap.size w W → Calls Tryd.prog 38 #[.agg LL.toArray, .agg LT.toArray] W (DigPost R W)) :
    Calls Tryd.prog 44 #[.agg LD.toArray, .int .i64 i, .int .i64 n, .slice (some ⟨b, off, none⟩) (m + 1) c] w (DigPost R w) := by
  have HSPL := Lib.hid (fun w => refHalf_any n w h1 (by omega))
  have hkl := half_le n h1
  have hkp := half_pos n
  rw [hk] at HSPL hkl hkp
  clear hk
  have t1 : ((n : Int) == 1) = false := by simp; omega
  have hb := ((Below.refl w.heap.size w).alloc (Nat.le_refl _) (.cells LD.toArray 26)).alloc (by simp) (.cells dz 26)
  have hx := ((Box.new w LD.toArray 26).alloc (.cells dz 26)).range
  have hz := Box.new (w.alloc (.cells LD.toArray 26)) dz 26
  rw [World.size_alloc] at hz
  have hl := range_below hX hb
  have HB := Lib.hid hb
  have HX := Lib.hid hx
  have HZ := Lib.hid hz
  have HL := Lib.hid hl
  have HC := Lib.hid hC
  have HP := Lib.hid hP
  have HID := Lib.hid (dig_size hD)
  have HIL := Lib.hid (dig_size hL)
  have HRF := Lib.hid (DF.of hR)
  clear hb hx hz hl hC hP hX
  have s1 : IntKind.i64.wrap ((i : Int) - (k : Int)) = (i : Int) - (k : Int) := IntWalk.i64_in _ (by omega)
  have s2 : IntKind.i64.wrap ((n : Int) - (k : Int)) = (n : Int) - (k : Int) := IntWalk.i64_in _ (by omega)
  go_enter Tryd.func44, Tryd.ntmps44
  go_wp2_with fail
  generalize hW : World.alloc (World.alloc w _) _ = W
  have hbW : Below w.heap.size w W := by rw [← hW]; exact HB.out
  have hxW : W.rangeAt w.heap.size 0 LD := by rw [← hW]; exact HX.out
  have hzW : Box W (w.heap.size + 1) dz 26 := by rw [← hW]; exact HZ.out
  have hlW : W.rangeAt b (off + m * 32) LL := by rw [← hW]; exact HL.out
  clear hW HB HX HZ HL
  have HXR := Lib.hid hxW
  have HLR := Lib.hid hlW
  have HZW := Lib.hid hzW
  have HBW := Lib.hid hbW
  clear hxW hlW hzW
  have hg1 := hbW.size
  have HBW2 := Lib.hid hbW
  have hoL := DF.of_list hL hone
  have hbf := below_fill' W dz LL.toArray 26
  have HZN := Lib.hid (HZW.out.below hbf)
  have HXN := Lib.hid (range_regrown (range_below HXR.out hbf))
  have HTN := Lib.hid (range_regrown (Box.range (box_fill' W dz LL.toArray 26)))
  have HBN := Lib.hid (HBW2.out.trans (hbf.mono HBW2.out.size))
  have HLN := Lib.hid HLR.out
  have HNW := Lib.hid (Box.new W dz 26)
  have HOL := Lib.hid hoL
  clear hbf hoL
  refine (HSPL.out _).mono ?_
  rintro e w1 ⟨rfl, rfl⟩
  go_wp2_with (first
    | (refine wpList_load_mid rfl 26 (.tmp 21) rfl b (off + m * 32) rfl LL _ HLN.out Tryd.underlying26 rfl HIL.out ?_)
    | (refine wpList_store_row rfl 26 (.tmp 10) (.tmp 22) rfl W.heap.size LL.toArray rfl rfl 26 dz HNW.out HOL.out.info HOL.out.size HOL.out.one ?_
       generalize hV : World.setRow (World.alloc W _) _ LL.toArray = V
       have HZV : Hid (Box V (w.heap.size + 1) dz 26) := Lib.hid (by rw [← hV]; exact HZN.out)
       have HXV : Hid (∀ w', (∃ p : Regrown, w' = grow (redrawn V p.d) p.os) → w'.rangeAt w.heap.size 0 LD) := Lib.hid (by rw [← hV]; exact HXN.out)
       have HTV : Hid (∀ w', (∃ p : Regrown, w' = grow (redrawn V p.d) p.os) → w'.rangeAt W.heap.size 0 LL) := Lib.hid (by rw [← hV]; exact HTN.out)
       have HBV : Hid (Below w.heap.size w V) := Lib.hid (by rw [← hV]; exact HBN.out)
       have hg2 := HBV.out.size
       have cC := Calls.regrownAll (w := V) (fun w' hb => HC.out w' (HBV.out.trans (hb.mono hg2)))
       have cP := DigPost.grown (w := V) (fun w' hb => HP.out w' (HBV.out.trans (hb.mono hg2)))
       clear hV HZN HXN HTN HBN HLN HNW HZW HXR HLR
       generalize W.heap.size = G at *))
  have i1 : (0 : Int) ≤ (m : Int) ∧ (m : Int) ≤ (c : Int) ∧ (m : Int) < (m : Int) + 1 := by omega
  have j1 : IntKind.i64.wrap (m : Int) = (m : Int) := IntWalk.i64_in _ (by omega)
  clear hbW HBW HSPL HC HP t1 hm hm2 hn
  refine region_tail_below 15 (by kernel_rfl) (by kernel_rfl) ?_
  simp only [List.take_succ_cons, List.take_zero, List.drop_succ_cons, List.drop_zero]
  refine qload rfl 26 (.tmp 10) rfl G 0 rfl LL _ HTV.out Tryd.underlying26 rfl HIL.out ?_
  simp only [Act.put, List.setIfInBounds_toArray, List.set_cons_succ, List.set_cons_zero]
  refine qload rfl 26 (.tmp 4) rfl w.heap.size 0 rfl LD _ HXV.out Tryd.underlying26 rfl HID.out ?_
  simp only [Act.put, List.setIfInBounds_toArray, List.set_cons_succ, List.set_cons_zero]
  iterate 12 (quiet_step (exact cC _ _))
  quiet_step (exact cP _ _)
  refine wpQuiet_nil ?_
  intro w2 hw'
  obtain ⟨⟨dq, osq⟩, hw''⟩ := hw'
  subst hw''
  have hbq := below_regrown V dq osq
  have hbx := HZV.out.below hbq
  have hbw := HBV.out.trans (hbq.mono hg2)
  generalize grow (redrawn V dq) osq = W2 at *
  have HBX := Lib.hid hbx
  clear cC cP hbx hbq HZV HXV HTV
  have HR := Lib.hid HRF.out
  generalize hCS : dcells R = CR at *
  have HCR := Lib.hid hCS
  clear hCS HRF
  go_wp2_with (first | (refine wpList_store_row rfl 26 (.tmp 8) (.tmp 51) rfl (w.heap.size + 1) CR rfl rfl 26 dz HBX.out HR.out.info HR.out.size HR.out.one ?_))
  refine bodyPost_ret (v := .agg CR) ?_ rfl ?_
  · exact results_cell_row Tryd.results44 _ _ (w.heap.size + 1) 26 CR (0, 0) _ rfl (Box.setRow HBX.out) Tryd.underlying26 rfl HR.out.info
  · exact ⟨by rw [HCR.out], fin_store CR hbw (by omega)⟩

theorem refClimb_any : ∀ (rs : List (List UInt8)) (d : List UInt8) (i n : Nat) (A : Option Addr) (c : Nat) (w : World), rs.length = pl i n → i < n → n ≤ 1099511627776 → d.length = 32 → Ds w.heap.size w A rs.reverse → rs.length ≤ c → rs.length ≤ 1000000 →
    Calls Tryd.prog 44 #[.agg (dcells d), .int .i64 i, .int .i64 n, .slice A rs.length c] w (DigPost (clr rs d i n) w)
  | [], d, i, n, A, c, w, hp, hi, hn, hd, hD, h1, h2 => by
    have hn1 : n = 1 := by
      by_cases h : n ≤ 1
      · omega
      · by_cases hik : i < half n
        · rw [pl_left i n (by omega) hik] at hp; simp at hp
        · rw [pl_right i n (by omega) hik] at hp; simp at hp
    subst hn1
    obtain rfl : i = 0 := by omega
    exact refClimb_leaf d A 0 c w hd
  | L :: r, d, i, n, A, c, w, hp, hi, hn, hd, hD, h1, h2 => by
    have hn1 : 1 < n := by
      rcases Nat.lt_or_ge 1 n with h | h
      · exact h
      · rw [pl_end i n h] at hp
        simp at hp
    have hkl := half_le n hn1
    have hkp := half_pos n
    rw [List.length_cons] at hp h1 h2
    rw [List.reverse_cons] at hD
    obtain ⟨b, off, rfl, hbl, hc⟩ := hD.2 (by simp)
    have hLl : L.length = 32 := hD.1 L (by simp)
    have hX : w.rangeAt b (off + r.length * 32) (L.map bv) := hc r.length L (by rw [List.getElem?_append_right (by simp)]; simp)
    have hDr : ∀ W, Below w.heap.size w W → Ds W.heap.size W (some ⟨b, off, none⟩) r.reverse := fun W hb => by
      have := (hD.up hb).take r.reverse.length
      rwa [List.take_left] at this
    rw [List.length_cons]
    simp only [clr]
    by_cases hik : i < half n
    · rw [if_pos hik]
      rw [pl_left i n hn1 hik] at hp
      exact refClimb_left b off n c i (half n) r.length (d.map bv) (L.map bv) ((clr r d i (half n)).map bv) _ w hn1 (by omega) rfl hik h1 (by omega) (by simp [hd]) (by simp [hLl]) (DF.of hLl).one rfl hX
        (fun W hb => refClimb_any r d i (half n) (some ⟨b, off, none⟩) c W (by omega) hik (by omega) hd (hDr W hb) (by omega) (by omega))
        (fun W hb => refNode_any _ _ W (clr_length _ _ _ _) hLl)
    · rw [if_neg hik]
      rw [pl_right i n hn1 hik] at hp
      refine refClimb_right b off n c i (half n) r.length (d.map bv) (L.map bv) ((clr r d (i - half n) (n - half n)).map bv) _ w hn1 (by omega) rfl hik hi h1 (by omega) (by simp [hd]) (by simp [hLl]) (DF.of hLl).one rfl hX
        (fun W hb => ?_)
        (fun W hb => refNode_any _ _ W hLl (clr_length _ _ _ _))
      have := refClimb_any r d (i - half n) (n - half n) (some ⟨b, off, none⟩) c W (by omega) (by omega) (by omega) hd (hDr W hb) (by omega) (by omega)
      rwa [show ((i - half n : Nat) : Int) = (i : Int) - (half n : Int) by omega, show ((n - half n : Nat) : Int) = (n : Int) - (half n : Int) by omega] at this

end Go.Proofs.YtdjlblfpkieenaaDoor
