/- DigestNext. -/
import Derived.Test.YtggmmbkhekoagaaDoorTab
import Derived.Test.YtggmmbkhekoagaaDoorSteps
import Derived.Test.YtggmmbkhekoagaaDoorEq
import Derived.Test.YtggmmbkhekoagaaDoorSane
namespace Go.Proofs.YtggmmbkhekoagaaDoor
open Go.RowKit Go.Sort
set_option linter.unusedVariables false

/-- What lasts: the table, what was there, the digests, the further element. -/
structure NF (w : World) (A : Option Addr) (ds : List (List UInt8)) (g3 : Nat) (C : Array Value) (W : World) : Prop where
  K : KT W
  B : Below w.heap.size w W
  D : Ds W.heap.size W A ds
  X : Box W g3 C 26
theorem NF.up {w : World} {A : Option Addr} {ds : List (List UInt8)} {g3 : Nat} {C : Array Value} {W W' : World} (h : NF w A ds g3 C W) (hb : Below W.heap.size W W') : NF w A ds g3 C W' :=
  ⟨h.K.below hb, h.B.trans (hb.mono h.B.size), h.D.up hb, h.X.below hb⟩
theorem Ds.of_box {W : World} {g : Nat} {d : List UInt8} (hd : d.length = 32) (h : Box W g (dcells d) 26) : Ds W.heap.size W (some ⟨g, 0, none⟩) [d] := by
  refine ⟨fun x hx => by simp at hx; rw [hx]; exact hd, fun _ => ⟨g, 0, rfl, h.lt, fun i x hi => ?_⟩⟩
  obtain rfl : i = 0 := by
    have := (List.getElem?_eq_some_iff.1 hi).1
    simp at this
    exact this
  simp at hi
  subst hi
  exact Box.range h
/-- .. and both digests. -/
structure GN (w : World) (A : Option Addr) (ds : List (List UInt8)) (g3 : Nat) (C : Array Value) (g7 g8 : Nat) (M1 M2 : Array Value) (W : World) : Prop where
  F : NF w A ds g3 C W
  X1 : Box W g7 M1 26
  X2 : Box W g8 M2 26
theorem GN.up {w : World} {A : Option Addr} {ds : List (List UInt8)} {g3 : Nat} {C : Array Value} {g7 g8 : Nat} {M1 M2 : Array Value} {W W' : World} (h : GN w A ds g3 C g7 g8 M1 M2 W) (hb : Below W.heap.size W W') : GN w A ds g3 C g7 g8 M1 M2 W' :=
  ⟨h.F.up hb, h.X1.below hb, h.X2.below hb⟩
attribute [local go_sem ↓] eql_dig neq_dig
attribute [local go_sem] guard_dig putO upd
set_option maxHeartbeats 2000000 in
set_option maxRecDepth 100000 in
theorem lawNext_any (A : Option Addr) (c : Nat) (l d : List UInt8) (w : World) (hK : KT w) (hS : Sl w A l c) (hd32 : d.length = 32) :
    Calls Tryd.prog 8 #[.slice A l.length c, .agg (dcells d)] w fun e w' => e = .returned (.bool true) ∧ Below w.heap.size w w' := by
  have hb0 := (Below.refl w.heap.size w).alloc (Nat.le_refl _) (.cells (dcells d) 26)
  have HSN := Lib.hid (sane_any (w.alloc (.cells (dcells d) 26)) (hK.below hb0))
  have HDO := Lib.hid (fun w' (hb : Below w.heap.size w w') => digestsOf_any A c l w' (hS.up hb))
  have HX := Lib.hid (Box.new w (dcells d) 26)
  have HK := Lib.hid hK
  clear hK hS
  have hn24 : min l.length 24 ≤ 24 := by omega
  have hlen := dgk_length l (min l.length 24)
  have h32 := dgk_len32 l (min l.length 24)
  generalize hds : dgk l (min l.length 24) = ds at *
  generalize hnn : min l.length 24 = n at *
  have HLEN := Lib.hid hlen
  have H32 := Lib.hid h32
  have HD32 := Lib.hid hd32
  clear hds hnn hlen h32
  generalize l.length = nl at *
  obtain ⟨LD, hLD⟩ : ∃ LD, d.map bv = LD := ⟨_, rfl⟩
  have hdc : dcells d = LD.toArray := by rw [← hLD]; rfl
  have HLD := Lib.hid hLD
  have HL32 := Lib.hid (show LD.length = 32 by rw [← hLD, List.length_map, hd32])
  have HONE : Hid (∀ u ∈ LD, u.oneCell' = true) := Lib.hid (by rw [← hLD]; exact bv_one d)
  have HDD : Hid (DF LD.toArray) := Lib.hid (by rw [← hdc]; exact DF.of hd32)
  rw [hdc] at hb0 HSN HX ⊢
  clear hLD hd32
  go_enter Tryd.func8, Tryd.ntmps8
  go_wp2_with fail
  refine HSN.out.mono ?_
  rintro e w1 ⟨rfl, hb1⟩
  have hbw1 := hb0.trans (hb1.mono hb0.size)
  go_wp2_with fail
  refine (HDO.out w1 hbw1).mono ?_
  rintro e w2 ⟨A1, c1, rfl, ho2, hb2⟩
  have hbw2 := hbw1.trans (hb2.mono hbw1.size)
  obtain ⟨hD, hc1, hc2⟩ := Ds.of_own ho2 HLEN.out H32.out
  have HN2 : Hid (NF w A1 ds w.heap.size LD.toArray w2) := Lib.hid ⟨HK.out.below hbw2, hbw2, hD, (HX.out.below hb1).below hb2⟩
  have HC := Lib.hid (And.intro hc1 hc2)
  have HDC := Lib.hid hdc
  clear hb0 hb1 hbw1 hb2 ho2 hbw2 hD HSN HDO hc1 hc2 HX hdc HK
  generalize hg3 : w.heap.size = g3 at HN2 ⊢
  go_wp2_with fail
  go_loopw [6] (fun i wr => ∃ j k : Nat, k = 2 ^ j ∧ k ≤ 48 ∧ i = .int .i64 k ∧ Below w2.heap.size w2 wr) (fun i _ => 48 - (intOf i).toNat)
  case atStart => exact ⟨0, 1, rfl, by omega, rfl, Below.refl _ _⟩
  case round =>
    obtain ⟨j, k, hk, hk48, rfl, hbw⟩ := hrel
    have HB := Lib.hid hbw
    have HKJ := Lib.hid hk
    clear hbw hk
    by_cases hkn : k ≤ n
    · go_upto_region 7 with fail
      have hk1 : 0 < k := by rw [HKJ.out]; exact Nat.pow_pos (by omega)
      have HN := Lib.hid (HN2.out.up HB.out)
      obtain ⟨b, off, rfl, _, _⟩ := HN.out.D.2 (by rw [HLEN.out]; omega)
      have hlk : (ds.take k).length = k := by rw [List.length_take, HLEN.out]; omega
      have hlt : tr (ds.take k ++ [d]) = tg [110, 111, 100, 101] (tr (ds.take k) ++ tr [d]) ∧ pth (ds.take k ++ [d]) k = [tr (ds.take k)] := by
        have hl : (ds.take k ++ [d]).length = k + 1 := by rw [List.length_append, hlk]; rfl
        have hh : half (k + 1) = k := by
          have := half_pow j (k + 1) (by rw [← HKJ.out]; omega) (by rw [Nat.pow_succ, ← HKJ.out]; omega)
          rw [this, HKJ.out]
        have t1 : (ds.take k ++ [d]).take k = ds.take k := by rw [List.take_append_of_le_length (by omega), List.take_of_length_le (by omega)]
        have t2 : (ds.take k ++ [d]).drop k = [d] := by rw [List.drop_append_of_le_length (by omega), List.drop_of_length_le (by omega)]; rfl
        have h1 := tr_node (ds.take k ++ [d]) (by omega)
        have h2 := pth_right (ds.take k ++ [d]) k (by omega) (by rw [hl, hh]; omega)
        rw [hl, hh, t1, t2] at h1 h2
        rw [h1, h2, pth_end [d] _ (by simp)]
        exact ⟨rfl, rfl⟩
      have HLT := Lib.hid hlt
      have HLK := Lib.hid hlk
      have i2 : (k : Int) ≤ (n : Int) := by omega
      have i3 : (k : Int) ≤ (c1 : Int) := by have := HC.out.1; omega
      have i4 : (n : Int) ≤ (c1 : Int) := by have := HC.out.1; omega
      have i5 : (0 : Int) ≤ (k : Int) := by omega
      have hTA : ∀ W, Aft wr W → Calls Tryd.prog 17 #[.slice (some ⟨b, off, none⟩) k c1] W (DigPost (tr (ds.take k)) W) := fun W hb => by
        have hF := HN.out.up hb
        have := tree_any k (ds.take k) (some ⟨b, off, none⟩) c1 W (by rw [hlk]; exact Nat.le_refl _) hF.K (hF.D.take k) (by rw [hlk]; have := HC.out.1; omega) HC.out.2 (by rw [hlk]; omega)
        rwa [hlk] at this
      have hTB : ∀ W, Aft wr W → ∀ g, Box W g LD.toArray 26 → Calls Tryd.prog 17 #[.slice (some ⟨g, 0, none⟩) 1 1] W (DigPost (tr [d]) W) := fun W hb g hg => by
        rw [← HDC.out] at hg
        exact tree_any 1 [d] (some ⟨g, 0, none⟩) 1 W (Nat.le_refl _) (HN.out.up hb).K (Ds.of_box HD32.out hg) (Nat.le_refl _) (le_maxLen (by omega)) (by show 1 ≤ _; omega)
      obtain ⟨CA, hCA⟩ : ∃ C, dcells (tr (ds.take k)) = C := ⟨_, rfl⟩
      obtain ⟨CB, hCB⟩ : ∃ C, dcells (tr [d]) = C := ⟨_, rfl⟩
      unfold DigPost at hTA hTB
      rw [hCA] at hTA
      rw [hCB] at hTB
      have HTA := Lib.hid hTA
      have HTB := Lib.hid hTB
      have HCA := Lib.hid hCA
      have HCB := Lib.hid hCB
      clear hTA hTB hCA hCB hlk hlt
      refine region_gen 9 [some 22, some 23, some 24, some 25, some 26, some 27, some 28, some 7, some 8] (Aft wr) (phiT wr.heap.size [.val (.slice (some ⟨b, off, none⟩) n c1 : Value), .val (.int .i64 (k : Int) : Value), .val (.slice (some ⟨b, off, none⟩) k c1 : Value), .val (.agg CA), .val (.agg LD.toArray), .one LD.toArray, .val (.agg CB), .ptr dz, .ptr dz]) (psiT [.val (.slice (some ⟨b, off, none⟩) n c1 : Value), .val (.int .i64 (k : Int) : Value), .val (.slice (some ⟨b, off, none⟩) k c1 : Value), .val (.agg CA), .val (.agg LD.toArray), .one LD.toArray, .val (.agg CB), .ptr dz, .ptr dz]) (fun _ _ => false) (by kernel_rfl) ?_ ?_ ?_ ?_ ?_
      · kernel_rfl
      · kernel_rfl
      · exact (Below.refl wr.heap.size wr).drew
      · simp only [List.take_succ_cons, List.take_zero, StepsG, Nat.reduceAdd, Nat.zero_add]
        refine ⟨?_, ?_, ?_, ?_, ?_, ?_, ?_, ?_, ?_, trivial⟩
        · constructor
          intro vs W hC hd
          refine ⟨wants rfl, fun K hK => ?_⟩
          go_simp
          refine hK _ _ (left_val ((.slice (some ⟨b, off, none⟩) n c1 : Value)) rfl ?_ (Below.refl _ _) hC)
          kernel_rfl
        · constructor
          intro vs W hC hd
          refine ⟨wants rfl, fun K hK => ?_⟩
          go_simp
          refine hK _ _ (left_val ((.int .i64 (k : Int) : Value)) rfl ?_ (Below.refl _ _) hC)
          kernel_rfl
        · constructor
          intro vs W hC hd
          refine ⟨wants rfl, fun K hK => ?_⟩
          rw [vs_is (show vs 0 = (.slice (some ⟨b, off, none⟩) n c1 : Value) from hd 0 (by kernel_rfl)), vs_is (show vs 1 = (.int .i64 (k : Int) : Value) from hd 1 (by kernel_rfl))]
          go_simp
          refine hK _ _ (left_val ((.slice (some ⟨b, off, none⟩) k c1 : Value)) rfl ?_ (Below.refl _ _) hC)
          rw [vs_is (show vs 0 = (.slice (some ⟨b, off, none⟩) n c1 : Value) from hd 0 (by kernel_rfl)), vs_is (show vs 1 = (.int .i64 (k : Int) : Value) from hd 1 (by kernel_rfl))]
          kernel_rfl
        · constructor
          intro vs W hC hd
          refine ⟨wants rfl, fun K hK => ?_⟩
          rw [vs_is (show vs 2 = (.slice (some ⟨b, off, none⟩) k c1 : Value) from hd 2 (by kernel_rfl))]
          go_simp
          refine (HTA.out W hC).mono ?_
          rintro e w' ⟨rfl, hb⟩
          refine hK _ _ (left_val (.agg CA) rfl ?_ hb hC)
          rw [vs_is (show vs 2 = (.slice (some ⟨b, off, none⟩) k c1 : Value) from hd 2 (by kernel_rfl))]
          kernel_rfl
        · exact st_ld (.tmp 3) g3 rfl (fun _ _ _ => wants rfl) rfl (fun _ => by kernel_rfl) HN.out.X HDD.out (fun _ _ => by kernel_rfl)
        · exact st_b1 4 (.tmp 26) rfl rfl (by kernel_rfl) rfl rfl (fun _ => by kernel_rfl) HL32.out (fun _ _ => by kernel_rfl)
        · constructor
          intro vs W hC hd
          obtain ⟨g5, e5, x5⟩ := (show ∃ g, vs 5 = .slice (some ⟨g, 0, none⟩) 1 1 ∧ Box W g LD.toArray 26 from hd 5 (by kernel_rfl))
          refine ⟨wants rfl, fun K hK => ?_⟩
          rw [vs_is e5]
          go_simp
          refine (HTB.out W hC g5 x5).mono ?_
          rintro e w' ⟨rfl, hb⟩
          refine hK _ _ (left_val (.agg CB) rfl ?_ hb hC)
          rw [vs_is e5]
          kernel_rfl
        · exact st_al rfl rfl rfl (fun _ _ => by kernel_rfl)
        · exact st_al rfl rfl rfl (fun _ _ => by kernel_rfl)
      · intro vs W hC hv hp
        have e3 : vs 3 = .agg CA := hv 3 (by omega) (fun _ _ => rfl)
        have e6 : vs 6 = .agg CB := hv 6 (by omega) (fun _ _ => rfl)
        obtain ⟨g7, e7, hg7, hx7⟩ := hv 7 (by omega) (fun _ _ => rfl)
        obtain ⟨g8, e8, hg8, hx8⟩ := hv 8 (by omega) (fun _ _ => rfl)
        have hne : g7 ≠ g8 := fun h => hp 7 8 (by omega) (by omega) (fun _ _ => rfl) (fun _ _ => rfl) (by omega) rfl rfl g7 (by rw [e7]; rfl) (by rw [e8, ← h]; rfl)
        clear hv hp
        have HW := Lib.hid hC
        have HX7 := Lib.hid hx7
        have HX8 := Lib.hid (hx8.grown (setRow_grown W g7 CA) (fun e => by injection e with e; omega))
        have hd1 : DF CA := by rw [← HCA.out]; exact DF.of (tr_length _)
        have hd2 : DF CB := by rw [← HCB.out]; exact DF.of (tr_length _)
        have HD1 := Lib.hid hd1
        have HD2 := Lib.hid hd2
        have HGN := Lib.hid (And.intro hg7 (And.intro hg8 hne))
        clear hC hx7 hx8 hd1 hd2 hg7 hg8 hne HTA HTB
        simp only [List.drop_succ_cons, List.drop_zero, putO, e3, e6, e7, e8, Nat.reduceAdd, Nat.zero_add]
        clear e3 e6 e7 e8
        simp only [Act.put, List.setIfInBounds_toArray, List.set_cons_succ, List.set_cons_zero]
        go_upto_region 8 with (first
          | (refine wpList_store_row rfl 26 (.tmp 7) (.tmp 25) rfl g7 CA rfl rfl 26 dz HX7.out HD1.out.info HD1.out.size HD1.out.one ?_)
          | (refine wpList_store_row rfl 26 (.tmp 8) (.tmp 28) rfl g8 CB rfl rfl 26 dz HX8.out HD2.out.info HD2.out.size HD2.out.one ?_))
        generalize hW : World.setRow (World.setRow W _ CA) _ CB = W7
        have hb7 : Below wr.heap.size wr W7 := by rw [← hW]; exact fin_store CB (fin_store CA HW.out HGN.out.1) HGN.out.2.1
        have hx7 : Box W7 g7 CA 26 := by rw [← hW]; exact (Box.setRow HX7.out).grown (setRow_grown _ g8 CB) (fun e => by injection e with e; exact HGN.out.2.2 e)
        have hx8 : Box W7 g8 CB 26 := by rw [← hW]; exact Box.setRow HX8.out
        have HG : Hid (GN w (some ⟨b, off, none⟩) ds g3 LD.toArray g7 g8 CA CB W7) := Lib.hid ⟨HN.out.up hb7, hx7, hx8⟩
        have HB7 := Lib.hid (HB.out.trans (hb7.mono HB.out.size))
        clear hW hb7 hx7 hx8 HX7 HX8 HW HN HGN HB
        refine region_gen 8 [some 29, some 30, some 31, some 32, some 33, some 34, some 35, some 36] (Aft W7) (phiT W7.heap.size [.row 26 32 0 [], .val (.slice (some ⟨b, off, none⟩) n c1 : Value), .val (.int .i64 (k : Int) : Value), .val (.slice (some ⟨b, off, none⟩) k c1 : Value), .row 26 32 k ([] ++ flat (ds.take k)), .val (.agg LD.toArray), .one LD.toArray, .row 26 32 (k + 1) (([] ++ flat (ds.take k)) ++ LD)]) (psiT [.row 26 32 0 [], .val (.slice (some ⟨b, off, none⟩) n c1 : Value), .val (.int .i64 (k : Int) : Value), .val (.slice (some ⟨b, off, none⟩) k c1 : Value), .row 26 32 k ([] ++ flat (ds.take k)), .val (.agg LD.toArray), .one LD.toArray, .row 26 32 (k + 1) (([] ++ flat (ds.take k)) ++ LD)]) (fun i j => (i == 4 && j == 0) || (i == 7 && j == 4)) (by kernel_rfl) ?_ ?_ ?_ ?_ ?_
        · kernel_rfl
        · kernel_rfl
        · exact (Below.refl W7.heap.size W7).drew
        · simp only [List.take_succ_cons, List.take_zero, StepsG, Nat.reduceAdd, Nat.zero_add]
          refine ⟨?_, ?_, ?_, ?_, ?_, ?_, ?_, ?_, trivial⟩
          · exact st_b0 rfl rfl rfl (fun _ _ => by kernel_rfl)
          · constructor
            intro vs W hC hd
            refine ⟨wants rfl, fun K hK => ?_⟩
            go_simp
            refine hK _ _ (left_val ((.slice (some ⟨b, off, none⟩) n c1 : Value)) rfl ?_ (Below.refl _ _) hC)
            kernel_rfl
          · constructor
            intro vs W hC hd
            refine ⟨wants rfl, fun K hK => ?_⟩
            go_simp
            refine hK _ _ (left_val ((.int .i64 (k : Int) : Value)) rfl ?_ (Below.refl _ _) hC)
            kernel_rfl
          · constructor
            intro vs W hC hd
            refine ⟨wants rfl, fun K hK => ?_⟩
            rw [vs_is (show vs 1 = (.slice (some ⟨b, off, none⟩) n c1 : Value) from hd 1 (by kernel_rfl)), vs_is (show vs 2 = (.int .i64 (k : Int) : Value) from hd 2 (by kernel_rfl))]
            go_simp
            refine hK _ _ (left_val ((.slice (some ⟨b, off, none⟩) k c1 : Value)) rfl ?_ (Below.refl _ _) hC)
            rw [vs_is (show vs 1 = (.slice (some ⟨b, off, none⟩) n c1 : Value) from hd 1 (by kernel_rfl)), vs_is (show vs 2 = (.int .i64 (k : Int) : Value) from hd 2 (by kernel_rfl))]
            kernel_rfl
          · exact st_apd 0 3 (.tmp 29) (.tmp 32) rfl rfl rfl (by kernel_rfl) (by kernel_rfl) rfl rfl rfl (fun _ => by kernel_rfl) (fun _ => by kernel_rfl) (fun _ _ => by kernel_rfl) HLK.out (HG.out.F.D.take k) (fun h => by cases h) (by omega) (by omega)
          · exact st_ld (.tmp 3) g3 rfl (fun _ _ _ => wants rfl) rfl (fun _ => by kernel_rfl) HG.out.F.X HDD.out (fun _ _ => by kernel_rfl)
          · exact st_b1 5 (.tmp 34) rfl rfl (by kernel_rfl) rfl rfl (fun _ => by kernel_rfl) HL32.out (fun _ _ => by kernel_rfl)
          · exact st_ap1 4 6 (.tmp 33) (.tmp 35) rfl rfl rfl (by kernel_rfl) (by kernel_rfl) rfl rfl rfl (fun _ => by kernel_rfl) (fun _ => by kernel_rfl) (fun _ _ => by kernel_rfl) HL32.out HONE.out rfl (by omega)
        · intro vs W hC hv hp
          obtain ⟨A9, c9, e7, ho⟩ := hv 7 (by omega) (by decide)
          clear hv hp
          rw [e7] at ho
          have hfl : ([] ++ flat (ds.take k)) ++ LD = flat (ds.take k ++ [d]) := by rw [flat_snoc, HLD.out, List.nil_append]
          rw [hfl] at ho
          have hl9 : (ds.take k ++ [d]).length = k + 1 := by rw [List.length_append, HLK.out]; rfl
          have h329 : ∀ x, x ∈ ds.take k ++ [d] → x.length = 32 := fun x hx => by
            rcases List.mem_append.1 hx with h | h
            · exact H32.out x (List.mem_of_mem_take h)
            · simp at h; rw [h]; exact HD32.out
          obtain ⟨hD9, h91, h92⟩ := Ds.of_own ho hl9 h329
          have hB9 := HB7.out.trans (hC.mono HB7.out.size)
          have G9 := HG.out.up hC
          have hpl : pl k (k + 1) = 1 := by
            have := pth_length (k + 1) (ds.take k ++ [d]) k (by omega)
            rw [hl9, HLT.out.2] at this
            exact this.symm
          have hPA := path_any (ds.take k ++ [d]) A9 c9 k (k + 1) W hl9 (by omega) G9.F.K hD9 h91 h92 (by omega)
          rw [HLT.out.2, hpl] at hPA
          have hT9 : ∀ W', Aft W W' → Calls Tryd.prog 17 #[.slice A9 (k + 1) c9] W' (DigPost (tr (ds.take k ++ [d])) W') := fun W' hb => by
            have := tree_any (k + 1) (ds.take k ++ [d]) A9 c9 W' (by omega) (G9.F.K.below hb) (hD9.up hb) (by omega) h92 (by omega)
            rwa [hl9] at this
          have HT9 := Lib.hid hT9
          have HPA := Lib.hid hPA
          have HG9 := Lib.hid G9
          have HB9 := Lib.hid hB9
          have hl1 := tr_length (ds.take k)
          have hl2 := tr_length [d]
          have htg := HLT.out.1
          have hlt := tr_length (ds.take k ++ [d])
          clear hC ho hfl hl9 h329 hD9 h91 h92 hB9 G9 hpl hPA hT9 HG HB7 HLT HLK
          generalize tr (ds.take k) = M1 at *
          generalize tr [d] = M2 at *
          generalize tr (ds.take k ++ [d]) = M9 at *
          have HL1 := Lib.hid hl1
          have HL2 := Lib.hid hl2
          have HTT := Lib.hid htg
          have HLT := Lib.hid hlt
          clear hl1 hl2 htg hlt
          simp only [List.drop_succ_cons, List.drop_zero, putO, e7, Nat.reduceAdd, Nat.zero_add]
          clear e7
          simp only [Act.put, List.setIfInBounds_toArray, List.set_cons_succ, List.set_cons_zero]
          go_wp2_with fail
          refine HPA.out.mono ?_
          rintro e w10 ⟨A10, c10, rfl, ho10, hb10⟩
          obtain ⟨hD10, _, _⟩ := Ds.of_own (ds := [M1]) ho10 rfl (fun x hx => by simp at hx; rw [hx]; exact HL1.out)
          obtain ⟨b9, off9, rfl, _, hr⟩ := hD10.2 (by simp)
          have hr0 := hr 0 M1 rfl
          rw [show off9 + 0 * 32 = off9 by omega] at hr0
          have HRG := Lib.hid hr0
          have G10 := HG9.out.up hb10
          have HF10 := Lib.hid G10.F
          have HX7 := Lib.hid G10.X1
          have HS7 : Hid (Sl w10 (some ⟨g7, 0, none⟩) M1 32) := Lib.hid (Sl.of_box (by rw [HCA.out]; exact G10.X1) HL1.out)
          have HS8 : Hid (Sl w10 (some ⟨g8, 0, none⟩) M2 32) := Lib.hid (Sl.of_box (by rw [HCB.out]; exact G10.X2) HL2.out)
          have HB10 := Lib.hid (HB9.out.trans (hb10.mono HB9.out.size))
          have hT10 : ∀ W', Aft w10 W' → Calls Tryd.prog 17 #[.slice A9 (k + 1) c9] W' (DigPost M9 W') := fun W' hb => HT9.out W' (hb10.trans (hb.mono hb10.size))
          have hTG : ∀ W A c, Aft w10 W → W.ownsRow w10.heap.size 5 1 (.slice A 64 c) 64 (([] ++ M1.map bv) ++ M2.map bv) → Calls Tryd.prog 14 #[.string ⟨#[110, 111, 100, 101]⟩, .slice A 64 c] W (DigPost M9 W) := fun W A c hb ho => by
            have hl : (M1 ++ M2).length = 64 := by rw [List.length_append, HL1.out, HL2.out]
            have hs := Sl.of_own (B := w10.heap.size) (A := A) (c := c) (l := M1 ++ M2) (w := W) (by rw [hl, List.map_append]; exact ho)
            have := tagged_any ⟨#[110, 111, 100, 101]⟩ A c (M1 ++ M2) W (HF10.out.K.below hb) hs (by decide) (by omega)
            rw [hl] at this
            rw [HTT.out]
            exact this
          have HT9' := Lib.hid hT10
          have HTG := Lib.hid hTG
          have iT := IsDig.of HLT.out
          have iA := IsDig.of HL1.out
          have HIM := Lib.hid (dig_size (L := M1.map bv) (by simp [HL1.out]))
          have hcm : (M1.map bv).toArray = CA := HCA.out
          have HCM := Lib.hid hcm
          rw [HCA.out] at iA
          clear ho10 hb10 hD10 hr hr0 G10 HT9 hT10 hTG HPA HG9 HB9 hcm
          have HT9 := HT9'
          clear HT9'
          unfold DigPost at HT9 HTG
          generalize dcells M9 = CT at *
          go_upto_region 10 with fail
          refine region_gen 24 [some 43, some 44, some 45, some 46, some 47, some 48, some 49, some 50, some 51, some 52, some 53, some 54, some 55, some 56, some 57, some 58, some 59, some 60, some 61, some 62, some 63, some 64, some 65, some 66] (Aft w10) (phiT w10.heap.size [.val (.slice A9 (k + 1) c9 : Value), .val (.agg CT : Value), .row 5 1 0 [], .val (.slice (some ⟨g7, 0, none⟩) 32 32 : Value), .row 5 1 32 ([] ++ M1.map bv), .val (.slice (some ⟨g8, 0, none⟩) 32 32 : Value), .row 5 1 64 (([] ++ M1.map bv) ++ M2.map bv), .val (.agg CT : Value), .val (.bool false : Value), .val (.bool false : Value), .val (.int .i64 0 : Value), .val (.bool false : Value), .val (.bool false : Value), .val (.bool false : Value), .val (.slice (some ⟨b9, off9, none⟩) 1 c10 : Value), .val (.int .i64 1 : Value), .val (.bool false : Value), .val (.bool false : Value), .val (.bool false : Value), .val (.slice (some ⟨b9, off9, none⟩) 1 c10 : Value), .val (.pointer (some ⟨b9, off9, none⟩) : Value), .val (.agg CA : Value), .val (.agg CA : Value), .val (.bool false : Value)]) (psiT [.val (.slice A9 (k + 1) c9 : Value), .val (.agg CT : Value), .row 5 1 0 [], .val (.slice (some ⟨g7, 0, none⟩) 32 32 : Value), .row 5 1 32 ([] ++ M1.map bv), .val (.slice (some ⟨g8, 0, none⟩) 32 32 : Value), .row 5 1 64 (([] ++ M1.map bv) ++ M2.map bv), .val (.agg CT : Value), .val (.bool false : Value), .val (.bool false : Value), .val (.int .i64 0 : Value), .val (.bool false : Value), .val (.bool false : Value), .val (.bool false : Value), .val (.slice (some ⟨b9, off9, none⟩) 1 c10 : Value), .val (.int .i64 1 : Value), .val (.bool false : Value), .val (.bool false : Value), .val (.bool false : Value), .val (.slice (some ⟨b9, off9, none⟩) 1 c10 : Value), .val (.pointer (some ⟨b9, off9, none⟩) : Value), .val (.agg CA : Value), .val (.agg CA : Value), .val (.bool false : Value)]) (fun i j => (i == 4 && j == 2) || (i == 6 && j == 4)) (by kernel_rfl) ?_ ?_ ?_ ?_ ?_
          · kernel_rfl
          · kernel_rfl
          · exact (Below.refl w10.heap.size w10).drew
          · simp only [List.take_succ_cons, List.take_zero, StepsG, Nat.reduceAdd, Nat.zero_add]
            refine ⟨?_, ?_, ?_, ?_, ?_, ?_, ?_, ?_, ?_, ?_, ?_, ?_, ?_, ?_, ?_, ?_, ?_, ?_, ?_, ?_, ?_, ?_, ?_, ?_, trivial⟩
            · constructor
              intro vs W hC hd
              refine ⟨wants rfl, fun K hK => ?_⟩
              go_simp
              refine hK _ _ (left_val ((.slice A9 (k + 1) c9 : Value)) rfl ?_ (Below.refl _ _) hC)
              kernel_rfl
            · constructor
              intro vs W hC hd
              refine ⟨wants rfl, fun K hK => ?_⟩
              rw [vs_is (show vs 0 = (.slice A9 (k + 1) c9 : Value) from hd 0 (by kernel_rfl))]
              go_simp
              refine (HT9.out W hC).mono ?_
              rintro e w' ⟨rfl, hb⟩
              refine hK _ _ (left_val ((.agg CT : Value)) rfl ?_ hb hC)
              rw [vs_is (show vs 0 = (.slice A9 (k + 1) c9 : Value) from hd 0 (by kernel_rfl))]
              kernel_rfl
            · exact st_c0 rfl rfl rfl (fun _ _ => by kernel_rfl)
            · constructor
              intro vs W hC hd
              refine ⟨wants rfl, fun K hK => ?_⟩
              go_simp
              refine hK _ _ (left_val ((.slice (some ⟨g7, 0, none⟩) 32 32 : Value)) rfl ?_ (Below.refl _ _) hC)
              kernel_rfl
            · exact st_apb 2 3 (.tmp 45) (.tmp 46) rfl rfl rfl (by kernel_rfl) (by kernel_rfl) rfl rfl rfl (fun _ => by kernel_rfl) (fun _ => by kernel_rfl) (fun _ _ => by kernel_rfl) HL1.out HS7.out rfl (by omega)
            · constructor
              intro vs W hC hd
              refine ⟨wants rfl, fun K hK => ?_⟩
              go_simp
              refine hK _ _ (left_val ((.slice (some ⟨g8, 0, none⟩) 32 32 : Value)) rfl ?_ (Below.refl _ _) hC)
              kernel_rfl
            · exact st_apb 4 5 (.tmp 47) (.tmp 48) rfl rfl rfl (by kernel_rfl) (by kernel_rfl) rfl rfl rfl (fun _ => by kernel_rfl) (fun _ => by kernel_rfl) (fun _ _ => by kernel_rfl) HL2.out HS8.out rfl (by omega)
            · constructor
              intro vs W hC hd
              obtain ⟨A6, c6, e6, o6⟩ := (show ∃ A c, vs 6 = .slice A 64 c ∧ W.ownsRow _ 5 1 (vs 6) 64 (([] ++ M1.map bv) ++ M2.map bv) from hd 6 (by kernel_rfl))
              refine ⟨wants rfl, fun K hK => ?_⟩
              rw [vs_is e6]
              go_simp
              refine (HTG.out W A6 c6 hC (e6 ▸ o6)).mono ?_
              rintro e w' ⟨rfl, hb⟩
              refine hK _ _ (left_val ((.agg CT : Value)) rfl ?_ hb hC)
              rw [vs_is e6]
              kernel_rfl
            · constructor
              intro vs W hC hd
              refine ⟨wants rfl, fun K hK => ?_⟩
              rw [vs_is (show vs 1 = (.agg CT : Value) from hd 1 (by kernel_rfl)), vs_is (show vs 7 = (.agg CT : Value) from hd 7 (by kernel_rfl))]
              go_simp
              refine hK _ _ (left_val ((.bool false : Value)) rfl ?_ (Below.refl _ _) hC)
              rw [vs_is (show vs 1 = (.agg CT : Value) from hd 1 (by kernel_rfl)), vs_is (show vs 7 = (.agg CT : Value) from hd 7 (by kernel_rfl))]
              kernel_rfl
            · constructor
              intro vs W hC hd
              refine ⟨wants rfl, fun K hK => ?_⟩
              rw [vs_is (show vs 8 = (.bool false : Value) from hd 8 (by kernel_rfl))]
              go_simp
              refine hK _ _ (left_val ((.bool false : Value)) rfl ?_ (Below.refl _ _) hC)
              rw [vs_is (show vs 8 = (.bool false : Value) from hd 8 (by kernel_rfl))]
              kernel_rfl
            · constructor
              intro vs W hC hd
              refine ⟨by rw [vs_is (show vs 9 = .bool false from hd 9 (by kernel_rfl))]; kernel_rfl, fun K hK => ?_⟩
              rw [vs_is (show vs 9 = (.bool false : Value) from hd 9 (by kernel_rfl))]
              go_simp
              refine hK _ _ (left_val ((.int .i64 0 : Value)) rfl ?_ (Below.refl _ _) hC)
              rw [vs_is (show vs 9 = (.bool false : Value) from hd 9 (by kernel_rfl))]
              kernel_rfl
            · constructor
              intro vs W hC hd
              refine ⟨by rw [vs_is (show vs 9 = .bool false from hd 9 (by kernel_rfl))]; kernel_rfl, fun K hK => ?_⟩
              rw [vs_is (show vs 9 = (.bool false : Value) from hd 9 (by kernel_rfl)), vs_is (show vs 10 = (.int .i64 0 : Value) from hd 10 (by kernel_rfl))]
              go_simp
              refine hK _ _ (left_val ((.bool false : Value)) rfl ?_ (Below.refl _ _) hC)
              rw [vs_is (show vs 9 = (.bool false : Value) from hd 9 (by kernel_rfl)), vs_is (show vs 10 = (.int .i64 0 : Value) from hd 10 (by kernel_rfl))]
              kernel_rfl
            · constructor
              intro vs W hC hd
              refine ⟨wants rfl, fun K hK => ?_⟩
              rw [vs_is (show vs 9 = (.bool false : Value) from hd 9 (by kernel_rfl)), vs_is (show vs 11 = (.bool false : Value) from hd 11 (by kernel_rfl))]
              go_simp
              refine hK _ _ (left_val ((.bool false : Value)) rfl ?_ (Below.refl _ _) hC)
              rw [vs_is (show vs 9 = (.bool false : Value) from hd 9 (by kernel_rfl)), vs_is (show vs 11 = (.bool false : Value) from hd 11 (by kernel_rfl))]
              kernel_rfl
            · constructor
              intro vs W hC hd
              refine ⟨wants rfl, fun K hK => ?_⟩
              rw [vs_is (show vs 12 = (.bool false : Value) from hd 12 (by kernel_rfl))]
              go_simp
              refine hK _ _ (left_val ((.bool false : Value)) rfl ?_ (Below.refl _ _) hC)
              rw [vs_is (show vs 12 = (.bool false : Value) from hd 12 (by kernel_rfl))]
              kernel_rfl
            · constructor
              intro vs W hC hd
              refine ⟨by rw [vs_is (show vs 13 = .bool false from hd 13 (by kernel_rfl))]; kernel_rfl, fun K hK => ?_⟩
              rw [vs_is (show vs 13 = (.bool false : Value) from hd 13 (by kernel_rfl))]
              go_simp
              refine hK _ _ (left_val ((.slice (some ⟨b9, off9, none⟩) 1 c10 : Value)) rfl ?_ (Below.refl _ _) hC)
              rw [vs_is (show vs 13 = (.bool false : Value) from hd 13 (by kernel_rfl))]
              kernel_rfl
            · constructor
              intro vs W hC hd
              refine ⟨by rw [vs_is (show vs 13 = .bool false from hd 13 (by kernel_rfl))]; kernel_rfl, fun K hK => ?_⟩
              rw [vs_is (show vs 13 = (.bool false : Value) from hd 13 (by kernel_rfl)), vs_is (show vs 14 = (.slice (some ⟨b9, off9, none⟩) 1 c10 : Value) from hd 14 (by kernel_rfl))]
              go_simp
              refine hK _ _ (left_val ((.int .i64 1 : Value)) rfl ?_ (Below.refl _ _) hC)
              rw [vs_is (show vs 13 = (.bool false : Value) from hd 13 (by kernel_rfl)), vs_is (show vs 14 = (.slice (some ⟨b9, off9, none⟩) 1 c10 : Value) from hd 14 (by kernel_rfl))]
              kernel_rfl
            · constructor
              intro vs W hC hd
              refine ⟨by rw [vs_is (show vs 13 = .bool false from hd 13 (by kernel_rfl))]; kernel_rfl, fun K hK => ?_⟩
              rw [vs_is (show vs 13 = (.bool false : Value) from hd 13 (by kernel_rfl)), vs_is (show vs 15 = (.int .i64 1 : Value) from hd 15 (by kernel_rfl))]
              go_simp
              refine hK _ _ (left_val ((.bool false : Value)) rfl ?_ (Below.refl _ _) hC)
              rw [vs_is (show vs 13 = (.bool false : Value) from hd 13 (by kernel_rfl)), vs_is (show vs 15 = (.int .i64 1 : Value) from hd 15 (by kernel_rfl))]
              kernel_rfl
            · constructor
              intro vs W hC hd
              refine ⟨wants rfl, fun K hK => ?_⟩
              rw [vs_is (show vs 13 = (.bool false : Value) from hd 13 (by kernel_rfl)), vs_is (show vs 16 = (.bool false : Value) from hd 16 (by kernel_rfl))]
              go_simp
              refine hK _ _ (left_val ((.bool false : Value)) rfl ?_ (Below.refl _ _) hC)
              rw [vs_is (show vs 13 = (.bool false : Value) from hd 13 (by kernel_rfl)), vs_is (show vs 16 = (.bool false : Value) from hd 16 (by kernel_rfl))]
              kernel_rfl
            · constructor
              intro vs W hC hd
              refine ⟨wants rfl, fun K hK => ?_⟩
              rw [vs_is (show vs 17 = (.bool false : Value) from hd 17 (by kernel_rfl))]
              go_simp
              refine hK _ _ (left_val ((.bool false : Value)) rfl ?_ (Below.refl _ _) hC)
              rw [vs_is (show vs 17 = (.bool false : Value) from hd 17 (by kernel_rfl))]
              kernel_rfl
            · constructor
              intro vs W hC hd
              refine ⟨by rw [vs_is (show vs 18 = .bool false from hd 18 (by kernel_rfl))]; kernel_rfl, fun K hK => ?_⟩
              rw [vs_is (show vs 18 = (.bool false : Value) from hd 18 (by kernel_rfl))]
              go_simp
              refine hK _ _ (left_val ((.slice (some ⟨b9, off9, none⟩) 1 c10 : Value)) rfl ?_ (Below.refl _ _) hC)
              rw [vs_is (show vs 18 = (.bool false : Value) from hd 18 (by kernel_rfl))]
              kernel_rfl
            · constructor
              intro vs W hC hd
              refine ⟨by rw [vs_is (show vs 18 = .bool false from hd 18 (by kernel_rfl))]; kernel_rfl, fun K hK => ?_⟩
              rw [vs_is (show vs 18 = (.bool false : Value) from hd 18 (by kernel_rfl)), vs_is (show vs 19 = (.slice (some ⟨b9, off9, none⟩) 1 c10 : Value) from hd 19 (by kernel_rfl))]
              go_simp
              refine hK _ _ (left_val ((.pointer (some ⟨b9, off9, none⟩) : Value)) rfl ?_ (Below.refl _ _) hC)
              rw [vs_is (show vs 18 = (.bool false : Value) from hd 18 (by kernel_rfl)), vs_is (show vs 19 = (.slice (some ⟨b9, off9, none⟩) 1 c10 : Value) from hd 19 (by kernel_rfl))]
              kernel_rfl
            · exact st_ldmid 20 (.tmp 63) b9 off9 HCM.out rfl rfl (by kernel_rfl) (fun vs W hd => by rw [vs_is (show vs 18 = .bool false from hd 18 (by kernel_rfl))]; kernel_rfl) rfl (fun _ => by kernel_rfl) HRG.out HIM.out (fun _ _ => by kernel_rfl)
            · exact st_ld (.tmp 7) g7 rfl (fun vs W hd => by rw [vs_is (show vs 18 = .bool false from hd 18 (by kernel_rfl))]; kernel_rfl) rfl (fun _ => by kernel_rfl) HX7.out HD1.out (fun _ _ => by kernel_rfl)
            · constructor
              intro vs W hC hd
              refine ⟨by rw [vs_is (show vs 18 = .bool false from hd 18 (by kernel_rfl))]; kernel_rfl, fun K hK => ?_⟩
              rw [vs_is (show vs 18 = (.bool false : Value) from hd 18 (by kernel_rfl)), vs_is (show vs 21 = (.agg CA : Value) from hd 21 (by kernel_rfl)), vs_is (show vs 22 = (.agg CA : Value) from hd 22 (by kernel_rfl))]
              go_simp
              refine hK _ _ (left_val ((.bool false : Value)) rfl ?_ (Below.refl _ _) hC)
              rw [vs_is (show vs 18 = (.bool false : Value) from hd 18 (by kernel_rfl)), vs_is (show vs 21 = (.agg CA : Value) from hd 21 (by kernel_rfl)), vs_is (show vs 22 = (.agg CA : Value) from hd 22 (by kernel_rfl))]
              kernel_rfl
          · intro vs W hC hv hp
            have e18 : vs 18 = .bool false := hv 18 (by omega) (by decide)
            have e23 : vs 23 = .bool false := hv 23 (by omega) (by decide)
            clear hv hp
            have HBE := Lib.hid (HB10.out.trans (hC.mono HB10.out.size))
            clear hC HRG HF10 HX7 HS7 HS8 HTG HT9 HIM HCM iA iT HD1 HD2
            simp only [List.drop_succ_cons, List.drop_zero, putO, e18, e23, Nat.reduceAdd, Nat.zero_add]
            clear e18 e23
            simp only [Act.put, List.setIfInBounds_toArray, List.set_cons_succ, List.set_cons_zero]
            go_wp2_with fail
            go_roundw
            case rel => exact ⟨j + 1, k * 2, by rw [HKJ.out, Nat.pow_succ], by omega, by go_num, HBE.out⟩
            case measure => simp [intOf]; omega
    · have hb := (HN2.out.up HB.out).B
      go_wp2_with fail
      go_ret
      exact ⟨rfl, hg3 ▸ hb⟩
end Go.Proofs.YtggmmbkhekoagaaDoor
