/- DigestChains. -/
import Derived.Test.YtdjlblfpkieenaaDoorRfChain
import Derived.Test.YtdjlblfpkieenaaDoorSt
import Derived.Test.YtdjlblfpkieenaaDoorDup
namespace Go.Proofs.YtdjlblfpkieenaaDoor
open Go.RowKit Go.Sort
set_option linter.unusedVariables false

attribute [local go_sem ↓] eql_dig neq_dig
attribute [local go_sem] guard_dig putO upd

/-- What lasts through the law's loop. -/
structure KF (w : World) (A : Option Addr) (ds : List (List UInt8)) (W : World) : Prop where
  K : KT W
  B : Below w.heap.size w W
  D : Ds W.heap.size W A ds
theorem KF.up {w : World} {A : Option Addr} {ds : List (List UInt8)} {W W' : World} (h : KF w A ds W) (hb : Below W.heap.size W W') : KF w A ds W' :=
  ⟨h.K.below hb, h.B.trans (hb.mono h.B.size), h.D.up hb⟩

theorem KF.set {w : World} {A : Option Addr} {ds : List (List UInt8)} {W : World} {g : Nat} (C : Array Value) (h : KF w A ds W) (h0 : 0 < g) (hg : w.heap.size ≤ g) (hne : ∀ b off, A = some ⟨b, off, none⟩ → b ≠ g) : KF w A ds (W.setRow g C) := by
  refine ⟨h.K.grown (setRow_grown W g C) h0, h.B.trans (below_grown (setRow_grown W g C) hg h.B.size), h.D.1, fun hp => ?_⟩
  obtain ⟨b, off, e, hb, hc⟩ := h.D.2 hp
  refine ⟨b, off, e, by simpa using hb, fun i d hd j v hv => ?_⟩
  exact (setRow_grown W g C).cell (hc i d hd j v hv) (fun he => by injection he with he; exact hne b off e he)
section
variable {frame : (Nat → Value) → Act} {W0 : World} {T : List Lf} {eats : Nat → Nat → Bool} {l : List Oper} {n : Nat} {Q : Exit → Act → World → Prop}
theorem st_c0g {o : Oper} {i : Nat} (hT : T.getD i .any = .row 5 1 0 []) (hw : ∀ vs W, (∀ j, usable eats l n i j = true → phiT W0.heap.size T j (vs j) W) → Region.wanted o (yielded l.toArray (frame vs).tmps) = true) (ho : o.op = .buildSlice 22 0 #[]) (hp : ∀ vs v, (frame vs).put o.dst v = frame (upd vs i v)) :
    StepT frame W0 T eats l n Q o i := by
  constructor
  intro vs W hC hd
  have hb := (Below.refl W.heap.size W).alloc (Nat.le_refl _) (.cells #[] 5)
  refine ⟨hw vs W hd, fun K hK => ?_⟩
  unfold Oper.wp execOp
  simp only [ho, Sem.run_bind, Sem.run_pure, Result.andThen_ok, List.map_toArray, List.map_nil, run_c0]
  refine hK _ _ (leftT (.slice (some ⟨W.heap.size, 0, none⟩) 0 0) (hp vs _) hb hC ?_ (fun _ g h => by injection h with h; exact h.symm))
  rw [hT]
  exact ⟨_, _, rfl, own_empty W hC.size⟩
theorem st_slg {o : Oper} {i : Nat} (x : Operand) (g : Nat) (hT : T.getD i .any = .val (.slice (some ⟨g, 0, none⟩) 32 32)) (hw : ∀ vs W, (∀ j, usable eats l n i j = true → phiT W0.heap.size T j (vs j) W) → Region.wanted o (yielded l.toArray (frame vs).tmps) = true) (ho : o.op = .slice 26 x none none none)
    (hx : ∀ vs, (frame vs).eval x = .pointer (some ⟨g, 0, none⟩)) (hp : ∀ vs v, (frame vs).put o.dst v = frame (upd vs i v)) : StepT frame W0 T eats l n Q o i := by
  constructor
  intro vs W hC hd
  refine ⟨hw vs W hd, fun K hK => ?_⟩
  unfold Oper.wp execOp
  simp only [ho, Sem.run_bind, Sem.run_pure, Result.andThen_ok, hx vs, Option.map_none, run_sl32]
  exact hK _ _ (left_val _ hT (hp vs _) (Below.refl _ _) hC)
theorem st_apbg {o : Oper} {i : Nat} (js jx : Nat) (s x : Operand) {k m N : Nat} {xs : List Value} {ad : Addr} {c : Nat} {L : List UInt8} (hT : T.getD i .any = .row 5 1 N (xs ++ L.map bv)) (hTs : T.getD js .any = .row 5 1 k xs)
    (hTx : T.getD jx .any = .val (.slice (some ad) m c)) (hus : usable eats l n i js = true) (hux : usable eats l n i jx = true) (he : eats i js = true) (hw : ∀ vs W, (∀ j, usable eats l n i j = true → phiT W0.heap.size T j (vs j) W) → Region.wanted o (yielded l.toArray (frame vs).tmps) = true)
    (ho : o.op = .call { callee := .builtin .append, args := #[s, x], argTypes := #[22, 22] }) (hs : ∀ vs, (frame vs).eval s = vs js) (hx : ∀ vs, (frame vs).eval x = vs jx) (hp : ∀ vs v, (frame vs).put o.dst v = frame (upd vs i v))
    (hm : L.length = m) (hS : Sl W0 (some ad) L c) (hN : k + m = N) (hn : N ≤ 1000000) : StepT frame W0 T eats l n Q o i := by
  constructor
  intro vs W hC hd
  have e := hd jx hux
  unfold phiT at e
  rw [hTx] at e
  have hd1 := hd js hus
  have hd2 := hd1
  unfold phiT at hd2
  rw [hTs] at hd2
  obtain ⟨A1, c1, e1, hr⟩ := hd2
  subst hN
  obtain ⟨i0, hi0, hz0, hz1, hz2⟩ := info_parts u8_info
  obtain ⟨v', w', hr', h2, h3, _, h5⟩ := run_append_own_at (P := Tryd.prog) W W0.heap.size 22 o.type 5 i0 (.int .u8 0) 1 1 Tryd.underlying22 hi0 hz0 hz1 hz2 rfl (by decide) (vs js) k xs hr ad m c (L.map bv) (by rw [List.length_map, hm, Nat.mul_one])
    (hS.up hC).news (bv_one L) (le_maxLen (by omega)) (by omega) hC.size
  obtain ⟨A', c', rfl⟩ := own_form h2
  refine ⟨hw vs W hd, fun K hK => ?_⟩
  unfold Oper.wp execOp
  simp only [ho, resolve, invoke, builtin, Sem.run_bind, Sem.run_pure, Result.andThen_ok, List.map_toArray, List.map_cons, List.map_nil, hs vs, (hx vs).trans e, hr']
  exact hK _ _ (left_app hT hTs hus he hC hd1 (hp vs _) h2 h3 h5)
end
theorem below_fill' (W : World) (C C' : Array Value) (t : TypeId) : Below W.heap.size W ((W.alloc (.cells C t)).setRow W.heap.size C') :=
  ((Below.refl W.heap.size W).alloc (Nat.le_refl _) _).trans (below_grown (setRow_grown _ _ _) (Nat.le_refl _) (by simp))
theorem box_fill' (W : World) (C C' : Array Value) (t : TypeId) : Box ((W.alloc (.cells C t)).setRow W.heap.size C') W.heap.size C' t := Box.setRow (Box.new W C t)

set_option maxHeartbeats 2000000 in
set_option maxRecDepth 100000 in
theorem lawChains_any (d0 : List UInt8) (A : Option Addr) (c : Nat) (l : List UInt8) (w : World) (hK : KT w) (hd0 : d0.length = 32) (hS : Sl w A l c) :
    Calls Tryd.prog 10 #[.agg (dcells d0), .slice A l.length c] w fun e w' => e = .returned (.bool true) ∧ Below w.heap.size w w' := by
  have hba := (Below.refl w.heap.size w).alloc (Nat.le_refl _) (.cells (dcells d0) 26)
  have HSN := Lib.hid (sane_any _ (hK.below hba))
  have HDO := Lib.hid (fun w' (hb : Below w.heap.size w w') => digestsOf_any A c l w' (hS.up hb))
  have HX0 := Lib.hid (Box.new w (dcells d0) 26)
  have HK := Lib.hid hK
  have HBA := Lib.hid hba
  have HD0 := Lib.hid hd0
  have hsz : (dcells d0).size = 32 := by simp [dcells, hd0]
  clear hK hS hba hd0
  have hn24 : min l.length 24 ≤ 24 := by omega
  have hlen := dgk_length l (min l.length 24)
  have h32 := dgk_len32 l (min l.length 24)
  generalize hds : dgk l (min l.length 24) = ds at *
  generalize hnn : min l.length 24 = n at *
  have HLEN := Lib.hid hlen
  have H32 := Lib.hid h32
  clear hds hnn hlen h32
  generalize l.length = nl at *
  have hdf := DF.of HD0.out
  obtain ⟨LD, hLD⟩ : ∃ L : List Value, dcells d0 = L.toArray := ⟨d0.map bv, rfl⟩
  have HLD := Lib.hid hLD
  rw [hLD] at HSN HX0 HBA hsz hdf ⊢
  clear hLD
  have HL0 := Lib.hid (show LD.length = 32 by simpa using hsz)
  have HONE0 := Lib.hid hdf.one
  clear hsz hdf
  go_enter Tryd.func10, Tryd.ntmps10
  go_wp2_with fail
  refine HSN.out.mono ?_
  rintro e w1 ⟨rfl, hb1⟩
  have hb1' := HBA.out.trans (hb1.mono HBA.out.size)
  have HX1 := Lib.hid (HX0.out.below hb1)
  have HB1 := Lib.hid hb1'
  clear hb1 hb1' HSN HX0 HBA
  generalize hh0 : w.heap.size = h0 at *
  go_upto_region 3 with fail
  refine region_dup 12 13 5 6 h0 (.tmp 2) LD _ rfl ⟨rfl, rfl, rfl⟩ ⟨rfl, rfl, rfl⟩ ⟨rfl, rfl, rfl⟩ ⟨rfl, rfl, rfl⟩ ⟨rfl, rfl, rfl⟩ ⟨rfl, rfl, rfl⟩ (by kernel_rfl) (by kernel_rfl) ⟨by kernel_rfl, by kernel_rfl⟩ ⟨by kernel_rfl, by kernel_rfl⟩ (by kernel_rfl) (by kernel_rfl) (by kernel_rfl) (by kernel_rfl) (by kernel_rfl) (by kernel_rfl)
    rfl rfl HL0.out HONE0.out HX1.out (fun _ _ => rfl) (fun _ _ => rfl) (fun _ _ => rfl) (fun _ _ => rfl) (fun _ _ => rfl) (fun _ _ => rfl) (fun _ _ => rfl) ?_
  intro g5 g6 W7 hb7 hg5 hg6 hne hx5 hx6
  simp only [Act.put, List.setIfInBounds_toArray, List.set_cons_succ, List.set_cons_zero]
  have hbw7 : Below w.heap.size w W7 := by rw [hh0]; exact HB1.out.trans (hb7.mono (hh0 ▸ HB1.out.size))
  have HX5 := Lib.hid hx5
  have HX6 := Lib.hid hx6
  have HBW7 := Lib.hid hbw7
  have HGE := Lib.hid (show 0 < g5 ∧ 0 < g6 ∧ w.heap.size ≤ g5 ∧ w.heap.size ≤ g6 from by have := HK.out.1; have := HB1.out.size; omega)
  have HNE := Lib.hid hne
  clear hb7 hx5 hx6 hbw7 hne HX1 HB1
  go_wp2_with fail
  refine (HDO.out W7 (by rw [← hh0]; exact HBW7.out)).mono ?_
  rintro e w8 ⟨A8, c8, rfl, ho8, hb8⟩
  obtain ⟨hD, hc1, hc2⟩ := Ds.of_own ho8 HLEN.out H32.out
  have HKF : Hid (KF w A8 ds w8) := Lib.hid ⟨HK.out.below (HBW7.out.trans (hb8.mono HBW7.out.size)), HBW7.out.trans (hb8.mono HBW7.out.size), hD⟩
  have HX5' := Lib.hid (HX5.out.below hb8)
  have HX6' := Lib.hid (HX6.out.below hb8)
  have HC := Lib.hid (And.intro hc1 hc2)
  have hnb : ∀ b off, A8 = some ⟨b, off, none⟩ → W7.heap.size ≤ b := by
    intro b off hA
    subst hA
    rcases ho8.2 with ⟨hv, _⟩ | ⟨g, cap, cur, hv, hbg, _⟩
    · injection hv with hv
      cases hv
    · injection hv with hv
      injection hv with hv
      injection hv with hv
      omega
  have h5lt := HX5.out.lt
  have h6lt := HX6.out.lt
  have HNB : Hid (∀ b off, A8 = some ⟨b, off, none⟩ → b ≠ g5 ∧ b ≠ g6) := Lib.hid (fun b off e => by have := hnb b off e; omega)
  clear ho8 hb8 hD hc1 hc2 HX5 HX6 HDO hnb h5lt h6lt
  go_wp2_with fail
  go_loopw [17] (fun i wr => ∃ (k : Nat) (E : List UInt8), k ≤ n ∧ i = .int .i64 k ∧ E.length = 32 ∧ KF w A8 ds wr ∧ Box wr g5 (dcells E) 26 ∧ Box wr g6 (dcells E) 26) (fun i _ => n - (intOf i).toNat)
  case atStart => exact ⟨0, d0, Nat.zero_le _, rfl, HD0.out, HKF.out, by rw [HLD.out]; exact HX5'.out, by rw [HLD.out]; exact HX6'.out⟩
  case round =>
    clear HKF HX5' HX6'
    obtain ⟨k, E, hk, rfl, hE, hkf, hx5, hx6⟩ := hrel
    have HKF := Lib.hid hkf
    have HX5 := Lib.hid hx5
    have HX6 := Lib.hid hx6
    have HE := Lib.hid hE
    clear hkf hx5 hx6 hE
    by_cases hlt : k < n
    · obtain ⟨b, off, rfl, hbl, hc⟩ := HKF.out.D.2 (by rw [HLEN.out]; omega)
      obtain ⟨d, hdi⟩ : ∃ d, ds[k]? = some d := ⟨_, List.getElem?_eq_getElem (by rw [HLEN.out]; exact hlt)⟩
      have hd32 : d.length = 32 := H32.out d (List.mem_of_getElem? hdi)
      have HR := Lib.hid (hc k d hdi)
      have HID := Lib.hid (dig_size' (L := d.map bv) (by simp [hd32]))
      have HDD := Lib.hid (DF.of hd32)
      have HDE := Lib.hid (DF.of HE.out)
      have HD32 := Lib.hid hd32
      have bj : (0 : Int) ≤ (k : Int) ∧ (k : Int) < (n : Int) := by omega
      have HXN := Lib.hid (Box.new wr dz 26)
      have hbf := below_fill' wr dz (dcells d) 26
      have HKF1 := Lib.hid (HKF.out.up hbf)
      have HX51 := Lib.hid (HX5.out.below hbf)
      have HX61 := Lib.hid (HX6.out.below hbf)
      have HX81 := Lib.hid (box_fill' wr dz (dcells d) 26)
      change Hid (DF (d.map bv).toArray) at HDD
      clear hc hbf hd32 hdi
      go_wp2_with (first
        | (refine wpList_load_mid rfl 26 (.tmp 19) rfl b (off + k * 32) rfl (d.map bv) _ HR.out Tryd.underlying26 rfl HID.out ?_)
        | (refine wpList_store_row rfl 26 (.tmp 8) (.tmp 20) rfl wr.heap.size (d.map bv).toArray rfl rfl 26 dz HXN.out HDD.out.info HDD.out.size HDD.out.one ?_
           generalize hW : World.setRow (World.alloc wr _) _ (d.map bv).toArray = W1
           have HKF2 : Hid (KF w (some ⟨b, off, none⟩) ds W1) := Lib.hid (by rw [← hW]; exact HKF1.out)
           have HX52 : Hid (Box W1 g5 (dcells E) 26) := Lib.hid (by rw [← hW]; exact HX51.out)
           have HX62 : Hid (Box W1 g6 (dcells E) 26) := Lib.hid (by rw [← hW]; exact HX61.out)
           have HX82 : Hid (Box W1 wr.heap.size (dcells d) 26) := Lib.hid (by rw [← hW]; exact HX81.out)
           have HXM := Lib.hid (Box.new W1 dz 26)
           have hbf := below_fill' W1 dz (dcells E) 26
           have HKF3 := Lib.hid (HKF2.out.up hbf)
           have HX53 := Lib.hid (HX52.out.below hbf)
           have HX63 := Lib.hid (HX62.out.below hbf)
           have HX83 := Lib.hid (HX82.out.below hbf)
           have HX93 := Lib.hid (box_fill' W1 dz (dcells E) 26)
           clear hW HXN HKF1 HX51 HX61 HX81 hbf HR HID
           have h58 : g5 ≠ wr.heap.size := by have := HX5.out.lt; omega
           have h68 : g6 ≠ wr.heap.size := by have := HX6.out.lt; omega
           generalize wr.heap.size = g8 at *)
        | (refine wpList_load_row rfl 26 (.tmp 5) rfl g5 rfl 26 (dcells E) (0, 0) _ HX52.out Tryd.underlying26 rfl HDE.out.info ?_)
        | (refine wpList_store_row rfl 26 (.tmp 9) (.tmp 21) rfl W1.heap.size (dcells E) rfl rfl 26 dz HXM.out HDE.out.info HDE.out.size HDE.out.one ?_))
      generalize hW : World.setRow (World.alloc W1 _) _ (dcells E) = W2
      have h85 := HX52.out.lt
      have h86 := HX62.out.lt
      have HKF4 : Hid (KF w (some ⟨b, off, none⟩) ds W2) := Lib.hid (by rw [← hW]; exact HKF3.out)
      have HX54 : Hid (Box W2 g5 (dcells E) 26) := Lib.hid (by rw [← hW]; exact HX53.out)
      have HX64 : Hid (Box W2 g6 (dcells E) 26) := Lib.hid (by rw [← hW]; exact HX63.out)
      have HX84 : Hid (Box W2 g8 (dcells d) 26) := Lib.hid (by rw [← hW]; exact HX83.out)
      have HX94 : Hid (Box W2 W1.heap.size (dcells E) 26) := Lib.hid (by rw [← hW]; exact HX93.out)
      have HG := Lib.hid (show g5 ≠ g8 ∧ g6 ≠ g8 ∧ g5 < W1.heap.size ∧ g6 < W1.heap.size from ⟨h58, h68, h85, h86⟩)
      clear hW HXM HKF2 HKF3 HX52 HX53 HX62 HX63 HX82 HX83 HX93 h85 h86 h58 h68
      generalize W1.heap.size = g9 at *
      go_frame
      have hCH : ∀ W, Aft W2 W → Calls Tryd.prog 25 #[.agg (dcells E), .agg (dcells d)] W (DigPost (tg [99, 104, 97, 105, 110] (E ++ d)) W) := fun W hb => chain_any E d W (HKF4.out.K.below hb) HE.out HD32.out
      have hRC : ∀ W, Aft W2 W → Calls Tryd.prog 26 #[.agg (dcells E), .agg (dcells d)] W (DigPost (tg [99, 104, 97, 105, 110] (E ++ d)) W) := fun W hb => refChain_any E d W HE.out HD32.out
      unfold DigPost at hCH hRC
      have HRL : Hid ((tg [99, 104, 97, 105, 110] (E ++ d)).length = 32) := rfl
      obtain ⟨R, hR⟩ : ∃ R, tg [99, 104, 97, 105, 110] (E ++ d) = R := ⟨_, rfl⟩
      rw [hR] at hCH hRC HRL
      have HRR := Lib.hid hR
      have HDR := Lib.hid (DF.of HRL.out)
      obtain ⟨CE, hCE⟩ : ∃ C, dcells E = C := ⟨_, rfl⟩
      obtain ⟨CD, hCD⟩ : ∃ C, dcells d = C := ⟨_, rfl⟩
      obtain ⟨CR, hCR⟩ : ∃ C, dcells R = C := ⟨_, rfl⟩
      rw [hCE] at hCH hRC HX54 HX64 HX94 HDE ⊢
      generalize Value.agg (List.map bv d).toArray = v20
      generalize Value.agg CE = v21
      rw [hCD] at hCH hRC HX84
      change Hid (DF (dcells d)) at HDD
      rw [hCD] at HDD
      rw [hCR] at hCH hRC HDR
      have HCH := Lib.hid hCH
      have HRC := Lib.hid hRC
      have HCE := Lib.hid hCE
      have HCD := Lib.hid hCD
      have HCR := Lib.hid hCR
      clear hCH hRC hCE hCD hCR hR
      refine region_gen 6 [some 22, some 23, some 24, some 25, some 26, some 27] (Aft W2) (phiT W2.heap.size [.val (.agg CE : Value), .val (.agg CD : Value), .val (.agg CR : Value), .val (.agg CE : Value), .val (.agg CD : Value), .val (.agg CR : Value)]) (psiT [.val (.agg CE : Value), .val (.agg CD : Value), .val (.agg CR : Value), .val (.agg CE : Value), .val (.agg CD : Value), .val (.agg CR : Value)]) (fun _ _ => false) (by kernel_rfl) ?_ ?_ ?_ ?_ ?_
      · kernel_rfl
      · kernel_rfl
      · exact (Below.refl W2.heap.size W2).drew
      · simp only [List.take_succ_cons, List.take_zero, StepsG, Nat.reduceAdd, Nat.zero_add]
        refine ⟨?_, ?_, ?_, ?_, ?_, ?_, trivial⟩
        · exact st_ld (.tmp 5) g5 rfl (fun _ _ _ => wants rfl) rfl (fun _ => by kernel_rfl) HX54.out HDE.out (fun _ _ => by kernel_rfl)
        · exact st_ld (.tmp 8) g8 rfl (fun _ _ _ => wants rfl) rfl (fun _ => by kernel_rfl) HX84.out HDD.out (fun _ _ => by kernel_rfl)
        · constructor
          intro vs W hC hd
          refine ⟨wants rfl, fun K hK => ?_⟩
          rw [vs_is (show vs 0 = (.agg CE : Value) from hd 0 (by kernel_rfl)), vs_is (show vs 1 = (.agg CD : Value) from hd 1 (by kernel_rfl))]
          go_simp
          refine (HCH.out W hC).mono ?_
          rintro e w' ⟨rfl, hb⟩
          refine hK _ _ (left_val ((.agg CR : Value)) rfl ?_ hb hC)
          rw [vs_is (show vs 0 = (.agg CE : Value) from hd 0 (by kernel_rfl)), vs_is (show vs 1 = (.agg CD : Value) from hd 1 (by kernel_rfl))]
          kernel_rfl
        · exact st_ld (.tmp 6) g6 rfl (fun _ _ _ => wants rfl) rfl (fun _ => by kernel_rfl) HX64.out HDE.out (fun _ _ => by kernel_rfl)
        · exact st_ld (.tmp 8) g8 rfl (fun _ _ _ => wants rfl) rfl (fun _ => by kernel_rfl) HX84.out HDD.out (fun _ _ => by kernel_rfl)
        · constructor
          intro vs W hC hd
          refine ⟨wants rfl, fun K hK => ?_⟩
          rw [vs_is (show vs 3 = (.agg CE : Value) from hd 3 (by kernel_rfl)), vs_is (show vs 4 = (.agg CD : Value) from hd 4 (by kernel_rfl))]
          go_simp
          refine (HRC.out W hC).mono ?_
          rintro e w' ⟨rfl, hb⟩
          refine hK _ _ (left_val ((.agg CR : Value)) rfl ?_ hb hC)
          rw [vs_is (show vs 3 = (.agg CE : Value) from hd 3 (by kernel_rfl)), vs_is (show vs 4 = (.agg CD : Value) from hd 4 (by kernel_rfl))]
          kernel_rfl
      · intro vs W hC hv hp
        have e2 : vs 2 = .agg CR := hv 2 (by omega) (fun _ _ => rfl)
        have e5 : vs 5 = .agg CR := hv 5 (by omega) (fun _ _ => rfl)
        clear hv hp
        simp only [List.drop_succ_cons, List.drop_zero, putO, e2, e5, Nat.reduceAdd, Nat.zero_add]
        clear e2 e5
        have hC2 : Below W2.heap.size W2 W := hC
        have HX55 := Lib.hid (HX54.out.below hC2)
        have HX65 := Lib.hid ((HX64.out.below hC2).grown (setRow_grown W g5 CR) (fun e => by injection e with e; exact HNE.out e.symm))
        have HX85 := Lib.hid (((HX84.out.below hC2).grown (setRow_grown W g5 CR) (fun e => by injection e with e; exact HG.out.1 e.symm)).grown (setRow_grown _ g6 CR) (fun e => by injection e with e; exact HG.out.2.1 e.symm))
        have HX95 := Lib.hid (((HX94.out.below hC2).grown (setRow_grown W g5 CR) (fun e => by injection e with e; have := HG.out.2.2.1; omega)).grown (setRow_grown _ g6 CR) (fun e => by injection e with e; have := HG.out.2.2.2; omega))
        have HKF5 := Lib.hid (((HKF4.out.up hC2).set CR HGE.out.1 HGE.out.2.2.1 (fun b off e => (HNB.out b off e).1)).set CR HGE.out.2.1 HGE.out.2.2.2 (fun b off e => (HNB.out b off e).2))
        have HX66 : Hid (Box ((W.setRow g5 CR).setRow g6 CR) g6 CR 26) := Lib.hid (Box.setRow HX65.out)
        have HX56 : Hid (Box ((W.setRow g5 CR).setRow g6 CR) g5 CR 26) := Lib.hid ((Box.setRow HX55.out).grown (setRow_grown _ g6 CR) (fun e => by injection e with e; exact HNE.out e))
        have HDZ : Hid (CE.size = CR.size) := Lib.hid (by rw [← HDE.out.size, HDR.out.size])
        clear hC hC2 HCH HRC
        simp only [Act.put, List.setIfInBounds_toArray, List.set_cons_succ, List.set_cons_zero]
        go_upto_region 9 with (first
          | (refine wpList_store_row rfl 26 (.tmp 5) (.tmp 24) rfl g5 CR rfl rfl 26 CE HX55.out HDR.out.info HDZ.out HDR.out.one ?_)
          | (refine wpList_store_row rfl 26 (.tmp 6) (.tmp 27) rfl g6 CR rfl rfl 26 CE HX65.out HDR.out.info HDZ.out HDR.out.one ?_))
        generalize hW : World.setRow (World.setRow W _ CR) _ CR = W3
        have HKF6 : Hid (KF w (some ⟨b, off, none⟩) ds W3) := Lib.hid (by rw [← hW]; exact HKF5.out)
        have HX57 : Hid (Box W3 g5 CR 26) := Lib.hid (by rw [← hW]; exact HX56.out)
        have HX67 : Hid (Box W3 g6 CR 26) := Lib.hid (by rw [← hW]; exact HX66.out)
        have HS8 : Hid (Sl W3 (some ⟨g8, 0, none⟩) d 32) := Lib.hid (Sl.of_box (by rw [HCD.out, ← hW]; exact HX85.out) HD32.out)
        have HS9 : Hid (Sl W3 (some ⟨g9, 0, none⟩) E 32) := Lib.hid (Sl.of_box (by rw [HCE.out, ← hW]; exact HX95.out) HE.out)
        clear hW HKF5 HX56 HX66 HX85 HX95 HX55 HX65 HKF4 HX54 HX64 HX84 HX94 HG HDZ
        have hTG : ∀ W' A4 c4, Aft W3 W' → W'.ownsRow W3.heap.size 5 1 (.slice A4 64 c4) 64 (([] ++ E.map bv) ++ d.map bv) → Calls Tryd.prog 14 #[.string ⟨#[99, 104, 97, 105, 110]⟩, .slice A4 64 c4] W' (DigPost R W') := fun W' A4 c4 hb ho => by
          have hlen : (E ++ d).length = 64 := by rw [List.length_append, HE.out, HD32.out]
          have hs := Sl.of_own (B := W3.heap.size) (A := A4) (c := c4) (l := E ++ d) (w := W') (by rw [hlen, List.map_append]; exact ho)
          have := tagged_any ⟨#[99, 104, 97, 105, 110]⟩ A4 c4 (E ++ d) W' (HKF6.out.K.below hb) hs (by decide) (by rw [hlen]; omega)
          rw [hlen] at this
          rw [← HRR.out]
          exact this
        unfold DigPost at hTG
        rw [HCR.out] at hTG
        have HTG := Lib.hid hTG
        have iR : IsDig CR := by rw [← HCR.out]; exact IsDig.of HRL.out
        clear hTG
        refine region_gen 12 [some 28, some 29, some 30, some 31, some 32, some 33, some 34, some 35, some 36, some 37, some 38, some 39] (Aft W3) (phiT W3.heap.size [.val (.agg CR : Value), .val (.agg CR : Value), .val (.bool false : Value), .val (.bool false : Value), .val (.agg CR : Value), .row 5 1 0 [], .val (.slice (some ⟨g9, 0, none⟩) 32 32 : Value), .row 5 1 32 ([] ++ E.map bv), .val (.slice (some ⟨g8, 0, none⟩) 32 32 : Value), .row 5 1 64 (([] ++ E.map bv) ++ d.map bv), .val (.agg CR : Value), .val (.bool false : Value)]) (psiT [.val (.agg CR : Value), .val (.agg CR : Value), .val (.bool false : Value), .val (.bool false : Value), .val (.agg CR : Value), .row 5 1 0 [], .val (.slice (some ⟨g9, 0, none⟩) 32 32 : Value), .row 5 1 32 ([] ++ E.map bv), .val (.slice (some ⟨g8, 0, none⟩) 32 32 : Value), .row 5 1 64 (([] ++ E.map bv) ++ d.map bv), .val (.agg CR : Value), .val (.bool false : Value)]) (fun i j => (i == 7 && j == 5) || (i == 9 && j == 7)) (by kernel_rfl) ?_ ?_ ?_ ?_ ?_
        · kernel_rfl
        · kernel_rfl
        · exact (Below.refl W3.heap.size W3).drew
        · simp only [List.take_succ_cons, List.take_zero, StepsG, Nat.reduceAdd, Nat.zero_add]
          refine ⟨?_, ?_, ?_, ?_, ?_, ?_, ?_, ?_, ?_, ?_, ?_, ?_, trivial⟩
          · exact st_ld (.tmp 5) g5 rfl (fun _ _ _ => wants rfl) rfl (fun _ => by kernel_rfl) HX57.out HDR.out (fun _ _ => by kernel_rfl)
          · exact st_ld (.tmp 6) g6 rfl (fun _ _ _ => wants rfl) rfl (fun _ => by kernel_rfl) HX67.out HDR.out (fun _ _ => by kernel_rfl)
          · constructor
            intro vs W hC hd
            refine ⟨wants rfl, fun K hK => ?_⟩
            rw [vs_is (show vs 0 = (.agg CR : Value) from hd 0 (by kernel_rfl)), vs_is (show vs 1 = (.agg CR : Value) from hd 1 (by kernel_rfl))]
            go_simp
            refine hK _ _ (left_val ((.bool false : Value)) rfl ?_ (Below.refl _ _) hC)
            rw [vs_is (show vs 0 = (.agg CR : Value) from hd 0 (by kernel_rfl)), vs_is (show vs 1 = (.agg CR : Value) from hd 1 (by kernel_rfl))]
            kernel_rfl
          · constructor
            intro vs W hC hd
            refine ⟨wants rfl, fun K hK => ?_⟩
            rw [vs_is (show vs 2 = (.bool false : Value) from hd 2 (by kernel_rfl))]
            go_simp
            refine hK _ _ (left_val ((.bool false : Value)) rfl ?_ (Below.refl _ _) hC)
            rw [vs_is (show vs 2 = (.bool false : Value) from hd 2 (by kernel_rfl))]
            kernel_rfl
          · exact st_ld (.tmp 5) g5 rfl (fun vs W hd => by rw [vs_is (show vs 3 = .bool false from hd 3 (by kernel_rfl))]; kernel_rfl) rfl (fun _ => by kernel_rfl) HX57.out HDR.out (fun _ _ => by kernel_rfl)
          · exact st_c0g rfl (fun vs W hd => by rw [vs_is (show vs 3 = .bool false from hd 3 (by kernel_rfl))]; kernel_rfl) rfl (fun _ _ => by kernel_rfl)
          · exact st_slg (.tmp 9) g9 rfl (fun vs W hd => by rw [vs_is (show vs 3 = .bool false from hd 3 (by kernel_rfl))]; kernel_rfl) rfl (fun _ => by kernel_rfl) (fun _ _ => by kernel_rfl)
          · exact st_apbg 5 6 (.tmp 33) (.tmp 34) rfl rfl rfl (by kernel_rfl) (by kernel_rfl) rfl (fun vs W hd => by rw [vs_is (show vs 3 = .bool false from hd 3 (by kernel_rfl))]; kernel_rfl) rfl (fun _ => by kernel_rfl) (fun _ => by kernel_rfl) (fun _ _ => by kernel_rfl) HE.out HS9.out rfl (by omega)
          · exact st_slg (.tmp 8) g8 rfl (fun vs W hd => by rw [vs_is (show vs 3 = .bool false from hd 3 (by kernel_rfl))]; kernel_rfl) rfl (fun _ => by kernel_rfl) (fun _ _ => by kernel_rfl)
          · exact st_apbg 7 8 (.tmp 35) (.tmp 36) rfl rfl rfl (by kernel_rfl) (by kernel_rfl) rfl (fun vs W hd => by rw [vs_is (show vs 3 = .bool false from hd 3 (by kernel_rfl))]; kernel_rfl) rfl (fun _ => by kernel_rfl) (fun _ => by kernel_rfl) (fun _ _ => by kernel_rfl) HD32.out HS8.out rfl (by omega)
          · constructor
            intro vs W hC hd
            obtain ⟨A9, c9, e9, o9⟩ := (show ∃ A c, vs 9 = .slice A 64 c ∧ W.ownsRow _ 5 1 (vs 9) 64 (([] ++ E.map bv) ++ d.map bv) from hd 9 (by kernel_rfl))
            refine ⟨by rw [vs_is (show vs 3 = .bool false from hd 3 (by kernel_rfl))]; kernel_rfl, fun K hK => ?_⟩
            rw [vs_is (show vs 3 = (.bool false : Value) from hd 3 (by kernel_rfl)), vs_is e9]
            go_simp
            refine (HTG.out W A9 c9 hC (e9 ▸ o9)).mono ?_
            rintro e w' ⟨rfl, hb⟩
            refine hK _ _ (left_val ((.agg CR : Value)) rfl ?_ hb hC)
            rw [vs_is (show vs 3 = (.bool false : Value) from hd 3 (by kernel_rfl)), vs_is e9]
            kernel_rfl
          · constructor
            intro vs W hC hd
            refine ⟨by rw [vs_is (show vs 3 = .bool false from hd 3 (by kernel_rfl))]; kernel_rfl, fun K hK => ?_⟩
            rw [vs_is (show vs 3 = (.bool false : Value) from hd 3 (by kernel_rfl)), vs_is (show vs 4 = (.agg CR : Value) from hd 4 (by kernel_rfl)), vs_is (show vs 10 = (.agg CR : Value) from hd 10 (by kernel_rfl))]
            go_simp
            refine hK _ _ (left_val ((.bool false : Value)) rfl ?_ (Below.refl _ _) hC)
            rw [vs_is (show vs 3 = (.bool false : Value) from hd 3 (by kernel_rfl)), vs_is (show vs 4 = (.agg CR : Value) from hd 4 (by kernel_rfl)), vs_is (show vs 10 = (.agg CR : Value) from hd 10 (by kernel_rfl))]
            kernel_rfl
        · intro vs W hC hv hp
          have e3 : vs 3 = .bool false := hv 3 (by omega) (fun k hk => by revert hk; revert k; decide)
          have e11 : vs 11 = .bool false := hv 11 (by omega) (fun k hk => by revert hk; revert k; decide)
          clear hv hp
          simp only [List.drop_succ_cons, List.drop_zero, putO, e3, e11, Nat.reduceAdd, Nat.zero_add]
          clear e3 e11
          have hC3 : Below W3.heap.size W3 W := hC
          have HF := Lib.hid (HKF6.out.up hC3)
          have HA := Lib.hid (HX57.out.below hC3)
          have HB := Lib.hid (HX67.out.below hC3)
          clear hC hC3 HTG HKF6 HX57 HX67 HS8 HS9
          simp only [Act.put, List.setIfInBounds_toArray, List.set_cons_succ, List.set_cons_zero]
          go_wp2_with fail
          go_roundw
          case rel => exact ⟨k + 1, R, by omega, by go_num, HRL.out, HF.out, by rw [HCR.out]; exact HA.out, by rw [HCR.out]; exact HB.out⟩
          case measure => simp [intOf]; omega
    · have hkn : k = n := by omega
      subst hkn
      go_wp2_with fail
      go_ret
      exact ⟨rfl, hh0 ▸ HKF.out.B⟩
end Go.Proofs.YtdjlblfpkieenaaDoor
