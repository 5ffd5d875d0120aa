/- DigestTreeSpec. -/
import Derived.Test.YtdjlblfpkieenaaDoorBoth
import Derived.Test.YtdjlblfpkieenaaDoorSane
import Derived.Test.YtdjlblfpkieenaaDoorReg2
import Derived.Test.YtdjlblfpkieenaaDoorApp
namespace Go.Proofs.YtdjlblfpkieenaaDoor
open Go.RowKit Go.Sort
set_option linter.unusedVariables false

attribute [local go_sem ↓] eql_dig neq_dig
attribute [local go_sem] guard_dig

/-- What lasts through the law's loops. -/
structure TR (w : World) (A : Option Addr) (ds : List (List UInt8)) (g : Nat) (C : Array Value) (W : World) : Prop where
  K : KT W
  B : Below w.heap.size w W
  D : Ds W.heap.size W A ds
  X : Box W g C 26
theorem TR.up {w : World} {A : Option Addr} {ds : List (List UInt8)} {g : Nat} {C : Array Value} {W W' : World} (h : TR w A ds g C W) (hb : Below W.heap.size W W') : TR w A ds g C W' :=
  ⟨h.K.below hb, h.B.trans (hb.mono h.B.size), h.D.up hb, h.X.below hb⟩

/-- What lasts through the inner loops. -/
structure TQ (w : World) (A : Option Addr) (ds : List (List UInt8)) (g : Nat) (C : Array Value) (g1 : Nat) (C1 : Array Value) (g2 : Nat) (C2 : Array Value) (Aq : Option Addr) (ps : List (List UInt8)) (W : World) : Prop where
  T : TR w A ds g C W
  X1 : Box W g1 C1 3
  X2 : Box W g2 C2 3
  D : Ds W.heap.size W Aq ps
theorem TQ.up {w : World} {A : Option Addr} {ds : List (List UInt8)} {g : Nat} {C : Array Value} {g1 : Nat} {C1 : Array Value} {g2 : Nat} {C2 : Array Value} {Aq : Option Addr} {ps : List (List UInt8)} {W W' : World} (h : TQ w A ds g C g1 C1 g2 C2 Aq ps W) (hb : Below W.heap.size W W') : TQ w A ds g C g1 C1 g2 C2 Aq ps W' :=
  ⟨h.T.up hb, h.X1.below hb, h.X2.below hb, h.D.up hb⟩
theorem step_apdq {ops : Array Oper} {o : Oper} {a : Act} {w : World} {K : Act → World → Prop} {Q : Exit → Act → World → Prop} {E : Prop} (base : Nat) {v : Value} {n : Nat} {xs : List Value} (hgd : o.guard = none) (s x : Operand)
    (ho : o.op = .call { callee := .builtin .append, args := #[s, x], argTypes := #[30, 30] }) (hs : a.eval s = v) (hown : w.ownsRow base 26 32 v n xs) (hbase : base ≤ w.heap.size)
    (A : Option Addr) (ds : List (List UInt8)) (m c : Nat) (hm : ds.length = m) (hx : a.eval x = .slice A m c) (hD : Ds w.heap.size w A ds) (hnil : A = none → c = 0) (N : Nat) (hN : n + m = N) (hn : N ≤ 1000000)
    (h : ∀ A' c' w', w'.ownsRow base 26 32 (.slice A' N c') N (xs ++ flat ds) → w.grownBy w' v.ownBlock → ((Value.slice A' N c').ownBlock = v.ownBlock ∨ (Value.slice A' N c').ownBlock = some w.heap.size) → K (a.put o.dst (.slice A' N c')) w') :
    if Region.wanted o (yielded ops a.tmps) = true then Oper.wp Tryd.prog o a w K Q else E := by
  have hw : Region.wanted o (yielded ops a.tmps) = true := by simp [Region.wanted, hgd]
  rw [if_pos hw]
  exact wp_apd base s x ho hs hown hbase A ds m c hm hx hD hnil N hN hn h
theorem dig_size' {L : List Value} (h : L.length = 32) : (Tryd.prog.info? 26).map (·.size) = some L.length := by
  rw [h]
  exact (DF.of (d := List.replicate 32 0) rfl).info.trans rfl
theorem alloc_below (w : World) (o : Obj) : Below w.heap.size w (w.alloc o) := (Below.refl w.heap.size w).alloc (Nat.le_refl _) o
theorem own0 {base : Nat} (w : World) (hb : base ≤ w.heap.size) : (w.alloc (.cells #[] 26)).ownsRow base 26 32 (.slice (some ⟨w.heap.size, 0, none⟩) 0 0) 0 [] :=
  World.ownsRow_lit w #[] 0 hb (by unfold maxLen; omega) rfl
theorem s_al {w W : World} {g : Nat} {L : List Value} (h : W.rangeAt g 0 L ∧ Below w.heap.size w W) (o : Obj) : (W.alloc o).rangeAt g 0 L ∧ Below w.heap.size w (W.alloc o) :=
  ⟨range_below h.1 ((Below.refl W.heap.size W).alloc (Nat.le_refl _) o), h.2.alloc h.2.size o⟩
theorem s_gr {w W W' : World} {g : Nat} {L : List Value} {r : Option Nat} (h : W.rangeAt g 0 L ∧ Below w.heap.size w W) (hg : W.grownBy W' r) (hr : ∀ i, r = some i → w.heap.size ≤ i) (hgl : g < w.heap.size) : W'.rangeAt g 0 L ∧ Below w.heap.size w W' :=
  ⟨fun j v hv => hg.cell (h.1 j v hv) (fun e => by have := hr _ e.symm; simp at this; omega), h.2.grown hg h.2.size hr⟩

set_option maxHeartbeats 4000000 in
set_option maxRecDepth 100000 in
theorem lawTree_any (A : Option Addr) (c : Nat) (l : List UInt8) (at0 N0 : Int) (d : List UInt8) (w : World) (hK : KT w) (hS : Sl w A l c) (h1 : (Lit.int IntKind.i64 at0).wf = true) (h2 : (Lit.int IntKind.i64 N0).wf = true) (hd : d.length = 32) :
    Calls Tryd.prog 4 #[.slice A l.length c, .int .i64 at0, .int .i64 N0, .agg (dcells d)] w fun e w' => e = .returned (.bool true) ∧ Below w.heap.size w w' := by
  have hba := (Below.refl w.heap.size w).alloc (Nat.le_refl _) (.cells (dcells d) 26)
  have HSN := Lib.hid (sane_any _ (hK.below hba))
  have HDO := Lib.hid (fun w' (hb : Below w.heap.size w w') => digestsOf_any A c l w' (hS.up hb))
  have HX0 := Lib.hid (Box.new w (dcells d) 26)
  have HK := Lib.hid hK
  have HBA := Lib.hid hba
  have HD := Lib.hid hd
  have hsz : (dcells d).size = 32 := by simp [dcells, hd]
  clear hK hS hba h1 h2
  have hn24 : min l.length 24 ≤ 24 := by omega
  have hlen := dgk_length l (min l.length 24)
  have h32 := dgk_len32 l (min l.length 24)
  generalize hds : dgk l (min l.length 24) = ds at *
  generalize hnn : min l.length 24 = n at *
  have HLEN := Lib.hid hlen
  have H32 := Lib.hid h32
  clear hds hnn hlen h32
  generalize l.length = nl at *
  have HDD := Lib.hid (DF.of hd)
  clear hd
  have hcb := fun ps m i N hm hm2 => climb_both ps m d i N hm hm2 HD.out
  obtain ⟨CD, hCD⟩ : ∃ C, dcells d = C := ⟨_, rfl⟩
  rw [hCD] at HSN HX0 HBA HDD hsz ⊢
  simp only [hCD] at hcb
  have HCB := Lib.hid hcb
  have HCD := Lib.hid hCD
  clear hCD hcb
  go_enter Tryd.func4, Tryd.ntmps4
  go_wp2_with fail
  refine HSN.out.mono ?_
  rintro e w1 ⟨rfl, hb1⟩
  have HX1 := Lib.hid (HX0.out.below hb1)
  have HB1 := Lib.hid (HBA.out.trans (hb1.mono HBA.out.size))
  clear hb1 HSN HX0 HBA hsz
  go_wp2_with fail
  refine (HDO.out w1 HB1.out).mono ?_
  rintro e w8 ⟨A8, p8, rfl, ho8, hb8⟩
  obtain ⟨hD, hc1, hc2⟩ := Ds.of_own ho8 HLEN.out H32.out
  have hb8' := HB1.out.trans (hb8.mono HB1.out.size)
  have HTR : Hid (TR w A8 ds w.heap.size CD w8) := Lib.hid ⟨HK.out.below hb8', hb8', hD, HX1.out.below hb8⟩
  have HC := Lib.hid (And.intro hc1 hc2)
  clear ho8 hb8 hb8' hD hc1 hc2 HX1 HDO HB1
  have HT1 := Lib.hid (show ∀ W, Below w8.heap.size w8 W → Calls Tryd.prog 17 #[.slice A8 n p8] W (DigPost (tr ds) W) from fun W hb => by
    have := tree_any n ds A8 p8 W (by rw [HLEN.out]; exact Nat.le_refl _) (HTR.out.up hb).K (HTR.out.up hb).D (by rw [HLEN.out]; exact HC.out.1) HC.out.2 (by rw [HLEN.out]; omega)
    rwa [HLEN.out] at this)
  have HT2 := Lib.hid (show ∀ W, Below w8.heap.size w8 W → Calls Tryd.prog 18 #[.slice A8 n p8] W (DigPost (tr ds) W) from fun W hb => by
    have := refTree_any n ds A8 p8 W (by rw [HLEN.out]; exact Nat.le_refl _) (HTR.out.up hb).D (by rw [HLEN.out]; exact HC.out.1) HC.out.2 (by rw [HLEN.out]; omega)
    rwa [HLEN.out] at this)
  unfold DigPost at HT1 HT2
  have iT := IsDig.of (tr_length ds)
  obtain ⟨CT, hCT⟩ : ∃ C, dcells (tr ds) = C := ⟨_, rfl⟩
  rw [hCT] at HT1 HT2 iT
  clear hCT
  go_wp2_with fail
  refine (HT1.out w8 (Below.refl _ _)).mono ?_
  rintro e w9 ⟨rfl, hb9⟩
  have HB9 := Lib.hid hb9
  clear hb9
  go_wp2_with fail
  refine (HT2.out w9 HB9.out).mono ?_
  rintro e w10 ⟨rfl, hb10⟩
  have HB10 := Lib.hid (HB9.out.trans (hb10.mono HB9.out.size))
  have HTR2 := Lib.hid (HTR.out.up HB10.out)
  clear hb10 HT1 HT2 HB9 HB10 HTR
  go_wp2_with fail
  generalize bits BinOp.and IntKind.i64 at0 15 = a1
  have hba := (Below.refl w10.heap.size w10).alloc (Nat.le_refl _) (.cells #[.int .i64 at0, .int .i64 a1] 3)
  have HTR3 := Lib.hid (HTR2.out.up hba)
  have HG1 := Lib.hid (Box.new w10 #[.int .i64 at0, .int .i64 a1] 3)
  clear hba HTR2 iT
  generalize w10.heap.size = g1 at *
  go_loopw [38] (fun i wr => ∃ j : Nat, j ≤ 2 ∧ i = .int .i64 j ∧ TR w A8 ds w.heap.size CD wr ∧ Box wr g1 #[.int .i64 at0, .int .i64 a1] 3) (fun i _ => 2 - (intOf i).toNat)
  case atStart => exact ⟨0, by omega, rfl, HTR3.out, HG1.out⟩
  case round =>
    clear HTR3 HG1
    obtain ⟨j, hj, rfl, htr, hg1⟩ := hrel
    have HTR := Lib.hid htr
    have HG := Lib.hid hg1
    by_cases hlt : j < 2
    · obtain ⟨i, hci⟩ : ∃ i, wr.cell? ⟨g1, j, none⟩ = some (.int .i64 i) := by
        match j, hlt with
        | 0, _ => exact ⟨at0, hg1.cell 0⟩
        | 1, _ => exact ⟨a1, hg1.cell 1⟩
      obtain ⟨ps, m, ec, hpl, hm, hp32, hPB⟩ := path_both ds A8 p8 n i HLEN.out HC.out.1 HC.out.2 hn24
      have HP1 := Lib.hid (show ∀ W, Below wr.heap.size wr W → _ from fun W hb => (hPB W (HTR.out.up hb).K (HTR.out.up hb).D).1)
      have HP2 := Lib.hid (show ∀ W, Below wr.heap.size wr W → _ from fun W hb => (hPB W (HTR.out.up hb).K (HTR.out.up hb).D).2)
      have HPL := Lib.hid hpl
      have HP32 := Lib.hid hp32
      clear hPB hpl hp32 htr hg1
      go_wp2_with fail
      refine (HP1.out wr (Below.refl _ _)).mono ?_
      rintro e w11 ⟨Ap, cp, rfl, hDp, hcp1, hcp2, hnp, hb11⟩
      have HB11 := Lib.hid hb11
      have HDP := Lib.hid hDp
      clear hb11 hDp hcp1 hcp2 hnp HP1
      go_wp2_with fail
      refine (HP2.out w11 HB11.out).mono ?_
      rintro e w12 ⟨Aq, cq, rfl, hDq, hcq1, hcq2, hnq, hb12⟩
      have HTR12 := Lib.hid (HTR.out.up (HB11.out.trans (hb12.mono HB11.out.size)))
      have HG12 := Lib.hid (HG.out.below (HB11.out.trans (hb12.mono HB11.out.size)))
      have HDP12 := Lib.hid (HDP.out.up hb12)
      have HDQ := Lib.hid hDq
      have HCQ := Lib.hid (And.intro hcq1 (And.intro hcq2 hnq))
      clear hb12 hDq hcq1 hcq2 hnq HP2 HB11 HDP HTR HG
      have HSM := Lib.hid (refSame_any Ap Aq m cp cq ps w12 HPL.out HDP12.out HDQ.out (by omega))
      go_wp2_with fail
      refine HSM.out.mono ?_
      rintro e w13 ⟨rfl, q13, hw13⟩
      have HTR13 := Lib.hid (show TR w A8 ds w.heap.size CD w13 from by rw [hw13]; exact HTR12.out.up (below_drewN w12 q13))
      have HG13 := Lib.hid (show Box w13 g1 #[.int .i64 at0, .int .i64 a1] 3 from by rw [hw13]; exact HG12.out)
      have HDQ13 := Lib.hid (show Ds w13.heap.size w13 Aq ps from by rw [hw13]; exact HDQ.out)
      clear hw13 HTR12 HG12 HDP12 HDQ HSM
      go_wp2_with fail
      have hba := (Below.refl w13.heap.size w13).alloc (Nat.le_refl _) (.cells #[.int .i64 N0, .int .i64 (n : Int)] 3)
      have HQ13 : Hid (TQ w A8 ds w.heap.size CD g1 #[.int .i64 at0, .int .i64 a1] w13.heap.size #[.int .i64 N0, .int .i64 (n : Int)] Aq ps (w13.alloc (.cells #[.int .i64 N0, .int .i64 (n : Int)] 3))) := Lib.hid ⟨HTR13.out.up hba, HG13.out.below hba, Box.new w13 _ _, HDQ13.out.up hba⟩
      clear hba HTR13 HG13 HDQ13
      generalize w13.heap.size = g2 at *
      go_loopw [68] (fun i wr => ∃ j : Nat, j ≤ 2 ∧ i = .int .i64 j ∧ TQ w A8 ds w.heap.size CD g1 #[.int .i64 at0, .int .i64 a1] g2 #[.int .i64 N0, .int .i64 (n : Int)] Aq ps wr) (fun i _ => 2 - (intOf i).toNat)
      case atStart => exact ⟨0, by omega, rfl, HQ13.out⟩
      case round =>
        clear HQ13
        obtain ⟨j2, hj2, rfl, htq⟩ := hrel
        have HQ := Lib.hid htq
        by_cases hlt2 : j2 < 2
        · obtain ⟨N2, hcN⟩ : ∃ i, wr.cell? ⟨g2, j2, none⟩ = some (.int .i64 i) := by
            match j2, hlt2 with
            | 0, _ => exact ⟨N0, htq.X2.cell 0⟩
            | 1, _ => exact ⟨(n : Int), htq.X2.cell 1⟩
          obtain ⟨c0, c1, c2, c3, c4, c5, c6, c7, c8, c9, c10, c11, c12, c13, c14, c15, c16, c17, c18, c19, c20, c21, c22, c23, c24, c25, c26, c27, c28, c29, c30, c31, hlit⟩ := dcells_lit d HD.out
          have hrg : wr.rangeAt w.heap.size 0 [c0, c1, c2, c3, c4, c5, c6, c7, c8, c9, c10, c11, c12, c13, c14, c15, c16, c17, c18, c19, c20, c21, c22, c23, c24, c25, c26, c27, c28, c29, c30, c31] := Box.range (by have := htq.T.X; rw [← HCD.out, hlit] at this; exact this)
          have hnb : ∀ W : World, Box (W.alloc (.cells #[c0, c1, c2, c3, c4, c5, c6, c7, c8, c9, c10, c11, c12, c13, c14, c15, c16, c17, c18, c19, c20, c21, c22, c23, c24, c25, c26, c27, c28, c29, c30, c31] 26)) W.heap.size (dcells d) 26 := fun W => by rw [hlit]; exact Box.new W _ _
          have HXN := Lib.hid hnb
          have HRG := Lib.hid hrg
          have HGL := Lib.hid (show w.heap.size < wr.heap.size from htq.T.X.lt)
          have HID := Lib.hid (dig_size' (L := [c0, c1, c2, c3, c4, c5, c6, c7, c8, c9, c10, c11, c12, c13, c14, c15, c16, c17, c18, c19, c20, c21, c22, c23, c24, c25, c26, c27, c28, c29, c30, c31]) rfl)
          clear hlit hrg hnb htq
          obtain ⟨W0, hW0⟩ : ∃ W : World, W = wr := ⟨_, rfl⟩
          rw [← hW0] at HRG HGL HQ hcN ⊢
          clear hW0
          have HQ0 := HQ
          have hbd : Below W0.heap.size W0 W0.drew := (Below.refl _ _).drew
          have BI := Lib.hid (hbd.alloc (Nat.le_refl _) (.cells #[] 26))
          have OI := Lib.hid (own0 (base := W0.heap.size) W0.drew (Nat.le_refl _))
          have SD : Hid (W0.drew.rangeAt w.heap.size 0 [c0, c1, c2, c3, c4, c5, c6, c7, c8, c9, c10, c11, c12, c13, c14, c15, c16, c17, c18, c19, c20, c21, c22, c23, c24, c25, c26, c27, c28, c29, c30, c31] ∧ Below W0.heap.size W0 W0.drew) := Lib.hid ⟨HRG.out, hbd⟩
          have SI := Lib.hid (s_al SD.out (.cells #[] 26))
          have SII := Lib.hid (s_al SI.out (.cells #[c0, c1, c2, c3, c4, c5, c6, c7, c8, c9, c10, c11, c12, c13, c14, c15, c16, c17, c18, c19, c20, c21, c22, c23, c24, c25, c26, c27, c28, c29, c30, c31] 26))
          have BII := Lib.hid SII.out.2
          have OII := Lib.hid (own_below OI.out (alloc_below _ (.cells #[c0, c1, c2, c3, c4, c5, c6, c7, c8, c9, c10, c11, c12, c13, c14, c15, c16, c17, c18, c19, c20, c21, c22, c23, c24, c25, c26, c27, c28, c29, c30, c31] 26)))
          have z1 : (W0.drew.alloc (.cells #[] 26)).heap.size = W0.heap.size + 1 := World.size_alloc _ _
          have z2 : (W0.drew.alloc (.cells #[c0, c1, c2, c3, c4, c5, c6, c7, c8, c9, c10, c11, c12, c13, c14, c15, c16, c17, c18, c19, c20, c21, c22, c23, c24, c25, c26, c27, c28, c29, c30, c31] 26)).heap.size = W0.heap.size + 1 := World.size_alloc _ _
          have XII := Lib.hid (z1 ▸ HXN.out (W0.drew.alloc (.cells #[] 26)))
          have SC := Lib.hid (s_al SD.out (.cells #[c0, c1, c2, c3, c4, c5, c6, c7, c8, c9, c10, c11, c12, c13, c14, c15, c16, c17, c18, c19, c20, c21, c22, c23, c24, c25, c26, c27, c28, c29, c30, c31] 26))
          have SIII := Lib.hid (s_al SC.out (.cells #[] 26))
          have BIII := Lib.hid SIII.out.2
          have OIII := Lib.hid (z2 ▸ own0 (base := W0.heap.size) (W0.drew.alloc (.cells #[c0, c1, c2, c3, c4, c5, c6, c7, c8, c9, c10, c11, c12, c13, c14, c15, c16, c17, c18, c19, c20, c21, c22, c23, c24, c25, c26, c27, c28, c29, c30, c31] 26)) SC.out.2.size)
          have XIII := Lib.hid ((HXN.out W0.drew).alloc (.cells #[] 26))
          have NII : Hid (some (W0.heap.size + 1) ≠ (Value.slice (some ⟨W0.heap.size, 0, none⟩) 0 0).ownBlock) := Lib.hid (by simp [Value.ownBlock])
          have NIII : Hid (some W0.heap.size ≠ (Value.slice (some ⟨W0.heap.size + 1, 0, none⟩) 0 0).ownBlock) := Lib.hid (by simp [Value.ownBlock])
          clear z1 z2
          obtain ⟨hf, hhf⟩ : ∃ h, h = m / 2 := ⟨_, rfl⟩
          have q0 : (m : Int).tdiv 2 = (hf : Int) := by rw [Int.tdiv_eq_ediv_of_nonneg (by omega)]; omega
          have q1 : IntKind.i64.wrap (hf : Int) = (hf : Int) := IntWalk.i64_in _ (by omega)
          have q2 : (hf : Int) ≤ (cq : Int) := by have := HCQ.out.1; omega
          have q3 : (0 : Int) ≤ (hf : Int) := by omega
          have HHF := Lib.hid hhf
          clear hhf
          have hun := Tryd.underlying26
          have hid := HID.out
          clear hbd
          go_wp2_with fail
          go_region_held3 (fun w' => w'.rangeAt w.heap.size 0 [c0, c1, c2, c3, c4, c5, c6, c7, c8, c9, c10, c11, c12, c13, c14, c15, c16, c17, c18, c19, c20, c21, c22, c23, c24, c25, c26, c27, c28, c29, c30, c31] ∧ Below W0.heap.size W0 w')
            (first | exact SD.out | exact SI.out | exact SII.out | exact SC.out | exact SIII.out | exact S7.out | exact s_al S7.out _ | exact S9.out | exact s_al S9.out _ | exact s_al (by assumption) _)
            (first
            | ((refine step_apdq W0.heap.size (by rfl) (.tmp 73) (.tmp 74) (by rfl) (by rfl) OI.out (BI.out.size) Aq ps m cq HPL.out (by rfl) (HQ0.out.D.up BI.out) HCQ.out.2.2 m (by omega) (by omega) ?_); intro A7 p7 w7 ho7 hg7 _; have S7 := Lib.hid (s_gr SI.out hg7 (fun i hi => (OI.out.lt i hi).1) HGL.out))
            | ((refine step_apdq W0.heap.size (by rfl) (.tmp 73) (.tmp 74) (by rfl) (by rfl) OII.out (BII.out.size) Aq ps m cq HPL.out (by rfl) (HQ0.out.D.up BII.out) HCQ.out.2.2 m (by omega) (by omega) ?_); intro A7 p7 w7 ho7 hg7 _; have S7 := Lib.hid (s_gr SII.out hg7 (fun i hi => (OII.out.lt i hi).1) HGL.out); have X7 := Lib.hid (XII.out.grown hg7 NII.out))
            | ((refine step_apdq W0.heap.size (by rfl) (.tmp 73) (.tmp 74) (by rfl) (by rfl) OIII.out (BIII.out.size) Aq ps m cq HPL.out (by rfl) (HQ0.out.D.up BIII.out) HCQ.out.2.2 m (by omega) (by omega) ?_); intro A7 p7 w7 ho7 hg7 _; have S7 := Lib.hid (s_gr SIII.out hg7 (fun i hi => (OIII.out.lt i hi).1) HGL.out); have X7 := Lib.hid (XIII.out.grown hg7 NIII.out))
            | ((refine step_append_dig (by rfl) (.tmp 75) (.tmp 77) (by rfl) _ m _ (by rfl) ho7 _ d (by rfl) HD.out X7.out (m + 1) rfl (by omega) S7.out.2.size ?_); intro A9 p9 w9 ho9 hg9; have S9 := Lib.hid (s_gr S7.out hg9 (fun i hi => (ho7.lt i hi).1) HGL.out))
            | ((refine step_append_dig (by rfl) (.tmp 75) (.tmp 77) (by rfl) _ m _ (by rfl) (own_below ho7 (alloc_below w7 _)) w7.heap.size d (by rfl) HD.out (HXN.out w7) (m + 1) rfl (by omega) (s_al S7.out _).2.size ?_); intro A9 p9 w9 ho9 hg9; have S9 := Lib.hid (s_gr (s_al S7.out _) hg9 (fun i hi => (ho7.lt i hi).1) HGL.out))
              | fail)
          all_goals
            obtain ⟨hD9, hc91, hc92⟩ := Ds.of_own (ds := ps ++ [d]) (by rw [flat_snoc]; exact ho9) (by rw [List.length_append, HPL.out]; rfl) (fun x hx => by
              rcases List.mem_append.1 hx with hx | hx
              · exact HP32.out x hx
              · simp at hx; subst hx; exact HD.out)
            have HD9 := Lib.hid hD9
            have HC9 := Lib.hid (And.intro hc91 hc92)
            have HQ9 := Lib.hid (HQ0.out.up S9.out.2)
            clear hD9 hc91 hc92 ho9
            go_wp2_with fail
            have hbl := alloc_below w9 (.cells #[.slice Aq m cq, .slice A9 (m + 1) p9, .slice Aq hf cq] 30)
            have HQ10 := Lib.hid (HQ9.out.up hbl)
            have HD10 := Lib.hid (HD9.out.up hbl)
            have HL10 := Lib.hid (Box.new w9 #[.slice Aq m cq, .slice A9 (m + 1) p9, .slice Aq hf cq] 30)
            clear hbl HQ9 HD9
            generalize w9.heap.size = g3 at *
            go_loopw [86] (fun i wr => ∃ k : Nat, k ≤ 3 ∧ i = .int .i64 k ∧ TQ w A8 ds w.heap.size CD g1 #[.int .i64 at0, .int .i64 a1] g2 #[.int .i64 N0, .int .i64 (n : Int)] Aq ps wr ∧ Ds wr.heap.size wr A9 (ps ++ [d]) ∧ Box wr g3 #[.slice Aq m cq, .slice A9 (m + 1) p9, .slice Aq hf cq] 30) (fun i _ => 3 - (intOf i).toNat)
            case atStart => exact ⟨0, by omega, rfl, HQ10.out, HD10.out, HL10.out⟩
            case round =>
              clear HQ10 HD10 HL10
              obtain ⟨k, hk, rfl, htq, hd9, hl3⟩ := hrel
              have HQ := Lib.hid htq
              have HD9 := Lib.hid hd9
              have HL3 := Lib.hid hl3
              by_cases hlt3 : k < 3
              · obtain ⟨A', m', c', ps', hcell, hDs, hl', hm', hc'⟩ : ∃ A' m' c' ps', wr.cell? ⟨g3, k, none⟩ = some (.slice A' m' c') ∧ Ds wr.heap.size wr A' ps' ∧ ps'.length = m' ∧ m' ≤ 2000 ∧ m' ≤ c' := by
                  match k, hlt3 with
                  | 0, _ => exact ⟨Aq, m, cq, ps, hl3.cell 0, htq.D, HPL.out, by omega, HCQ.out.1⟩
                  | 1, _ => exact ⟨A9, m + 1, p9, ps ++ [d], hl3.cell 1, hd9, by rw [List.length_append, HPL.out]; rfl, by omega, HC9.out.1⟩
                  | 2, _ => exact ⟨Aq, hf, cq, ps.take hf, hl3.cell 2, htq.D.take hf, by rw [List.length_take, HPL.out, HHF.out]; omega, by have := HHF.out; omega, by have := HHF.out; have := HCQ.out.1; omega⟩
                obtain ⟨R, ec2, hR, hCB⟩ := HCB.out ps' m' i N2 hl' hm'
                have HE1 := Lib.hid (show ∀ W, Below wr.heap.size wr W → _ from fun W hb => (hCB A' c' W (HQ.out.up hb).T.K (hDs.up hb) hc').1)
                have HE2 := Lib.hid (show ∀ W, Below wr.heap.size wr W → _ from fun W hb => (hCB A' c' W (HQ.out.up hb).T.K (hDs.up hb) hc').2)
                have iR := IsDig.of hR
                have HDR := Lib.hid (DF.of hR)
                unfold CRes at HE1 HE2
                obtain ⟨CR, hCR⟩ : ∃ C, dcells R = C := ⟨_, rfl⟩
                rw [hCR] at HE1 HE2 iR HDR
                clear hCR hR hCB hDs htq hd9 hl3
                go_wp2_with (first
                  | (refine wpList_load_row rfl 26 (.tmp 7) rfl w.heap.size rfl 26 CD (0, 0) _ HQ.out.T.X Tryd.underlying26 rfl HDD.out.info ?_))
                refine (HE1.out wr (Below.refl _ _)).mono ?_
                rintro e w20 ⟨rfl, hb20⟩
                have hbf := below_fill' w20 dz CR 26
                have HB21 := Lib.hid (hb20.trans (hbf.mono hb20.size))
                have HX20 := Lib.hid (box_fill' w20 dz CR 26)
                have HN20 := Lib.hid (Box.new w20 dz 26)
                clear hbf hb20 HE1
                go_wp2_with (first
                  | (refine wpList_store_row rfl 26 (.tmp 20) (.tmp 96) rfl w20.heap.size CR rfl rfl 26 dz HN20.out HDR.out.info HDR.out.size HDR.out.one ?_
                     generalize hV : World.setRow (World.alloc w20 _) _ CR = W21
                     have HB22 : Hid (Below wr.heap.size wr W21) := Lib.hid (by rw [← hV]; exact HB21.out)
                     have HX21 : Hid (Box W21 w20.heap.size CR 26) := Lib.hid (by rw [← hV]; exact HX20.out)
                     have HQ21 := Lib.hid (HQ.out.up HB22.out)
                     clear hV HB21 HX20 HN20
                     generalize w20.heap.size = g20 at *)
                  | (refine wpList_load_row rfl 26 (.tmp 7) rfl w.heap.size rfl 26 CD (0, 0) _ HQ21.out.T.X Tryd.underlying26 rfl HDD.out.info ?_))
                refine (HE2.out W21 HB22.out).mono ?_
                rintro e w30 ⟨rfl, hb30⟩
                have hbf := below_fill' w30 dz CR 26
                have hb31 := hb30.trans (hbf.mono hb30.size)
                have HB31 := Lib.hid (HB22.out.trans (hb31.mono HB22.out.size))
                have HX31 := Lib.hid (HX21.out.below hb31)
                have HY31 := Lib.hid (box_fill' w30 dz CR 26)
                have HN30 := Lib.hid (Box.new w30 dz 26)
                clear hbf hb30 hb31 HE2 HQ21 HX21 HB22
                go_wp2_with (first
                  | (refine wpList_store_row rfl 26 (.tmp 22) (.tmp 104) rfl w30.heap.size CR rfl rfl 26 dz HN30.out HDR.out.info HDR.out.size HDR.out.one ?_
                     generalize hV : World.setRow (World.alloc w30 _) _ CR = W31
                     have HB32 : Hid (Below wr.heap.size wr W31) := Lib.hid (by rw [← hV]; exact HB31.out)
                     have HX32 : Hid (Box W31 g20 CR 26) := Lib.hid (by rw [← hV]; exact HX31.out)
                     have HY32 : Hid (Box W31 w30.heap.size CR 26) := Lib.hid (by rw [← hV]; exact HY31.out)
                     clear hV HB31 HX31 HY31 HN30
                     generalize w30.heap.size = g30 at *)
                  | (refine wpList_load_row rfl 26 (.tmp 20) rfl g20 rfl 26 CR (0, 0) _ HX32.out Tryd.underlying26 rfl HDR.out.info ?_)
                  | (refine wpList_load_row rfl 26 (.tmp 22) rfl g30 rfl 26 CR (0, 0) _ HY32.out Tryd.underlying26 rfl HDR.out.info ?_))
                go_roundw
                case rel => exact ⟨k + 1, by omega, by go_num, HQ.out.up HB32.out, HD9.out.up HB32.out, HL3.out.below HB32.out⟩
                case measure => simp [intOf]; omega
              · obtain rfl : k = 3 := by omega
                clear htq hd9 hl3
                go_wp2_with fail
                go_roundw
                case rel => exact ⟨j2 + 1, by omega, by go_num, HQ.out⟩
                case measure => simp [intOf]; omega
        · obtain rfl : j2 = 2 := by omega
          clear htq
          go_wp2_with fail
          go_roundw
          case rel => exact ⟨j + 1, by omega, by go_num, HQ.out.T, HQ.out.X1⟩
          case measure => simp [intOf]; omega
    · obtain rfl : j = 2 := by omega
      clear hg1
      go_wp2_with fail
      go_ret
      exact ⟨rfl, htr.B⟩
end Go.Proofs.YtdjlblfpkieenaaDoor
