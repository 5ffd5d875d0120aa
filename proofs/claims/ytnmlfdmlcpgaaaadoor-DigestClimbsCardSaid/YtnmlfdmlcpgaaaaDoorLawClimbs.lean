/- DigestClimbs. -/
import Derived.Test.YtnmlfdmlcpgaaaaDoorReg2
import Derived.Test.YtnmlfdmlcpgaaaaDoorSteps
import Derived.Test.YtnmlfdmlcpgaaaaDoorEq
import Derived.Test.YtnmlfdmlcpgaaaaDoorSane
namespace Go.Proofs.YtnmlfdmlcpgaaaaDoor
open Go.RowKit Go.Sort
set_option linter.unusedVariables false

/-- A load of a whole array behind a guard. -/
theorem wpList_load_row_g {ops : Array Oper} {rest : List Oper} {o : Oper} {a : Act} {w : World} {Q : Exit → Act → World → Prop} (hw : Region.wanted o (yielded ops a.tmps) = true) (x : Operand) (ho : o.op = .load 26 x)
    (g : Nat) (hx : a.eval x = .pointer (some ⟨g, 0, none⟩)) (cs : Array Value) (hg : Box w g cs 26) (hi : (Tryd.prog.info? 26).map (·.size) = some cs.size)
    (h : wpList Tryd.prog ops Q rest (a.put o.dst (.agg cs)) w) : wpList Tryd.prog ops Q (o :: rest) a w :=
  BigFrame.wpList_want hw fun _ hK => wp_load_row 26 x ho g hx 26 cs (0, 0) _ hg Tryd.underlying26 rfl hi (hK _ _ h)
theorem pl_le5 : ∀ n, n < 25 → ∀ i, i < n → pl i n ≤ 5 := by decide +kernel

/-- What lasts: the table, what was there, the digests. -/
structure CF (w : World) (A : Option Addr) (ds : List (List UInt8)) (g4 : Nat) (CT : Array Value) (W : World) : Prop where
  K : KT W
  B : Below w.heap.size w W
  D : Ds W.heap.size W A ds
  T : Box W g4 CT 26
theorem CF.up {w : World} {A : Option Addr} {ds : List (List UInt8)} {g4 : Nat} {CT : Array Value} {W W' : World} (h : CF w A ds g4 CT W) (hb : Below W.heap.size W W') : CF w A ds g4 CT W' :=
  ⟨h.K.below hb, h.B.trans (hb.mono h.B.size), h.D.up hb, h.T.below hb⟩
/-- A new variable that is filled at once. -/
theorem below_fill (W : World) (C C' : Array Value) (t : TypeId) : Below W.heap.size W ((W.alloc (.cells C t)).setRow W.heap.size C') :=
  ((Below.refl W.heap.size W).alloc (Nat.le_refl _) _).trans (below_grown (setRow_grown _ _ _) (Nat.le_refl _) (by simp))
theorem box_fill (W : World) (C C' : Array Value) (t : TypeId) : Box ((W.alloc (.cells C t)).setRow W.heap.size C') W.heap.size C' t := Box.setRow (Box.new W C t)

/-- What the operations of 'Climb(d, i, len(l), append(append([]api.Digest{}, p...), d))' leave. -/
def phiC (W8 : World) (LD : List Value) (ps : List (List UInt8)) (b off n c1 i : Nat) (A2 : Option Addr) (m c2 : Nat) : Nat → Value → World → Prop
  | 0, v, _ => v = .agg LD.toArray
  | 1, v, _ => v = .int .i64 i
  | 2, v, _ => v = .slice (some ⟨b, off, none⟩) n c1
  | 3, v, _ => v = .int .i64 n
  | 4, v, W => ∃ g, v = .slice (some ⟨g, 0, none⟩) 0 0 ∧ W.ownsRow W8.heap.size 26 32 v 0 []
  | 5, v, _ => v = .slice A2 m c2
  | 6, v, W => ∃ A c, v = .slice A m c ∧ W.ownsRow W8.heap.size 26 32 v m ([] ++ flat ps)
  | 7, v, _ => v = .agg LD.toArray
  | 8, v, W => ∃ g, v = .slice (some ⟨g, 0, none⟩) 1 1 ∧ Box W g LD.toArray 26
  | 9, v, _ => ∃ A c, v = .slice A (m + 1) c
  | 10, v, _ => v = .tuple #[.agg dz, .int .i64 1]
  | 11, v, _ => v = .tuple #[.agg dz, .int .i64 1]
  | 12, v, _ => v = .agg dz
  | 13, v, _ => v = .int .i64 1
  | 14, v, W => ∃ g, v = .pointer (some ⟨g, 0, none⟩) ∧ W8.heap.size ≤ g ∧ Box W g dz 26
  | _, _, _ => True
def eatsC (i j : Nat) : Bool := (i == 6 && j == 4) || ((i == 9 || i == 15) && (j == 4 || j == 6 || j == 8))
def specC (i : Nat) : Prop := i = 4 ∨ i = 6 ∨ i = 8 ∨ i = 14
/-- Rows and lists lie in blocks of their own. -/
def psiC (i j : Nat) (v u : Value) : Prop := specC i → specC j → ∀ g, blk v = some g → blk u ≠ some g
section
variable {W8 : World} {LD : List Value} {ps : List (List UInt8)} {b off n c1 i : Nat} {A2 : Option Addr} {m c2 : Nat}
theorem phiC_lasts : ∀ (j : Nat) (v : Value) (w w' : World), phiC W8 LD ps b off n c1 i A2 m c2 j v w → Below w.heap.size w w' → phiC W8 LD ps b off n c1 i A2 m c2 j v w'
  | 0, _, _, _, h, _ => h
  | 1, _, _, _, h, _ => h
  | 2, _, _, _, h, _ => h
  | 3, _, _, _, h, _ => h
  | 4, _, _, _, ⟨g, h1, h2⟩, hb => ⟨g, h1, own_below h2 hb⟩
  | 5, _, _, _, h, _ => h
  | 6, _, _, _, ⟨A, c, h1, h2⟩, hb => ⟨A, c, h1, own_below h2 hb⟩
  | 7, _, _, _, h, _ => h
  | 8, _, _, _, ⟨g, h1, h2⟩, hb => ⟨g, h1, h2.below hb⟩
  | 9, _, _, _, h, _ => h
  | 10, _, _, _, h, _ => h
  | 11, _, _, _, h, _ => h
  | 12, _, _, _, h, _ => h
  | 13, _, _, _, h, _ => h
  | 14, _, _, _, ⟨g, h1, h2, h3⟩, hb => ⟨g, h1, h2, h3.below hb⟩
  | _ + 15, _, _, _, _, _ => trivial
theorem phiC_lt {j : Nat} {u : Value} {w : World} (hj : specC j) (h : phiC W8 LD ps b off n c1 i A2 m c2 j u w) : ∀ g, blk u = some g → g < w.heap.size := by
  intro g hg
  rcases hj with rfl | rfl | rfl | rfl
  · obtain ⟨g', rfl, ho⟩ := h
    rw [blk_own] at hg
    exact (ho.lt g hg).2
  · obtain ⟨A, c, rfl, ho⟩ := h
    rw [blk_own] at hg
    exact (ho.lt g hg).2
  · obtain ⟨g', rfl, hx⟩ := h
    injection hg with hg
    subst hg
    exact hx.lt
  · obtain ⟨g', rfl, _, hx⟩ := h
    injection hg with hg
    subst hg
    exact hx.lt
theorem psiC_no {j : Nat} {v : Value} {w : World} (h : ¬ specC j) : ∀ k u, k ≠ j → phiC W8 LD ps b off n c1 i A2 m c2 k u w → psiC j k v u ∧ psiC k j u v := fun k u _ _ => ⟨fun hh => absurd hh h, fun _ hh => absurd hh h⟩
theorem psiC_new {j : Nat} {v : Value} {w : World} (hv : ∀ g, blk v = some g → g = w.heap.size) : ∀ k u, k ≠ j → phiC W8 LD ps b off n c1 i A2 m c2 k u w → psiC j k v u ∧ psiC k j u v := fun k u _ hu =>
  ⟨fun _ hk g hg he => by have := phiC_lt hk hu g he; have := hv g hg; omega, fun hk _ g hg he => by have := phiC_lt hk hu g hg; have := hv g he; omega⟩
/-- What an append into a row leaves of the others. -/
theorem phiC_kept {j : Nat} {u v : Value} {w w' : World} (h : phiC W8 LD ps b off n c1 i A2 m c2 j u w) (hg : w.grownBy w' v.ownBlock) (h4 : j ≠ 4) (h6 : j ≠ 6) (hne : specC j → ∀ g, v.ownBlock = some g → blk u ≠ some g) : phiC W8 LD ps b off n c1 i A2 m c2 j u w' := by
  match j, h with
  | 0, h => exact h
  | 1, h => exact h
  | 2, h => exact h
  | 3, h => exact h
  | 4, _ => exact absurd rfl h4
  | 5, h => exact h
  | 6, _ => exact absurd rfl h6
  | 7, h => exact h
  | 8, ⟨g, h1, h2⟩ =>
    refine ⟨g, h1, h2.grown hg fun e => ?_⟩
    exact hne (.inr (.inr (.inl rfl))) g e.symm (by rw [h1]; rfl)
  | 9, h => exact h
  | 10, h => exact h
  | 11, h => exact h
  | 12, h => exact h
  | 13, h => exact h
  | 14, ⟨g, h1, h2, h3⟩ =>
    refine ⟨g, h1, h2, h3.grown hg fun e => ?_⟩
    exact hne (.inr (.inr (.inr rfl))) g e.symm (by rw [h1]; rfl)
  | _ + 15, _ => trivial
end

theorem rg1 {W : World} {g off : Nat} {cs : List Value} {o : Obj} (h : W.rangeAt g off cs) : (W.alloc o).rangeAt g off cs := range_below h ((Below.refl W.heap.size W).alloc (Nat.le_refl _) o)
attribute [local go_sem ↓] eql_dig neq_dig
attribute [local go_sem] guard_dig putO upd
set_option maxHeartbeats 2000000 in
set_option maxRecDepth 100000 in
theorem lawClimbs_any (A : Option Addr) (c : Nat) (l : List UInt8) (w : World) (hK : KT w) (hS : Sl w A l c) :
    Calls Tryd.prog 6 #[.slice A l.length c] w fun e w' => e = .returned (.bool true) ∧ Below w.heap.size w w' := by
  have HSN := Lib.hid (sane_any w hK)
  have HDO := Lib.hid (fun w' (hb : Below w.heap.size w w') => digestsOf_any A c l w' (hS.up hb))
  have HK := Lib.hid hK
  clear hK hS
  have hn24 : min l.length 24 ≤ 24 := by omega
  have hlen := dgk_length l (min l.length 24)
  have h32 := dgk_len32 l (min l.length 24)
  generalize hds : dgk l (min l.length 24) = ds at *
  generalize hnn : min l.length 24 = n at *
  have HLEN := Lib.hid hlen
  have H32 := Lib.hid h32
  clear hds hnn hlen h32
  generalize l.length = nl at *
  go_enter Tryd.func6, Tryd.ntmps6
  go_wp2_with fail
  refine HSN.out.mono ?_
  rintro e w1 ⟨rfl, hb1⟩
  go_wp2_with fail
  refine (HDO.out w1 hb1).mono ?_
  rintro e w2 ⟨A1, c1, rfl, ho2, hb2⟩
  have hbw2 := hb1.trans (hb2.mono hb1.size)
  obtain ⟨hD, hc1, hc2⟩ := Ds.of_own ho2 HLEN.out H32.out
  have hKT := HK.out.below hbw2
  have HT := Lib.hid (tree_any n ds A1 c1 w2 (by rw [HLEN.out]; exact Nat.le_refl _) hKT hD (by rw [HLEN.out]; exact hc1) hc2 (by rw [HLEN.out]; omega))
  rw [HLEN.out] at HT
  have hTL := tr_length ds
  have iT := IsDig.of hTL
  have HDT := Lib.hid (DF.of hTL)
  have HCLR := Lib.hid (fun i d h => clr_pth n ds i d (by rw [HLEN.out]; exact Nat.le_refl _) h)
  rw [HLEN.out] at HCLR
  have HC := Lib.hid (And.intro hc1 hc2)
  have H2 := Lib.hid (And.intro hKT (And.intro hbw2 hD))
  unfold DigPost at HT
  obtain ⟨CT, hCT⟩ : ∃ CT, dcells (tr ds) = CT := ⟨_, rfl⟩
  rw [hCT] at HT iT HDT
  have HCT := Lib.hid hCT
  clear hb1 hb2 ho2 hbw2 hD HSN HDO hc1 hc2 hKT hTL hCT
  go_wp2_with fail
  refine HT.out.mono ?_
  rintro e w3 ⟨rfl, hb3⟩
  have hx3 := Box.new w3 dz 26
  have HX3 := Lib.hid hx3
  have hb4 := hb3.trans ((below_fill w3 dz CT 26).mono hb3.size)
  have F4 : CF w A1 ds w3.heap.size CT ((w3.alloc (.cells dz 26)).setRow w3.heap.size CT) :=
    ⟨H2.out.1.below hb4, H2.out.2.1.trans (hb4.mono H2.out.2.1.size), H2.out.2.2.up hb4, box_fill _ _ _ _⟩
  have HF4 := Lib.hid F4
  clear hb3 hx3 hb4 F4 HT H2
  go_wp2_with (first | (refine wpList_store_row rfl 26 (.tmp 4) (.tmp 18) rfl w3.heap.size CT rfl rfl 26 dz HX3.out HDT.out.info HDT.out.size HDT.out.one ?_))
  clear HX3
  generalize hV : World.setRow (World.alloc w3 _) _ CT = V
  have HH4 : Hid (CF w A1 ds w3.heap.size CT V) := Lib.hid (by rw [← hV]; exact HF4.out)
  clear hV HF4
  have HF4 := HH4
  clear HH4
  generalize w3.heap.size = g4 at *
  go_loopw [21] (fun i wr => ∃ j : Nat, j ≤ n ∧ i = .int .i64 j ∧ Below V.heap.size V wr) (fun i _ => n - (intOf i).toNat)
  case atStart => exact ⟨0, by omega, rfl, Below.refl _ _⟩
  case round =>
    obtain ⟨i, hi, rfl, hbw⟩ := hrel
    have HB := Lib.hid hbw
    clear hbw
    by_cases hin : i < n
    · have F := HF4.out.up HB.out
      obtain ⟨b, off, rfl, hbl, hc⟩ := F.D.2 (by rw [HLEN.out]; omega)
      obtain ⟨d, hdi⟩ : ∃ d, ds[i]? = some d := ⟨_, List.getElem?_eq_getElem (by rw [HLEN.out]; exact hin)⟩
      have hd32 : d.length = 32 := H32.out d (List.mem_of_getElem? hdi)
      have HR := Lib.hid (hc i d hdi)
      have HID := Lib.hid (dig_size (L := d.map bv) (by simp [hd32]))
      have HDD := Lib.hid (DF.of hd32)
      have hcl := HCLR.out i d hdi
      have bj : (0 : Int) ≤ (i : Int) ∧ (i : Int) < (n : Int) := by omega
      have HXD := Lib.hid (Box.new wr dz 26)
      have hbf := below_fill wr dz (d.map bv).toArray 26
      have HF5 := Lib.hid (F.up hbf)
      have HXF := Lib.hid (box_fill wr dz (d.map bv).toArray 26)
      have HB5 := Lib.hid (HB.out.trans (hbf.mono HB.out.size))
      have HPL := Lib.hid (pth_length n ds i (by rw [HLEN.out]; exact Nat.le_refl _))
      have HP32 := Lib.hid (pth_len32 n ds i (by rw [HLEN.out]; exact Nat.le_refl _))
      have hm5 := pl_le5 n (by omega) i hin
      rw [HLEN.out] at HPL
      change Hid (DF (d.map bv).toArray) at HDD
      clear F hc hbf HB
      go_wp2_with (first
        | (refine wpList_load_mid rfl 26 (.tmp 24) rfl b (off + i * 32) rfl (d.map bv) _ HR.out Tryd.underlying26 rfl HID.out ?_)
        | (refine wpList_store_row rfl 26 (.tmp 6) (.tmp 25) rfl wr.heap.size (d.map bv).toArray rfl rfl 26 dz HXD.out HDD.out.info HDD.out.size HDD.out.one ?_))
      generalize hW : World.setRow (World.alloc wr _) _ (d.map bv).toArray = W5
      have HG5 : Hid (CF w (some ⟨b, off, none⟩) ds g4 CT W5) := Lib.hid (by rw [← hW]; exact HF5.out)
      have HXG : Hid (Box W5 wr.heap.size (d.map bv).toArray 26) := Lib.hid (by rw [← hW]; exact HXF.out)
      have HBG : Hid (Below V.heap.size V W5) := Lib.hid (by rw [← hW]; exact HB5.out)
      clear HF5 HXF HB5
      have HPA := Lib.hid (path_any ds (some ⟨b, off, none⟩) c1 i n W5 HLEN.out hin HG5.out.K HG5.out.D HC.out.1 HC.out.2 (by omega))
      have HPM := Lib.hid (pl_lt i n (by omega))
      generalize wr.heap.size = g6 at *
      clear hW HXD HR hbl
      generalize hps : pth ds i = ps at *
      clear hps
      generalize hm : pl i n = m at *
      have HM := Lib.hid hm
      clear hm hdi
      refine HPA.out.mono ?_
      rintro e w6 ⟨A2, c2, rfl, ho6, hb6⟩
      obtain ⟨hP, hp1, hp2⟩ := Ds.of_own ho6 HPL.out HP32.out
      have HF6 := Lib.hid (HG5.out.up hb6)
      have HXF6 := Lib.hid (HXG.out.below hb6)
      have HB6 := Lib.hid (HBG.out.trans (hb6.mono HBG.out.size))
      have hnil : A2 = none → c2 = 0 := by
        intro h
        subst h
        rcases ho6.2 with ⟨hv, _⟩ | ⟨_, _, _, hv, _⟩
        · injection hv
        · cases hv
      have HCL := Lib.hid (climb_ok ps.reverse d i n m (A2) c2 w6 (by rw [List.length_reverse]; exact HPL.out) HM.out.symm hin (by omega) HF6.out.K hd32 (by rw [List.reverse_reverse]; exact hP) hp1 (by have := HPM.out; omega))
      rw [hcl, HCT.out] at HCL
      have HP := Lib.hid (And.intro hP hnil)
      clear ho6 hb6 hP hnil hp1 hp2 HPA HG5 HXG HBG hcl
      have HNE := Lib.hid (fun A' c' W => climb_no_e i n hin (by omega) A' (m + 1) c' (by rw [HM.out]; omega) d hd32 W)
      change Hid (Calls _ _ #[.agg (d.map bv).toArray, _, _, _] _ _) at HCL
      change Hid (∀ A' c' W, Calls _ _ #[.agg (d.map bv).toArray, _, _, _] _ _) at HNE
      have HL32 := Lib.hid (show (d.map bv).length = 32 by simp [hd32])
      have HONE := Lib.hid (bv_one d)
      clear hd32
      generalize d.map bv = LD at *
      go_wp2_with (first
        | (refine wpList_load_row rfl 26 (.tmp 6) rfl g6 rfl 26 LD.toArray (0, 0) _ HXF6.out Tryd.underlying26 rfl HDD.out.info ?_))
      refine HCL.out.mono ?_
      rintro e w7 ⟨rfl, hb7⟩
      have HX7 := Lib.hid (Box.new w7 dz 26)
      have hbf := below_fill w7 dz CT 26
      have hb8 := hb7.trans (hbf.mono hb7.size)
      have HF8 := Lib.hid (HF6.out.up hb8)
      have HXD8 := Lib.hid (HXF6.out.below hb8)
      have HXT8 := Lib.hid (box_fill w7 dz CT 26)
      have HB8 := Lib.hid (HB6.out.trans (hb8.mono HB6.out.size))
      have HP8 := Lib.hid (HP.out.1.up hb8)
      clear hbf hb8 hb7 HF6 HXF6 HB6 HCL
      go_wp2_with (first
        | (refine wpList_store_row rfl 26 (.tmp 9) (.tmp 39) rfl w7.heap.size CT rfl rfl 26 dz HX7.out HDT.out.info HDT.out.size HDT.out.one ?_))
      generalize hW : World.setRow (World.alloc w7 _) _ CT = W8
      have HG8 : Hid (CF w (some ⟨b, off, none⟩) ds g4 CT W8) := Lib.hid (by rw [← hW]; exact HF8.out)
      have HXG8 : Hid (Box W8 g6 LD.toArray 26) := Lib.hid (by rw [← hW]; exact HXD8.out)
      have HXU8 : Hid (Box W8 w7.heap.size CT 26) := Lib.hid (by rw [← hW]; exact HXT8.out)
      have HBG8 : Hid (Below V.heap.size V W8) := Lib.hid (by rw [← hW]; exact HB8.out)
      have HPG8 : Hid (Ds W8.heap.size W8 A2 ps) := Lib.hid (by rw [← hW]; exact HP8.out)
      have HNIL := Lib.hid HP.out.2
      clear hW HF8 HXD8 HXT8 HB8 HP8 HX7 HP
      generalize w7.heap.size = g9 at *
      have H := Lib.hid (ST.start W8 LD W8 (Below.refl W8.heap.size W8))
      have HRG := Lib.hid (HXG8.out.range)
      have HDZ : Hid (DF dz) := Lib.hid (by rw [show dz = dcells (List.replicate 32 0) from rfl]; exact DF.of rfl)
      refine region_gen 16 [some 42, some 43, some 44, some 45, some 46, some 47, some 48, some 49, some 50, some 51, some 52, some 41, some 53, some 54, some 11, none] (fun W => Below W8.heap.size W8 W) (phiC W8 LD ps b off n c1 i A2 m c2) psiC eatsC (by kernel_rfl) ?_ ?_ ?_ ?_ ?_
      · kernel_rfl
      · kernel_rfl
      · exact (Below.refl W8.heap.size W8).drew
      · simp only [List.take_succ_cons, List.take_zero, StepsG, Nat.reduceAdd, Nat.zero_add]
        refine ⟨?_, ?_, ?_, ?_, ?_, ?_, ?_, ?_, ?_, ?_, ?_, ?_, ?_, ?_, ?_, ?_, trivial⟩
        · constructor
          intro vs W hC hd
          refine ⟨wants rfl, fun K hK => ?_⟩
          generalize hF : putO _ _ 0 vs = F
          refine wp_ldrow (.tmp 6) rfl g6 (by rw [← hF]; kernel_rfl) (HXG8.out.below hC) HDD.out ?_
          rw [← hF]
          refine hK _ _ (LeftG.below (.agg LD.toArray) ?_ (Below.refl _ _) hC rfl phiC_lasts (psiC_no (by unfold specC; omega)))
          kernel_rfl
        · constructor
          intro vs W hC hd
          refine ⟨wants rfl, fun K hK => ?_⟩
          go_simp
          refine hK _ _ (LeftG.below (.int .i64 i) ?_ (Below.refl _ _) hC rfl phiC_lasts (psiC_no (by unfold specC; omega)))
          kernel_rfl
        · constructor
          intro vs W hC hd
          refine ⟨wants rfl, fun K hK => ?_⟩
          go_simp
          refine hK _ _ (LeftG.below (.slice (some ⟨b, off, none⟩) n c1) ?_ (Below.refl _ _) hC rfl phiC_lasts (psiC_no (by unfold specC; omega)))
          kernel_rfl
        · constructor
          intro vs W hC hd
          refine ⟨wants rfl, fun K hK => ?_⟩
          rw [vs_is (hd 2 (by kernel_rfl))]
          go_simp
          refine hK _ _ (LeftG.below (.int .i64 n) ?_ (Below.refl _ _) hC rfl phiC_lasts (psiC_no (by unfold specC; omega)))
          rw [vs_is (hd 2 (by kernel_rfl))]
          kernel_rfl
        · constructor
          intro vs W hC hd
          have hb := (Below.refl W.heap.size W).alloc (Nat.le_refl _) (.cells #[] 26)
          refine ⟨wants rfl, fun K hK => ?_⟩
          generalize hF : putO _ _ 0 vs = F
          refine wp_b0 rfl ?_
          rw [← hF]
          refine hK _ _ (LeftG.below (.slice (some ⟨W.heap.size, 0, none⟩) 0 0) ?_ hb (hC.trans (hb.mono hC.size)) ⟨W.heap.size, rfl, World.ownsRow_lit W #[] 0 hC.size (by unfold maxLen; omega) rfl⟩ phiC_lasts (psiC_new (fun g h => by injection h with h; exact h.symm)))
          kernel_rfl
        · constructor
          intro vs W hC hd
          refine ⟨wants rfl, fun K hK => ?_⟩
          go_simp
          refine hK _ _ (LeftG.below (.slice A2 m c2) ?_ (Below.refl _ _) hC rfl phiC_lasts (psiC_no (by unfold specC; omega)))
          kernel_rfl
        · constructor
          intro vs W hC hd
          obtain ⟨g, e4, ho4⟩ := hd 4 (by kernel_rfl)
          have e5 : vs 5 = .slice A2 m c2 := hd 5 (by kernel_rfl)
          have hq4 : ∀ q, (vs 4).ownBlock = some q → blk (vs 4) = some q := fun q h => by rw [e4, blk_own, ← e4]; exact h
          refine ⟨wants rfl, fun K hK => ?_⟩
          generalize hF : putO _ _ 0 vs = F
          refine wp_apd W8.heap.size (v := vs 4) (.tmp 46) (.tmp 47) rfl (by rw [← hF]; kernel_rfl) ho4 hC.size A2 ps m c2 HPL.out ((show _ = vs 5 by rw [← hF]; kernel_rfl).trans e5) (HPG8.out.up hC) HNIL.out m (by omega) (by omega) ?_
          intro A' c' w' ho' hg' hown'
          rw [← hF]
          refine hK _ _ ⟨.slice A' m c', by kernel_rfl, hC.grown hg' hC.size (fun q hq => (ho4.lt q hq).1), ⟨A', c', rfl, ho'⟩, ?_, ?_⟩
          · intro k u hk he hu hps
            have hk4 : k ≠ 4 := fun e => by subst e; exact absurd he (by decide)
            exact phiC_kept hu hg' hk4 hk (fun hs q hq => hps 4 (by kernel_rfl) (fun e => hk4 e.symm) (.inl rfl) hs q (hq4 q hq))
          · intro k u hk he hu hps
            have hk4 : k ≠ 4 := fun e => by subst e; exact absurd he (by decide)
            have key : specC k → ∀ q, blk (.slice A' m c') = some q → blk u ≠ some q := fun hs q hq => by
              rw [blk_own] at hq
              rcases hown' with h | h
              · rw [h] at hq
                exact hps 4 (by kernel_rfl) (fun e => hk4 e.symm) (.inl rfl) hs q (hq4 q hq)
              · rw [h] at hq
                injection hq with hq
                intro he2
                have := phiC_lt hs hu q he2
                omega
            exact ⟨fun _ hs q hq => key hs q hq, fun hs _ q hq he2 => key hs q he2 hq⟩
        · constructor
          intro vs W hC hd
          refine ⟨wants rfl, fun K hK => ?_⟩
          generalize hF : putO _ _ 0 vs = F
          refine wp_ldrow (.tmp 6) rfl g6 (by rw [← hF]; kernel_rfl) (HXG8.out.below hC) HDD.out ?_
          rw [← hF]
          refine hK _ _ (LeftG.below (.agg LD.toArray) ?_ (Below.refl _ _) hC rfl phiC_lasts (psiC_no (by unfold specC; omega)))
          kernel_rfl
        · constructor
          intro vs W hC hd
          have e7 : vs 7 = .agg LD.toArray := hd 7 (by kernel_rfl)
          have hb := (Below.refl W.heap.size W).alloc (Nat.le_refl _) (.cells LD.toArray 26)
          refine ⟨wants rfl, fun K hK => ?_⟩
          generalize hF : putO _ _ 0 vs = F
          refine wp_b1 (.tmp 49) rfl ((show _ = vs 7 by rw [← hF]; kernel_rfl).trans e7) HL32.out ?_
          rw [← hF]
          refine hK _ _ (LeftG.below (.slice (some ⟨W.heap.size, 0, none⟩) 1 1) ?_ hb (hC.trans (hb.mono hC.size)) ⟨W.heap.size, rfl, Box.new W _ _⟩ phiC_lasts (psiC_new (fun g h => by injection h with h; exact h.symm)))
          kernel_rfl
        · constructor
          intro vs W hC hd
          obtain ⟨A6, c6, e6, ho6⟩ := hd 6 (by kernel_rfl)
          obtain ⟨g8, e8, hx8⟩ := hd 8 (by kernel_rfl)
          have hq6 : ∀ q, (vs 6).ownBlock = some q → blk (vs 6) = some q := fun q h => by rw [e6, blk_own, ← e6]; exact h
          refine ⟨wants rfl, fun K hK => ?_⟩
          generalize hF : putO _ _ 0 vs = F
          refine wp_ap1 W8.heap.size (v := vs 6) (.tmp 48) (.tmp 50) rfl (by rw [← hF]; kernel_rfl) ho6 hC.size ((show _ = vs 8 by rw [← hF]; kernel_rfl).trans e8) hx8 HL32.out HONE.out (m + 1) rfl (by omega) ?_
          intro A' c' w' ho' hg' hown'
          rw [← hF]
          refine hK _ _ ⟨.slice A' (m + 1) c', by kernel_rfl, hC.grown hg' hC.size (fun q hq => (ho6.lt q hq).1), ⟨A', c', rfl⟩, ?_, fun k u hk he hu hps => ⟨fun hs => absurd hs (by unfold specC; omega), fun _ hs => absurd hs (by unfold specC; omega)⟩⟩
          intro k u hk he hu hps
          have hk4 : k ≠ 4 := fun e => by subst e; exact absurd he (by decide)
          have hk6 : k ≠ 6 := fun e => by subst e; exact absurd he (by decide)
          exact phiC_kept hu hg' hk4 hk6 (fun hs q hq => hps 6 (by kernel_rfl) (fun e => hk6 e.symm) (.inr (.inl rfl)) hs q (hq6 q hq))
        · constructor
          intro vs W hC hd
          obtain ⟨A9, c9, e9⟩ := hd 9 (by kernel_rfl)
          have e0 : vs 0 = .agg LD.toArray := hd 0 (by kernel_rfl)
          have e1 : vs 1 = .int .i64 i := hd 1 (by kernel_rfl)
          have e3 : vs 3 = .int .i64 n := hd 3 (by kernel_rfl)
          refine ⟨wants rfl, fun K hK => ?_⟩
          rw [vs_is e9, vs_is e0, vs_is e1, vs_is e3]
          go_simp
          refine (HNE.out A9 c9 W).mono ?_
          rintro e w' ⟨rfl, hb⟩
          refine hK _ _ (LeftG.below (.tuple #[.agg dz, .int .i64 1]) ?_ hb (hC.trans (hb.mono hC.size)) rfl phiC_lasts (psiC_no (by unfold specC; omega)))
          rw [vs_is e9, vs_is e0, vs_is e1, vs_is e3]
          kernel_rfl
        · constructor
          intro vs W hC hd
          refine ⟨wants rfl, fun K hK => ?_⟩
          rw [vs_is (hd 10 (by kernel_rfl))]
          go_simp
          refine hK _ _ (LeftG.below (.tuple #[.agg dz, .int .i64 1]) ?_ (Below.refl _ _) hC rfl phiC_lasts (psiC_no (by unfold specC; omega)))
          rw [vs_is (hd 10 (by kernel_rfl))]
          kernel_rfl
        · constructor
          intro vs W hC hd
          refine ⟨wants rfl, fun K hK => ?_⟩
          rw [vs_is (hd 11 (by kernel_rfl))]
          go_simp
          refine hK _ _ (LeftG.below (.agg dz) ?_ (Below.refl _ _) hC rfl phiC_lasts (psiC_no (by unfold specC; omega)))
          rw [vs_is (hd 11 (by kernel_rfl))]
          kernel_rfl
        · constructor
          intro vs W hC hd
          refine ⟨wants rfl, fun K hK => ?_⟩
          rw [vs_is (hd 11 (by kernel_rfl))]
          go_simp
          refine hK _ _ (LeftG.below (.int .i64 1) ?_ (Below.refl _ _) hC rfl phiC_lasts (psiC_no (by unfold specC; omega)))
          rw [vs_is (hd 11 (by kernel_rfl))]
          kernel_rfl
        · constructor
          intro vs W hC hd
          have hb := (Below.refl W.heap.size W).alloc (Nat.le_refl _) (.cells dz 26)
          refine ⟨wants rfl, fun K hK => ?_⟩
          generalize hF : putO _ _ 0 vs = F
          refine wp_al rfl ?_
          rw [← hF]
          refine hK _ _ (LeftG.below (.pointer (some ⟨W.heap.size, 0, none⟩)) ?_ hb (hC.trans (hb.mono hC.size)) ⟨W.heap.size, rfl, hC.size, Box.new W _ _⟩ phiC_lasts (psiC_new (fun g h => by injection h with h; exact h.symm)))
          kernel_rfl
        · constructor
          intro vs W hC hd
          have e12 : vs 12 = .agg dz := hd 12 (by kernel_rfl)
          obtain ⟨g14, e14, hg14, hx14⟩ := hd 14 (by kernel_rfl)
          have hgr := setRow_grown W g14 dz
          refine ⟨wants rfl, fun K hK => ?_⟩
          generalize hF : putO _ _ 0 vs = F
          refine wp_store_row 26 (.tmp 11) (.tmp 53) rfl g14 dz ((show _ = vs 14 by rw [← hF]; kernel_rfl).trans e14) ((show _ = vs 12 by rw [← hF]; kernel_rfl).trans e12) 26 dz hx14 HDZ.out.info rfl HDZ.out.one ?_
          rw [← hF]
          refine hK _ _ ⟨undef, by kernel_rfl, hC.trans (below_grown hgr hg14 hC.size), trivial, ?_, fun k u hk _ hu _ => psiC_no (j := 15) (by unfold specC; omega) k u hk hu⟩
          intro k u hk he hu hps
          by_cases h14 : k = 14
          · subst h14
            obtain ⟨g', e', hg', hx'⟩ := hu
            refine ⟨g', e', hg', ?_⟩
            by_cases hgg : g' = g14
            · subst hgg; exact Box.setRow hx'
            · exact hx'.grown hgr (fun e => hgg (by injection e))
          · have hk4 : k ≠ 4 := fun e => by subst e; exact absurd he (by decide)
            have hk6 : k ≠ 6 := fun e => by subst e; exact absurd he (by decide)
            have hk8 : k ≠ 8 := fun e => by subst e; exact absurd he (by decide)
            exact phiC_kept (v := .slice (some ⟨g14, 0, none⟩) 0 0) hu hgr hk4 hk6 (fun hs => absurd hs (by unfold specC; omega))
      · intro vs W hC hv hp
        have e13 : vs 13 = .int .i64 1 := hv 13 (by omega) (by decide)
        clear hv hp
        have HW := Lib.hid hC
        clear hC
        simp only [List.drop_succ_cons, List.drop_zero, putO, e13, Nat.reduceAdd, Nat.zero_add]
        clear e13
        simp only [Act.put, List.setIfInBounds_toArray, List.set_cons_succ, List.set_cons_zero]
        have F9 := HG8.out.up HW.out
        have hx4 := F9.T
        have hx9 := HXU8.out.below HW.out
        have HB9 := Lib.hid (HBG8.out.trans (HW.out.mono HBG8.out.size))
        have HX4 := Lib.hid hx4
        have HX9 := Lib.hid hx9
        have d5 : decide (5 < m) = false := decide_eq_false (by omega)
        clear F9 hx4 hx9 HG8 HXU8 HW HBG8
        go_wp2_with (first
          | (refine wpList_load_row_g (by rfl) (.tmp 9) rfl g9 rfl CT HX9.out HDT.out.info ?_)
          | (refine wpList_load_row_g (by rfl) (.tmp 4) rfl g4 rfl CT HX4.out HDT.out.info ?_))
        go_roundw
        case rel => exact ⟨i + 1, by omega, by go_num, HB9.out⟩
        case measure => simp [intOf]; omega
    · obtain rfl : i = n := by omega
      have hb := (HF4.out.up HB.out).B
      go_wp2_with fail
      go_ret
      exact ⟨rfl, hb⟩
end Go.Proofs.YtnmlfdmlcpgaaaaDoor
