/- sane: the walk. -/
import Derived.Test.YtjkojjimlebmjaaDoorSaneC
import Derived.Deep.RegionHeld3
namespace Go.Proofs.YtjkojjimlebmjaaDoor
open Go.RowKit
set_option linter.unusedVariables false

theorem lit1 (W0 W : World) (hb : Below W0.heap.size W0 W) (x : UInt8) (u : Value) (hu : bv x = u) : Sl (W.alloc (.cells #[u] 5)) (some ⟨W.heap.size, 0, none⟩) [x] 1 ∧ Below W0.heap.size W0 (W.alloc (.cells #[u] 5)) := by
  subst hu
  exact ⟨sl_lit W [x] 1 rfl (by omega) _ rfl, hb.alloc hb.size _⟩

theorem SS.pre {w : World} {A : Option Addr} {l : List Shr} {c : Nat} (h : SS w A l c) (t : Nat) (ht : t ≤ l.length) : SS w A (l.take t) c := by
  have h1 := h.2.1
  refine ⟨fun hp => ?_, by simp; omega, h.2.2.1, fun hA => ?_⟩
  · rw [List.length_take] at hp
    obtain ⟨b, off, e, hb, hs⟩ := h.1 (by omega)
    refine ⟨b, off, e, hb, fun i s hi => hs i s ?_⟩
    rw [List.getElem?_take] at hi
    split at hi
    · exact hi
    · cases hi
  · have := h.2.2.2 hA
    exact ⟨by rw [this.1]; simp, this.2⟩
/-- Two shares written out. -/
theorem two_shares (w : World) (s0 s1 : Shr) (A0 A1 : Option Addr) (c0 c1 : Nat) (h0 : Sl w A0 s0.data c0) (h1 : Sl w A1 s1.data c1) (cs : Array Value) (hc : (shc s0 A0 c0 ++ shc s1 A1 c1).toArray = cs) :
    SS (w.alloc (.cells cs 36)).drew (some ⟨w.heap.size, 0, none⟩) [s0, s1] 2 := by
  subst hc
  have hb : Below w.heap.size w (w.alloc (.cells (shc s0 A0 c0 ++ shc s1 A1 c1).toArray 36)) := (Below.refl _ w).alloc (Nat.le_refl _) _
  have hx := Box.new w (shc s0 A0 c0 ++ shc s1 A1 c1).toArray 36
  refine ⟨fun _ => ⟨w.heap.size, 0, rfl, hx.lt, fun i s hi => ?_⟩, by simp, by unfold maxLen; omega, fun h => by cases h⟩
  match i, hi with
  | 0, hi =>
    simp at hi
    subst hi
    exact ⟨A0, c0, hx.cell 0, hx.cell 1, hx.cell 2, hx.cell 3, hx.cell 4, h0.up hb.drew⟩
  | 1, hi =>
    simp at hi
    subst hi
    exact ⟨A1, c1, hx.cell 5, hx.cell 6, hx.cell 7, hx.cell 8, hx.cell 9, h1.up hb.drew⟩
  | i + 2, hi => simp at hi

/-- What the last region reads. -/
def SanS (bl ofl bm om bx ox cl1 cm0 cm1 cm2 cx1 cx2 cs cc : Nat) (Dl1 Dm0 Dm1 Dm2 Dx1 Dx2 As Ac : Option Addr) (W : World) : Prop :=
  (W.cell? ⟨bl, ofl + 5, none⟩ = some (.int .i64 4) ∧ W.cell? ⟨bl, ofl + 5 + 1, none⟩ = some (.int .i64 2) ∧ W.cell? ⟨bl, ofl + 5 + 4, none⟩ = some (.slice Dl1 1 cl1) ∧ Sl W Dl1 [7] cl1) ∧
  (W.cell? ⟨bm, om, none⟩ = some (.int .i64 0) ∧ W.cell? ⟨bm, om + 1, none⟩ = some (.int .i64 1) ∧ W.cell? ⟨bm, om + 2, none⟩ = some (.int .i64 2) ∧ W.cell? ⟨bm, om + 3, none⟩ = some (.int .i64 3) ∧ W.cell? ⟨bm, om + 4, none⟩ = some (.slice Dm0 1 cm0) ∧ Sl W Dm0 [6] cm0) ∧
  (W.cell? ⟨bm, om + 5 + 4, none⟩ = some (.slice Dm1 1 cm1) ∧ Sl W Dm1 [3] cm1) ∧ (W.cell? ⟨bm, om + 10 + 4, none⟩ = some (.slice Dm2 1 cm2) ∧ Sl W Dm2 [0] cm2) ∧
  (W.cell? ⟨bx, ox + 5, none⟩ = some (.int .i64 1) ∧ W.cell? ⟨bx, ox + 5 + 1, none⟩ = some (.int .i64 2) ∧ W.cell? ⟨bx, ox + 5 + 2, none⟩ = some (.int .i64 2) ∧ W.cell? ⟨bx, ox + 5 + 3, none⟩ = some (.int .i64 3) ∧ W.cell? ⟨bx, ox + 5 + 4, none⟩ = some (.slice Dx1 1 cx1) ∧ Sl W Dx1 [3] cx1) ∧
  (W.cell? ⟨bx, ox + 10, none⟩ = some (.int .i64 1) ∧ W.cell? ⟨bx, ox + 10 + 4, none⟩ = some (.slice Dx2 1 cx2) ∧ Sl W Dx2 [0] cx2) ∧ Sl W As [5] cs ∧ Sl W Ac [15] cc
theorem ss_at {W : World} {b off c : Nat} {l : List Shr} (h : SS W (some ⟨b, off, none⟩) l c) (i : Nat) (s : Shr) (hi : l[i]? = some s) : ShAt W b (off + i * 5) s := by
  obtain ⟨b', off', e, _, hs⟩ := h.1 (by have := (List.getElem?_eq_some_iff.1 hi).1; omega)
  cases e
  exact hs i s hi
theorem sans_of {W : World} {bl ofl bm om bx ox cl cm cx cs cc : Nat} {As Ac : Option Addr} (hL : SS W (some ⟨bl, ofl, none⟩) LA cl) (hM : SS W (some ⟨bm, om, none⟩) LM cm) (hX : SS W (some ⟨bx, ox, none⟩) LX cx) (h5 : Sl W As [5] cs) (h15 : Sl W Ac [15] cc) :
    ∃ cl1 cm0 cm1 cm2 cx1 cx2 Dl1 Dm0 Dm1 Dm2 Dx1 Dx2, ∀ W', Below W.heap.size W W' → SanS bl ofl bm om bx ox cl1 cm0 cm1 cm2 cx1 cx2 cs cc Dl1 Dm0 Dm1 Dm2 Dx1 Dx2 As Ac W' := by
  obtain ⟨Dl1, cl1, a0, a1, a2, a3, a4, a5⟩ := ss_at hL 1 _ rfl
  obtain ⟨Dm0, cm0, b0, b1, b2, b3, b4, b5⟩ := ss_at hM 0 _ rfl
  obtain ⟨Dm1, cm1, d0, d1, d2, d3, d4, d5⟩ := ss_at hM 1 _ rfl
  obtain ⟨Dm2, cm2, e0, e1, e2, e3, e4, e5⟩ := ss_at hM 2 _ rfl
  obtain ⟨Dx1, cx1, f0, f1, f2, f3, f4, f5⟩ := ss_at hX 1 _ rfl
  obtain ⟨Dx2, cx2, g0, g1, g2, g3, g4, g5⟩ := ss_at hX 2 _ rfl
  refine ⟨cl1, cm0, cm1, cm2, cx1, cx2, Dl1, Dm0, Dm1, Dm2, Dx1, Dx2, fun W' hb => ?_⟩
  have k : ∀ p v, W.cell? p = some v → W'.cell? p = some v := fun p v h => (hb.cell (World.block_lt_of_cell? W p h)).trans h
  exact ⟨⟨k _ _ a0, k _ _ a1, k _ _ a4, a5.up hb⟩, ⟨k _ _ b0, k _ _ b1, k _ _ b2, k _ _ b3, k _ _ b4, b5.up hb⟩, ⟨k _ _ d4, d5.up hb⟩, ⟨k _ _ e4, e5.up hb⟩, ⟨k _ _ f0, k _ _ f1, k _ _ f2, k _ _ f3, k _ _ f4, f5.up hb⟩, ⟨k _ _ g0, k _ _ g4, g5.up hb⟩, h5.up hb, h15.up hb⟩

theorem sans_S {bl ofl bm om bx ox cl1 cm0 cm1 cm2 cx1 cx2 cs cc : Nat} {Dl1 Dm0 Dm1 Dm2 Dx1 Dx2 As Ac : Option Addr} {w' : World} (h : SanS bl ofl bm om bx ox cl1 cm0 cm1 cm2 cx1 cx2 cs cc Dl1 Dm0 Dm1 Dm2 Dx1 Dx2 As Ac w') :
    w'.cell? ⟨bl, ofl + 5, none⟩ = some (.int .i64 4) ∧ w'.cell? ⟨bl, ofl + 5 + 1, none⟩ = some (.int .i64 2) ∧ w'.cell? ⟨bl, ofl + 5 + 4, none⟩ = some (.slice Dl1 1 cl1) ∧ w'.cell? ⟨bm, om, none⟩ = some (.int .i64 0) ∧ w'.cell? ⟨bm, om + 1, none⟩ = some (.int .i64 1) ∧ w'.cell? ⟨bm, om + 2, none⟩ = some (.int .i64 2) ∧ w'.cell? ⟨bm, om + 3, none⟩ = some (.int .i64 3) ∧ w'.cell? ⟨bm, om + 4, none⟩ = some (.slice Dm0 1 cm0) ∧ w'.cell? ⟨bm, om + 5 + 4, none⟩ = some (.slice Dm1 1 cm1) ∧ w'.cell? ⟨bm, om + 10 + 4, none⟩ = some (.slice Dm2 1 cm2) ∧ w'.cell? ⟨bx, ox + 5, none⟩ = some (.int .i64 1) ∧ w'.cell? ⟨bx, ox + 5 + 1, none⟩ = some (.int .i64 2) ∧ w'.cell? ⟨bx, ox + 5 + 2, none⟩ = some (.int .i64 2) ∧ w'.cell? ⟨bx, ox + 5 + 3, none⟩ = some (.int .i64 3) ∧ w'.cell? ⟨bx, ox + 5 + 4, none⟩ = some (.slice Dx1 1 cx1) ∧ w'.cell? ⟨bx, ox + 10, none⟩ = some (.int .i64 1) ∧ w'.cell? ⟨bx, ox + 10 + 4, none⟩ = some (.slice Dx2 1 cx2) ∧ (convert 23 9 (.slice Dl1 1 cl1)).run Tryd.prog w' = .ok (.string ⟨#[7]⟩) w' ∧ (convert 23 9 (.slice Dm0 1 cm0)).run Tryd.prog w' = .ok (.string ⟨#[6]⟩) w' ∧ (convert 23 9 (.slice Dm1 1 cm1)).run Tryd.prog w' = .ok (.string ⟨#[3]⟩) w' ∧ (convert 23 9 (.slice Dm2 1 cm2)).run Tryd.prog w' = .ok (.string ⟨#[0]⟩) w' ∧ (convert 23 9 (.slice As 1 cs)).run Tryd.prog w' = .ok (.string ⟨#[5]⟩) w' ∧ (convert 23 9 (.slice Ac 1 cc)).run Tryd.prog w' = .ok (.string ⟨#[15]⟩) w' ∧ (convert 23 9 (.slice Dx2 1 cx2)).run Tryd.prog w' = .ok (.string ⟨#[0]⟩) w' := by
  obtain ⟨⟨a0, a1, a4, a5⟩, ⟨b0, b1, b2, b3, b4, b5⟩, ⟨d4, d5⟩, ⟨e4, e5⟩, ⟨f0, f1, f2, f3, f4, f5⟩, ⟨g0, g4, g5⟩, h5, h15⟩ := h
  exact ⟨a0, a1, a4, b0, b1, b2, b3, b4, d4, e4, f0, f1, f2, f3, f4, g0, g4, sl_str a5 rfl, sl_str b5 rfl, sl_str d5 rfl, sl_str e5 rfl, sl_str h5 rfl, sl_str h15 rfl, sl_str g5 rfl⟩

set_option maxHeartbeats 16000000 in
set_option maxRecDepth 100000 in
theorem sane_any (w : World) (hK : KT w) : Calls Tryd.prog 4 #[] w fun e w' => e = .returned (.bool true) ∧ Below w.heap.size w w' := by
  have HK := Lib.hid (fun W (h : Below w.heap.size w W) => hK.below h)
  clear hK
  go_enter Tryd.func4, Tryd.ntmps4
  go_wp2_with fail
  refine (c_join0 w (HK.out w (Below.refl _ _))).mono ?_
  rintro e w1 ⟨A1, c1, rfl, hb1⟩
  have hz1 := (hb1.alloc hb1.size (.cells #[.int .u8 1, .int .u8 2] 5))
  have hs1 := (sl_lit w1 [1, 2] 2 rfl (by omega) #[.int .u8 1, .int .u8 2] rfl).up ((Below.refl _ _).alloc (Nat.le_refl _) (.cells #[.int .u8 1] 5))
  obtain ⟨hs2, hb2⟩ := lit1 w _ hz1 1 (.int .u8 1) rfl
  rw [World.size_alloc] at hs2
  have H1 := Lib.hid (And.intro hs1 (And.intro hs2 hb2))
  clear hz1 hs1 hs2 hb2 hb1
  go_wp2_with fail
  refine (c_splitA _ _ _ _ _ (HK.out _ H1.out.2.2) H1.out.1 H1.out.2.1).mono ?_
  rintro e w2 ⟨A2, c2, rfl, hb2⟩
  obtain ⟨hs2, hb3⟩ := lit1 w w2 (H1.out.2.2.trans (hb2.mono H1.out.2.2.size)) 7 (.int .u8 7) rfl
  have H2 := Lib.hid (And.intro hs2 hb3)
  clear hs2 hb3 hb2 H1
  go_wp2_with fail
  refine (c_splitB _ _ _ (HK.out _ H2.out.2) H2.out.1).mono ?_
  rintro e w3 ⟨bl, ofl, cl, rfl, hL, hb3⟩
  have hb4 := H2.out.2.trans (hb3.mono H2.out.2.size)
  have hz1 := (hb4.alloc hb4.size (.cells #[.int .u8 5] 5))
  have hs1 := (sl_lit w3 [5] 1 rfl (by omega) #[.int .u8 5] rfl).up ((Below.refl _ _).alloc (Nat.le_refl _) (.cells #[.int .u8 3] 5))
  obtain ⟨hs2, hb5⟩ := lit1 w _ hz1 3 (.int .u8 3) rfl
  rw [World.size_alloc] at hs2
  have H3 := Lib.hid (And.intro hs1 (And.intro hs2 (And.intro hb5 (And.intro hL (((Below.refl _ w3).alloc (Nat.le_refl _) (.cells #[.int .u8 5] 5)).alloc (by simp) (.cells #[.int .u8 3] 5))))))
  clear hz1 hs1 hs2 hb5 hb4 hb3 hL H2
  go_wp2_with fail
  refine (c_splitC _ _ _ _ _ (HK.out _ H3.out.2.2.1) H3.out.1 H3.out.2.1).mono ?_
  rintro e w4 ⟨bm, om, cm, rfl, hM, hb4⟩
  have hb5 := H3.out.2.2.1.trans (hb4.mono H3.out.2.2.1.size)
  have H4 := Lib.hid (And.intro hM (And.intro hb5 (H3.out.2.2.2.1.up (H3.out.2.2.2.2.trans (hb4.mono H3.out.2.2.2.2.size)))))
  have hcm : 3 ≤ cm := hM.2.1
  have hcl : 2 ≤ cl := H3.out.2.2.2.1.2.1
  clear hM hb4 hb5 H3
  have i1 : (1 : Int) ≤ (cm : Int) := by omega
  have i2 : ¬ cm = 1 := by omega
  have i3 : (3 : Int) ≤ (cm : Int) := by omega
  have hd1 := H4.out.1.drop 1 (by decide)
  rw [Nat.one_mul] at hd1
  go_wp2_with fail
  refine (c_joinB _ _ _ (HK.out _ H4.out.2.1) hd1).mono ?_
  rintro e w5 ⟨As, cs, rfl, hS5, hb5⟩
  have hb6 := H4.out.2.1.trans (hb5.mono H4.out.2.1.size)
  obtain ⟨hs6, hb7⟩ := lit1 w w5 hb6 1 (.int .u8 1) rfl
  have hbA := (Below.refl _ w5).alloc (Nat.le_refl _) (.cells #[.int .u8 1] 5)
  have H5 := Lib.hid (And.intro hs6 (And.intro hb7 (And.intro ((H4.out.1.up hb5).up hbA) (And.intro ((H4.out.2.2.up hb5).up hbA) (hS5.up hbA)))))
  clear hd1 hb6 hs6 hb7 hbA hb5 hS5 H4
  go_wp2_with fail
  refine (c_explA _ _ _ _ _ (HK.out _ H5.out.2.1) H5.out.2.2.1 H5.out.1).mono ?_
  rintro e w6 ⟨A6, c6, rfl, hb6⟩
  have hb7 := H5.out.2.1.trans (hb6.mono H5.out.2.1.size)
  obtain ⟨hs8, hb8⟩ := lit1 w w6 hb7 0 (.int .u8 0) rfl
  have hbA := (Below.refl _ w6).alloc (Nat.le_refl _) (.cells #[.int .u8 0] 5)
  have H6 := Lib.hid (And.intro hs8 (And.intro hb8 (And.intro ((H5.out.2.2.1.up hb6).up hbA) (And.intro ((H5.out.2.2.2.1.up hb6).up hbA) ((H5.out.2.2.2.2.up hb6).up hbA)))))
  clear hb7 hs8 hb8 hbA hb6 H5
  go_wp2_with fail
  refine (c_refr _ _ _ _ _ (HK.out _ H6.out.2.1) H6.out.2.2.1 H6.out.1).mono ?_
  rintro e w7 ⟨bx, ox, cx, rfl, hX, hb7⟩
  have hb8 := H6.out.2.1.trans (hb7.mono H6.out.2.1.size)
  obtain ⟨hs9, hb9⟩ := lit1 w w7 hb8 9 (.int .u8 9) rfl
  have hbA := (Below.refl _ w7).alloc (Nat.le_refl _) (.cells #[.int .u8 9] 5)
  have hcx : 3 ≤ cx := hX.2.1
  have H7 := Lib.hid (And.intro hs9 (And.intro hb9 (And.intro ((H6.out.2.2.1.up hb7).up hbA) (And.intro ((H6.out.2.2.2.1.up hb7).up hbA) (And.intro ((H6.out.2.2.2.2.up hb7).up hbA) (hX.up hbA))))))
  clear hb8 hs9 hb9 hbA hb7 hX H6
  have i4 : (1 : Int) ≤ (3 : Int) := by omega
  go_wp2_with fail
  refine (c_explB _ _ _ _ _ (HK.out _ H7.out.2.1) (H7.out.2.2.1.pre 1 (by decide)) H7.out.1).mono ?_
  rintro e w8 ⟨Ac, cc, rfl, hS8, hb8⟩
  have HS := Lib.hid (sans_of (H7.out.2.2.2.1.up hb8) (H7.out.2.2.1.up hb8) (H7.out.2.2.2.2.2.up hb8) (H7.out.2.2.2.2.1.up hb8) hS8)
  have H8 := Lib.hid (H7.out.2.1.trans (hb8.mono H7.out.2.1.size))
  clear hS8 hb8 H7
  obtain ⟨cl1, cm0, cm1, cm2, cx1, cx2, Dl1, Dm0, Dm1, Dm2, Dx1, Dx2, hsk⟩ := HS.out
  have HSK := Lib.hid hsk
  clear hsk HS
  go_wp2_with fail
  have B8 := Lib.hid (Below.refl w8.heap.size w8).drew
  have J8 := Lib.hid (two_shares w8 ⟨0, 1, 2, 3, [6]⟩ ⟨1, 2, 2, 3, [3]⟩ Dm0 Dx1 cm0 cx1 (HSK.out _ (Below.refl _ _)).2.1.2.2.2.2.2 (HSK.out _ (Below.refl _ _)).2.2.2.2.1.2.2.2.2.2 #[.int .i64 0, .int .i64 1, .int .i64 2, .int .i64 3, .slice Dm0 1 cm0, .int .i64 1, .int .i64 2, .int .i64 2, .int .i64 3, .slice Dx1 1 cx1] rfl)
  have B9 := Lib.hid ((Below.refl w8.heap.size w8).alloc (Nat.le_refl _) (.cells #[.int .i64 0, .int .i64 1, .int .i64 2, .int .i64 3, .slice Dm0 1 cm0, .int .i64 1, .int .i64 2, .int .i64 2, .int .i64 3, .slice Dx1 1 cx1] 36)).drew
  have JC := Lib.hid (c_joinC _ _ _ (HK.out _ (H8.out.trans (B9.out.mono H8.out.size))) J8.out)
  go_region_held3 (fun w' => w'.cell? ⟨bl, ofl + 5, none⟩ = some (.int .i64 4) ∧ w'.cell? ⟨bl, ofl + 5 + 1, none⟩ = some (.int .i64 2) ∧ w'.cell? ⟨bl, ofl + 5 + 4, none⟩ = some (.slice Dl1 1 cl1) ∧ w'.cell? ⟨bm, om, none⟩ = some (.int .i64 0) ∧ w'.cell? ⟨bm, om + 1, none⟩ = some (.int .i64 1) ∧ w'.cell? ⟨bm, om + 2, none⟩ = some (.int .i64 2) ∧ w'.cell? ⟨bm, om + 3, none⟩ = some (.int .i64 3) ∧ w'.cell? ⟨bm, om + 4, none⟩ = some (.slice Dm0 1 cm0) ∧ w'.cell? ⟨bm, om + 5 + 4, none⟩ = some (.slice Dm1 1 cm1) ∧ w'.cell? ⟨bm, om + 10 + 4, none⟩ = some (.slice Dm2 1 cm2) ∧ w'.cell? ⟨bx, ox + 5, none⟩ = some (.int .i64 1) ∧ w'.cell? ⟨bx, ox + 5 + 1, none⟩ = some (.int .i64 2) ∧ w'.cell? ⟨bx, ox + 5 + 2, none⟩ = some (.int .i64 2) ∧ w'.cell? ⟨bx, ox + 5 + 3, none⟩ = some (.int .i64 3) ∧ w'.cell? ⟨bx, ox + 5 + 4, none⟩ = some (.slice Dx1 1 cx1) ∧ w'.cell? ⟨bx, ox + 10, none⟩ = some (.int .i64 1) ∧ w'.cell? ⟨bx, ox + 10 + 4, none⟩ = some (.slice Dx2 1 cx2) ∧ (convert 23 9 (.slice Dl1 1 cl1)).run Tryd.prog w' = .ok (.string ⟨#[7]⟩) w' ∧ (convert 23 9 (.slice Dm0 1 cm0)).run Tryd.prog w' = .ok (.string ⟨#[6]⟩) w' ∧ (convert 23 9 (.slice Dm1 1 cm1)).run Tryd.prog w' = .ok (.string ⟨#[3]⟩) w' ∧ (convert 23 9 (.slice Dm2 1 cm2)).run Tryd.prog w' = .ok (.string ⟨#[0]⟩) w' ∧ (convert 23 9 (.slice As 1 cs)).run Tryd.prog w' = .ok (.string ⟨#[5]⟩) w' ∧ (convert 23 9 (.slice Ac 1 cc)).run Tryd.prog w' = .ok (.string ⟨#[15]⟩) w' ∧ (convert 23 9 (.slice Dx2 1 cx2)).run Tryd.prog w' = .ok (.string ⟨#[0]⟩) w')
    (with_reducible first | exact sans_S (HSK.out _ B8.out) | exact sans_S (HSK.out _ B9.out) | exact sans_S (HSK.out _ B10.out))
    (first
      | (go_at_call 11; (with_reducible refine JC.out.mono ?_); rintro e w10 ⟨A10, c10, rfl, hb10⟩; have B10 := Lib.hid (B9.out.trans (hb10.mono B9.out.size)); clear hb10)
      | fail)
  all_goals
    go_wp2_with fail
    go_ret
    exact ⟨rfl, H8.out.trans (B10.out.mono H8.out.size)⟩
end Go.Proofs.YtjkojjimlebmjaaDoor
