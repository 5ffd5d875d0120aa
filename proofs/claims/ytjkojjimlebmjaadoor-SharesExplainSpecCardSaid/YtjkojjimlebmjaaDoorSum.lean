/- sum; one refreshed share. -/
import Derived.Test.YtjkojjimlebmjaaDoorSp2
import Derived.Deep.QuietTactic
import Derived.BigQuiet
import Derived.Test.YtjkojjimlebmjaaDoorRel
namespace Go.Proofs.YtjkojjimlebmjaaDoor
open Go.RowKit
set_option linter.unusedVariables false

/-- Sums byte by byte. -/
def sumb (a b : List UInt8) : List UInt8 := (List.range a.length).map fun k => a.getD k 0 ^^^ b.getD k 0
theorem sumb_length (a b : List UInt8) : (sumb a b).length = a.length := by simp [sumb]

set_option maxHeartbeats 1000000 in
set_option maxRecDepth 100000 in
theorem sum1_any (k Ba Bb : Nat) (A1 A2 : Option Addr) (c1 c2 : Nat) (a b : List UInt8) (W : World) (ha : W.cell? ⟨Ba, 0, none⟩ = some (.slice A1 a.length c1)) (hb : W.cell? ⟨Bb, 0, none⟩ = some (.slice A2 b.length c2)) (hS1 : Sl W A1 a c1) (hS2 : Sl W A2 b c2) (h1 : k < a.length) (h2 : k < b.length) :
    Calls Tryd.prog 56 #[.int .i64 (k : Int), .pointer (some ⟨Ba, 0, none⟩), .pointer (some ⟨Bb, 0, none⟩)] W fun e w' => e = .returned (bv (a.getD k 0 ^^^ b.getD k 0)) ∧ Below W.heap.size W w' := by
  obtain ⟨b1, off1, rfl, _, hc1⟩ := hS1.1 (by omega)
  obtain ⟨b2, off2, rfl, _, hc2⟩ := hS2.1 (by omega)
  have hx := hc1 k _ (getD_cell h1)
  have hy := hc2 k _ (getD_cell h2)
  clear hc1 hc2 hS1 hS2
  generalize a.getD k 0 = x at *
  generalize b.getD k 0 = y at *
  generalize a.length = n at *
  generalize b.length = m at *
  have hxor := xor_u8' x y
  unfold bv at *
  rw [← hxor]
  have i1 : (0 : Int) ≤ (k : Int) := by omega
  have i2 : (k : Int) < (n : Int) := by omega
  have i3 : (k : Int) < (m : Int) := by omega
  clear hxor
  go_enter Tryd.func56, Tryd.ntmps56
  go_wp2_with fail
  go_quiet (fail)
  go_wp2_with fail
  go_ret
  exact ⟨rfl, below_drewN _ _⟩

theorem sum_any (A1 A2 : Option Addr) (c1 c2 : Nat) (a b : List UInt8) (W : World) (hS1 : Sl W A1 a c1) (hS2 : Sl W A2 b c2) (h : b.length = a.length) (hn : a.length ≤ 1000000) :
    Calls Tryd.prog 25 #[.slice A1 a.length c1, .slice A2 b.length c2] W (Row8 (sumb a b) W) := by
  have hb0 : Below W.heap.size W ((W.alloc (.cells #[.slice A1 a.length c1] 23)).alloc (.cells #[.slice A2 b.length c2] 23)) := ((Below.refl _ W).alloc (Nat.le_refl _) _).alloc (by simp) _
  have b1 := (Box.new W #[.slice A1 a.length c1] 23).alloc (.cells #[.slice A2 b.length c2] 23)
  have b2 := Box.new (W.alloc (.cells #[.slice A1 a.length c1] 23)) #[.slice A2 b.length c2] 23
  rw [World.size_alloc] at b2
  have hC : ∀ W1, W1 = ((W.alloc (.cells #[.slice A1 a.length c1] 23)).alloc (.cells #[.slice A2 b.length c2] 23)) →
      Calls Tryd.prog 35 #[.int .i64 (a.length : Int), .func (.func 56) #[] #[.pointer (some ⟨W.heap.size, 0, none⟩), .pointer (some ⟨W.heap.size + 1, 0, none⟩)]] W1 (Row8 (sumb a b) W1) := by
    rintro W1 rfl
    refine coll8 a.length hn _ _ _ _ (enters_of Tryd.func56 (by kernel_rfl) rfl) ?_
    intro j W2 hj hlt hb2
    have hbB := hb0.trans (hb2.mono hb0.size)
    exact sum1_any j _ _ A1 A2 c1 c2 a b W2 ((b1.below hb2).cell 0) ((b2.below hb2).cell 0) (hS1.up hbB) (hS2.up hbB) hj (by omega)
  have HC := Lib.hid (And.intro hC hb0)
  have HL := Lib.hid (sumb_length a b)
  clear hC hb0 b1 b2 hS1 hS2 h
  generalize sumb a b = L at *
  generalize a.length = n at *
  generalize b.length = m at *
  go_enter Tryd.func25, Tryd.ntmps25
  go_wp2_with fail
  refine (HC.out.1 _ rfl).mono ?_
  rintro e w3 ⟨g, c3, hg, rfl, hO, hb3⟩
  go_wp2_with fail
  go_ret
  simp only [World.size_alloc] at hg hO
  exact ⟨g, c3, by omega, by rw [HL.out]; rfl, own_base hO (by omega), HC.out.2.trans (hb3.mono HC.out.2.size)⟩

/-- The refreshed share. -/
def rsh (z s : Shr) : Shr := ⟨z.ep, z.ix, z.th, z.mn, sumb z.data s.data⟩

/-- What each operation of the region leaves. -/
def valR (g5 b2 off2 ln c2 i n cz cl : Nat) (Az Al : Option Addr) : Nat → Value
  | 0 => .pointer (some ⟨g5, 4, none⟩)
  | 1 => .slice Az n cz
  | 2 => .slice (some ⟨b2, off2, none⟩) ln c2
  | 3 => .int .i64 (i : Int)
  | 4 => .pointer (some ⟨b2, off2 + i * 5, none⟩)
  | 5 => .pointer (some ⟨b2, off2 + i * 5 + 4, none⟩)
  | 6 => .slice Al n cl
  | 8 => .pointer (some ⟨g5, 4, none⟩)
  | _ => undef
def phR (h n : Nat) (L : List UInt8) (val : Nat → Value) : Nat → Value → World → Prop
  | 7, v, w => ∃ g c, v = .slice (some ⟨g, 0, none⟩) n c ∧ Sl w (some ⟨g, 0, none⟩) L c ∧ h ≤ g
  | i, v, _ => v = val i
theorem phR_lasts (h n : Nat) (L : List UInt8) (val : Nat → Value) : ∀ i v w w', phR h n L val i v w → Below w.heap.size w w' → phR h n L val i v w' := by
  intro i v w w' hp hb
  by_cases e : i = 7
  · subst e
    obtain ⟨g, c, h1, h2, h3⟩ := hp
    exact ⟨g, c, h1, h2.up hb, h3⟩
  · unfold phR at hp ⊢
    split at hp
    · exact absurd rfl e
    · exact hp
def psR (_ _ : Nat) (_ _ : Value) : Prop := True

attribute [local go_sem] putAll upd

set_option maxHeartbeats 1000000 in
set_option maxRecDepth 100000 in
theorem rf1_any (i Bz Bl : Nat) (A1 A2 : Option Addr) (c1 c2 : Nat) (zs l : List Shr) (z s : Shr) (W : World) (hz : W.cell? ⟨Bz, 0, none⟩ = some (.slice A1 zs.length c1)) (hl : W.cell? ⟨Bl, 0, none⟩ = some (.slice A2 l.length c2)) (hS1 : SS W A1 zs c1) (hS2 : SS W A2 l c2)
    (h1 : zs[i]? = some z) (h2 : l[i]? = some s) (hd : s.data.length = z.data.length) (hn : z.data.length ≤ 1000000) :
    Calls Tryd.prog 24 #[.int .i64 (i : Int), .pointer (some ⟨Bz, 0, none⟩), .pointer (some ⟨Bl, 0, none⟩)] W
      fun e w' => ∃ A c, e = .returned (shv (rsh z s) A c) ∧ Sl w' A (rsh z s).data c ∧ (∀ b off, A = some ⟨b, off, none⟩ → W.heap.size ≤ b) ∧ Below W.heap.size W w' := by
  have hi1 : i < zs.length := (List.getElem?_eq_some_iff.1 h1).1
  have hi2 : i < l.length := (List.getElem?_eq_some_iff.1 h2).1
  obtain ⟨b, off, rfl, hb, hat⟩ := hS1.1 (by omega)
  obtain ⟨b2, off2, rfl, hb2, hat2⟩ := hS2.1 (by omega)
  obtain ⟨Az, cz, z0, z1, z2, z3, z4, hsz⟩ := hat i z h1
  obtain ⟨Al, cl, l0, l1, l2, l3, l4, hsl⟩ := hat2 i s h2
  clear l0 l1 l2 l3 hS1 hS2 hat hat2 h1 h2
  have HSUM := Lib.hid (fun w' (hb' : Below W.heap.size W w') => sum_any Az Al cz cl z.data s.data w' (hsz.up hb') (hsl.up hb') hd hn)
  have HL := Lib.hid (sumb_length z.data s.data)
  have HSL := Lib.hid (fun w' (h : Below W.heap.size W w') => And.intro ((h.cell (p := ⟨Bl, 0, none⟩) (World.block_lt_of_cell? W _ hl)).trans hl) ((h.cell (p := ⟨b2, off2 + i * 5 + 4, none⟩) hb2).trans l4))
  unfold rsh shv
  rw [hd] at HSUM HSL l4
  simp only
  clear hsz hsl hd
  generalize sumb z.data s.data = L at *
  generalize z.data.length = n at *
  generalize l.length = ln at *
  generalize zs.length = zn at *
  obtain ⟨e0, x0, t0, m0, d0⟩ := z
  simp only at *
  have i1 : (0 : Int) ≤ (i : Int) := by omega
  have i2 : (i : Int) < (zn : Int) := by omega
  have i3 : (i : Int) < (ln : Int) := by omega
  have hbr := (Box.new W #[.int .i64 0, .int .i64 0, .int .i64 0, .int .i64 0, .slice none 0 0] 36).alloc (.cells #[.int .i64 e0, .int .i64 x0, .int .i64 t0, .int .i64 m0, .slice Az n cz] 36)
  have hbs := Box.new (W.alloc (.cells #[.int .i64 0, .int .i64 0, .int .i64 0, .int .i64 0, .slice none 0 0] 36)) #[.int .i64 e0, .int .i64 x0, .int .i64 t0, .int .i64 m0, .slice Az n cz] 36
  have hb0 : Below W.heap.size W ((W.alloc (.cells #[.int .i64 0, .int .i64 0, .int .i64 0, .int .i64 0, .slice none 0 0] 36)).alloc (.cells #[.int .i64 e0, .int .i64 x0, .int .i64 t0, .int .i64 m0, .slice Az n cz] 36)) := ((Below.refl _ W).alloc (Nat.le_refl _) _).alloc (by simp) _
  rw [World.size_alloc] at hbs
  have hz1 := ((Below.refl W.heap.size W).alloc (Nat.le_refl _) (.cells #[.int .i64 0, .int .i64 0, .int .i64 0, .int .i64 0, .slice none 0 0] 36)).cell (p := ⟨Bz, 0, none⟩) (World.block_lt_of_cell? W _ hz)
  have hcz := fun j v (h : W.cell? ⟨b, j, none⟩ = some v) => (((Below.refl W.heap.size W).alloc (Nat.le_refl _) (.cells #[.int .i64 0, .int .i64 0, .int .i64 0, .int .i64 0, .slice none 0 0] 36)).cell (p := ⟨b, j, none⟩) hb).trans h
  have y0 := hcz _ _ z0
  have y1 := hcz _ _ z1
  have y2 := hcz _ _ z2
  have y3 := hcz _ _ z3
  have y4 := hcz _ _ z4
  have yz := hz1.trans hz
  have HX := Lib.hid (And.intro hbr (And.intro hbs hb0))
  clear hbr hbs hb0 hcz hz1 z0 z1 z2 z3 z4 l4 hl hz
  go_enter Tryd.func24, Tryd.ntmps24
  go_wp2_with fail
  have HS2 := HSL.out _ HX.out.2.2
  clear y0 y1 y2 y3 y4 yz
  generalize (W.alloc (.cells #[.int .i64 0, .int .i64 0, .int .i64 0, .int .i64 0, .slice none 0 0] 36)).alloc (.cells #[.int .i64 e0, .int .i64 x0, .int .i64 t0, .int .i64 m0, .slice Az n cz] 36) = w2 at *
  have q4 : w2.cell? ⟨W.heap.size + 1, 4, none⟩ = some (.slice Az n cz) := HX.out.2.1.cell 4
  have HC5 := Lib.hid (fun V (h : Below w2.heap.size w2 V) => HSL.out V (HX.out.2.2.trans (h.mono HX.out.2.2.size)))
  have HY5 := Lib.hid (fun V (h : Below w2.heap.size w2 V) => And.intro ((HX.out.2.1.below h).cell 4) (HX.out.2.1.below h))
  clear q4 HS2
  refine region_put 9 [10, 11, 12, 13, 14, 15, 16, 17, 18] (fun V => Below w2.heap.size w2 V) (phR w2.heap.size n L (valR (W.heap.size + 1) b2 off2 ln c2 i n cz cl Az Al)) psR (by kernel_rfl) ?_ (fun _ => undef) ?_ ?_ (phR_lasts _ _ _ _) ?_ ?_
  · kernel_rfl
  · kernel_rfl
  · exact (Below.refl w2.heap.size w2).drew
  · simp only [List.take_succ_cons, List.take_zero, Steps, Nat.reduceAdd, Nat.zero_add]
    refine ⟨?_, ?_, ?_, ?_, ?_, ?_, ?_, ?_, ?_, trivial⟩
    · constructor
      intro vs V hC hd
      go_simp
      refine Left.intro (.pointer (some ⟨W.heap.size + 1, 4, none⟩)) ?_ (Below.refl _ _) hC rfl (fun _ _ _ _ => ⟨trivial, trivial⟩)
      kernel_rfl
    · refine step_one 0 (.pointer (some ⟨W.heap.size + 1, 4, none⟩)) ?_ (fun v w h => h) ?_
      · kernel_rfl
      intro vs V hC
      have y4 : V.cell? ⟨W.heap.size + 1, 4, none⟩ = some (.slice Az n cz) := (HY5.out V hC).1
      go_simp
      refine Left.intro (.slice Az n cz) ?_ (Below.refl _ _) hC rfl (fun _ _ _ _ => ⟨trivial, trivial⟩)
      kernel_rfl
    · constructor
      intro vs V hC hd
      have yl := (HC5.out V hC).1
      go_simp
      refine Left.intro (.slice (some ⟨b2, off2, none⟩) ln c2) ?_ (Below.refl _ _) hC rfl (fun _ _ _ _ => ⟨trivial, trivial⟩)
      kernel_rfl
    · constructor
      intro vs V hC hd
      go_simp
      refine Left.intro (.int .i64 (i : Int)) ?_ (Below.refl _ _) hC rfl (fun _ _ _ _ => ⟨trivial, trivial⟩)
      kernel_rfl
    · refine step_two 2 3 (.slice (some ⟨b2, off2, none⟩) ln c2) (.int .i64 (i : Int)) ?_ ?_ (fun v w h => h) (fun v w h => h) ?_
      · kernel_rfl
      · kernel_rfl
      intro vs V hC
      go_simp
      refine Left.intro (.pointer (some ⟨b2, off2 + i * 5, none⟩)) ?_ (Below.refl _ _) hC rfl (fun _ _ _ _ => ⟨trivial, trivial⟩)
      kernel_rfl
    · refine step_one 4 (.pointer (some ⟨b2, off2 + i * 5, none⟩)) ?_ (fun v w h => h) ?_
      · kernel_rfl
      intro vs V hC
      go_simp
      refine Left.intro (.pointer (some ⟨b2, off2 + i * 5 + 4, none⟩)) ?_ (Below.refl _ _) hC rfl (fun _ _ _ _ => ⟨trivial, trivial⟩)
      kernel_rfl
    · refine step_one 5 (.pointer (some ⟨b2, off2 + i * 5 + 4, none⟩)) ?_ (fun v w h => h) ?_
      · kernel_rfl
      intro vs V hC
      have yl := (HC5.out V hC).2
      go_simp
      refine Left.intro (.slice Al n cl) ?_ (Below.refl _ _) hC rfl (fun _ _ _ _ => ⟨trivial, trivial⟩)
      kernel_rfl
    · refine step_two 1 6 (.slice Az n cz) (.slice Al n cl) ?_ ?_ (fun v w h => h) (fun v w h => h) ?_
      · kernel_rfl
      · kernel_rfl
      intro vs V hC
      go_simp
      refine (HSUM.out V (HX.out.2.2.trans (hC.mono HX.out.2.2.size))).mono ?_
      rintro e w' ⟨g, c5, hg5, rfl, hO5, hb5⟩
      rw [HL.out]
      refine Left.intro (.slice (some ⟨g, 0, none⟩) n c5) ?_ hb5 (hC.trans (hb5.mono hC.size)) ⟨g, c5, rfl, hO5.sl, Nat.le_trans hC.size hg5⟩ (fun _ _ _ _ => ⟨trivial, trivial⟩)
      kernel_rfl
    · constructor
      intro vs V hC hd
      go_simp
      refine Left.intro (.pointer (some ⟨W.heap.size + 1, 4, none⟩)) ?_ (Below.refl _ _) hC rfl (fun _ _ _ _ => ⟨trivial, trivial⟩)
      kernel_rfl
  · intro vs V hC hall _
    obtain ⟨g, c5, h7, hs7, hg7⟩ := hall 7 (by omega)
    have h8 : vs 8 = .pointer (some ⟨W.heap.size + 1, 4, none⟩) := hall 8 (by omega)
    have hY := (HY5.out V hC).2
    have y0 : V.cell? ⟨W.heap.size + 1, 0, none⟩ = some (.int .i64 e0) := hY.cell 0
    have y1 : V.cell? ⟨W.heap.size + 1, 1, none⟩ = some (.int .i64 x0) := hY.cell 1
    have y2 : V.cell? ⟨W.heap.size + 1, 2, none⟩ = some (.int .i64 t0) := hY.cell 2
    have y3 : V.cell? ⟨W.heap.size + 1, 3, none⟩ = some (.int .i64 m0) := hY.cell 3
    have y4 : V.cell? ⟨W.heap.size + 1, 4, none⟩ = some (.slice Az n cz) := hY.cell 4
    have f4 := hY.frozen 4
    have hXV := HX.out.1.below hC
    have r0 : V.cell? ⟨W.heap.size, 0, none⟩ = some (.int .i64 0) := hXV.cell 0
    have r1 : V.cell? ⟨W.heap.size, 1, none⟩ = some (.int .i64 0) := hXV.cell 1
    have r2 : V.cell? ⟨W.heap.size, 2, none⟩ = some (.int .i64 0) := hXV.cell 2
    have r3 : V.cell? ⟨W.heap.size, 3, none⟩ = some (.int .i64 0) := hXV.cell 3
    have r4 : V.cell? ⟨W.heap.size, 4, none⟩ = some (.slice none 0 0) := hXV.cell 4
    have g0 := hXV.frozen 0
    have g1 := hXV.frozen 1
    have g2 := hXV.frozen 2
    have g3 := hXV.frozen 3
    have g4 := hXV.frozen 4
    have HV := Lib.hid (And.intro hs7 (And.intro hg7 (And.intro (HX.out.2.2.trans (hC.mono HX.out.2.2.size)) HX.out.2.1.lt)))
    clear hs7 hg7 hY hXV hall HC5 HY5 HX hC
    simp only [List.drop_succ_cons, List.drop_zero, putAll]
    rw [h7, h8]
    go_wp2_with fail
    have hga := set_grown_at V (W.heap.size + 1) 4 (.slice (some ⟨g, 0, none⟩) n c5)
    have hgr := five_grown (V.setCell ⟨W.heap.size + 1, 4, none⟩ (.slice (some ⟨g, 0, none⟩) n c5)) W.heap.size 0 1 2 3 4 (.int .i64 e0) (.int .i64 x0) (.int .i64 t0) (.int .i64 m0) (.slice (some ⟨g, 0, none⟩) n c5)
    have hs1 := HV.out.1.keep hga (fun b off e => by cases e; have := HV.out.2.1; have := HV.out.2.2.2; simp; omega)
    have hbv := HV.out.2.2.1.grown hga HV.out.2.2.1.size (fun j e => by cases e; exact Nat.le_succ _)
    refine bodyPost_ret (v := .agg #[.int .i64 e0, .int .i64 x0, .int .i64 t0, .int .i64 m0, .slice (some ⟨g, 0, none⟩) n c5]) (by simp [results, Tryd.f24, go_sem, r0, r1, r2, r3, r4]) rfl
      ⟨some ⟨g, 0, none⟩, c5, by rw [HL.out], hs1.keep hgr (fun b off e => ?_), fun b off e => ?_, hbv.grown hgr hbv.size (fun j e => by cases e; exact Nat.le_refl _)⟩
    · cases e
      have := HV.out.2.1
      have := HV.out.2.2.2
      simp
      omega
    · cases e
      have := HV.out.2.1
      have := HV.out.2.2.2
      omega
end Go.Proofs.YtjkojjimlebmjaaDoor
