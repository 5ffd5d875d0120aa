/- Split$1: one share. -/
import Derived.Test.YtjkojjimlebmjaaDoorSp1
namespace Go.Proofs.YtjkojjimlebmjaaDoor
open Go.RowKit
set_option linter.unusedVariables false

/-- The share number i + 1 of polynomials. -/
def psh (ep th mn : Int) (ps : List (List UInt8)) (i : Nat) : Shr := ⟨ep, ((i + 1 : Nat) : Int), th, mn, (List.range ps.length).map fun k => hv (ps.getD k []) (UInt8.ofNat (i + 1))⟩

theorem five_grown (w : World) (r o0 o1 o2 o3 o4 : Nat) (v0 v1 v2 v3 v4 : Value) : w.grownBy (((((w.setCell ⟨r, o0, none⟩ v0).setCell ⟨r, o1, none⟩ v1).setCell ⟨r, o2, none⟩ v2).setCell ⟨r, o3, none⟩ v3).setCell ⟨r, o4, none⟩ v4) (some r) :=
  grown_trans (grown_trans (grown_trans (grown_trans (set_grown_at w r o0 v0) (set_grown_at _ r o1 v1)) (set_grown_at _ r o2 v2)) (set_grown_at _ r o3 v3)) (set_grown_at _ r o4 v4)

set_option maxHeartbeats 1000000 in
set_option maxRecDepth 100000 in
theorem sp1_any (i Bp Be Bt Bm : Nat) (A : Option Addr) (c : Nat) (ps : List (List UInt8)) (ep th mn : Int) (W : World) (hK : KT W) (hp : W.cell? ⟨Bp, 0, none⟩ = some (.slice A ps.length c)) (he : W.cell? ⟨Be, 0, none⟩ = some (.int .i64 ep))
    (ht : W.cell? ⟨Bt, 0, none⟩ = some (.int .i64 th)) (hm : W.cell? ⟨Bm, 0, none⟩ = some (.int .i64 mn))
    (hx8 : i < 8) (hR : RR W A ps c) (hl : ∀ p ∈ ps, p.length ≤ 1000000) (hps : ps.length ≤ 1000000) :
    Calls Tryd.prog 34 #[.int .i64 (i : Int), .pointer (some ⟨Bp, 0, none⟩), .pointer (some ⟨Be, 0, none⟩), .pointer (some ⟨Bt, 0, none⟩), .pointer (some ⟨Bm, 0, none⟩)] W
      fun e w' => ∃ A c, e = .returned (shv (psh ep th mn ps i) A c) ∧ Sl w' A (psh ep th mn ps i).data c ∧ (∀ b off, A = some ⟨b, off, none⟩ → W.heap.size ≤ b) ∧ Below W.heap.size W w' := by
  have bp := World.block_lt_of_cell? W _ hp
  have be := World.block_lt_of_cell? W _ he
  have bt := World.block_lt_of_cell? W _ ht
  have bm := World.block_lt_of_cell? W _ hm
  have hb0 : Below W.heap.size W ((W.alloc (.cells #[.int .i64 0, .int .i64 0, .int .i64 0, .int .i64 0, .slice none 0 0] 36)).alloc (.cells #[.int .i64 ((i : Int) + 1)] 3)) := ((Below.refl _ W).alloc (Nat.le_refl _) _).alloc (by simp) _
  have hbx := Box.new (W.alloc (.cells #[.int .i64 0, .int .i64 0, .int .i64 0, .int .i64 0, .slice none 0 0] 36)) #[.int .i64 ((i : Int) + 1)] 3
  have hbr := (Box.new W #[.int .i64 0, .int .i64 0, .int .i64 0, .int .i64 0, .slice none 0 0] 36).alloc (.cells #[.int .i64 ((i : Int) + 1)] 3)
  rw [World.size_alloc] at hbx
  have hC : ∀ W1, W1 = ((W.alloc (.cells #[.int .i64 0, .int .i64 0, .int .i64 0, .int .i64 0, .slice none 0 0] 36)).alloc (.cells #[.int .i64 ((i : Int) + 1)] 3)) →
      Calls Tryd.prog 35 #[.int .i64 (ps.length : Int), .func (.func 36) #[] #[.pointer (some ⟨Bp, 0, none⟩), .pointer (some ⟨W.heap.size + 1, 0, none⟩)]] W1
        (Row8 ((List.range ps.length).map fun k => hv (ps.getD k []) (UInt8.ofNat (i + 1))) W1) := by
    rintro W1 rfl
    refine coll8 ps.length hps _ _ _ _ (enters_of Tryd.func36 (by kernel_rfl) rfl) ?_
    intro j W2 hj hlt hb2
    have hbB := hb0.trans (hb2.mono hb0.size)
    have hpj : ps[j]? = some (ps.getD j []) := by
      rw [List.getD_eq_getElem?_getD, List.getElem?_eq_getElem hj]
      rfl
    refine sp11_any j (i + 1) Bp (W.heap.size + 1) A c ps _ W2 (hK.below hbB) ((hbB.cell (p := ⟨Bp, 0, none⟩) bp).trans hp) ((hb2.cell (p := ⟨W.heap.size + 1, 0, none⟩) hbx.lt).trans (hbx.cell 0)) (by omega) (hR.up hbB) hpj (hl _ (List.mem_of_getElem? hpj)) hps
  have HC := Lib.hid hC
  have HX := Lib.hid (And.intro hb0 (And.intro hbr hbx))
  have HL : Hid (((List.range ps.length).map fun k => hv (ps.getD k []) (UInt8.ofNat (i + 1))).length = ps.length) := by simp [Hid]
  have HM := Lib.hid (And.intro he (And.intro ht hm))
  clear hC hb0 hbr hbx hK hR hl he ht hm
  unfold psh
  generalize (List.range ps.length).map (fun k => hv (ps.getD k []) (UInt8.ofNat (i + 1))) = L at *
  generalize ps.length = n at *
  go_enter Tryd.func34, Tryd.ntmps34
  go_wp2_with fail
  refine (HC.out _ rfl).mono ?_
  rintro e w3 ⟨g, c3, hg, rfl, hO, hb3⟩
  have hb4 := HX.out.1.trans (hb3.mono HX.out.1.size)
  have hbr3 := HX.out.2.1.below hb3
  have hbx3 := HX.out.2.2.below hb3
  have r0 : w3.cell? ⟨W.heap.size, 0, none⟩ = some (.int .i64 0) := hbr3.cell 0
  have r1 : w3.cell? ⟨W.heap.size, 1, none⟩ = some (.int .i64 0) := hbr3.cell 1
  have r2 : w3.cell? ⟨W.heap.size, 2, none⟩ = some (.int .i64 0) := hbr3.cell 2
  have r3 : w3.cell? ⟨W.heap.size, 3, none⟩ = some (.int .i64 0) := hbr3.cell 3
  have r4 : w3.cell? ⟨W.heap.size, 4, none⟩ = some (.slice none 0 0) := hbr3.cell 4
  have f0 := hbr3.frozen 0
  have f1 := hbr3.frozen 1
  have f2 := hbr3.frozen 2
  have f3 := hbr3.frozen 3
  have f4 := hbr3.frozen 4
  have hx3 : w3.cell? ⟨W.heap.size + 1, 0, none⟩ = some (.int .i64 ((i : Int) + 1)) := hbx3.cell 0
  have he3 := (hb4.cell (p := ⟨Be, 0, none⟩) be).trans HM.out.1
  have ht3 := (hb4.cell (p := ⟨Bt, 0, none⟩) bt).trans HM.out.2.1
  have hm3 := (hb4.cell (p := ⟨Bm, 0, none⟩) bm).trans HM.out.2.2
  simp only [World.size_alloc] at hg
  rw [HL.out]
  have HF := Lib.hid (And.intro hO hb4)
  clear hO hb4 hb3 hbr3 hbx3 HX HM HC hp
  go_wp2_with fail
  have hgr := five_grown w3 W.heap.size 0 1 2 3 4 (.int .i64 ep) (.int .i64 ((i : Int) + 1)) (.int .i64 th) (.int .i64 mn) (.slice (some ⟨g, 0, none⟩) n c3)
  refine bodyPost_ret (v := .agg #[.int .i64 ep, .int .i64 ((i : Int) + 1), .int .i64 th, .int .i64 mn, .slice (some ⟨g, 0, none⟩) n c3]) (by simp [results, Tryd.f34, go_sem, r0, r1, r2, r3, r4]) rfl
    ⟨some ⟨g, 0, none⟩, c3, by unfold shv; rw [HL.out]; rfl, HF.out.1.sl.keep hgr (fun b off e => ?_), fun b off e => ?_, HF.out.2.grown hgr HF.out.2.size (fun j e => by cases e; exact Nat.le_refl _)⟩
  · cases e
    simp
    omega
  · cases e
    omega
end Go.Proofs.YtjkojjimlebmjaaDoor
