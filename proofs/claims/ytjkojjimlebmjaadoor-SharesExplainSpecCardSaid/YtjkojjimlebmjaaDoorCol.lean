/- indexesOf; byColumn: the inner functions. -/
import Derived.Test.YtjkojjimlebmjaaDoorSp1
import Derived.Deep.QuietTactic
import Derived.BigQuiet
namespace Go.Proofs.YtjkojjimlebmjaaDoor
open Go.RowKit
set_option linter.unusedVariables false

/-- The index as a byte. -/
def ixb (s : Shr) : UInt8 := UInt8.ofNat (s.ix.toNat)
/-- The byte of each share at a place. -/
def colm (l : List Shr) (place : Nat) : List UInt8 := (List.range l.length).map fun i => ((l[i]?.map (·.data)).getD []).getD place 0
/-- The indexes. -/
def idxs (l : List Shr) : List UInt8 := (List.range l.length).map fun i => (l[i]?.map ixb).getD 0

set_option maxHeartbeats 1000000 in
set_option maxRecDepth 100000 in
theorem ix1_any (i Bl : Nat) (A : Option Addr) (c : Nat) (l : List Shr) (W : World) (hl : W.cell? ⟨Bl, 0, none⟩ = some (.slice A l.length c)) (hS : SS W A l c) (hi : i < l.length) (h8 : ∀ s ∈ l, 0 ≤ s.ix ∧ s.ix < 256) (hn : l.length ≤ 1000000) :
    Calls Tryd.prog 40 #[.int .i64 (i : Int), .pointer (some ⟨Bl, 0, none⟩)] W fun e w' => e = .returned (bv ((l[i]?.map ixb).getD 0)) ∧ Below W.heap.size W w' := by
  obtain ⟨b, off, rfl, hb, hat⟩ := hS.1 (by omega)
  have hs : l[i]? = some l[i] := List.getElem?_eq_getElem hi
  obtain ⟨A1, c1, k0, k1, k2, k3, k4, hs1⟩ := hat i _ hs
  have h9 := h8 _ (List.getElem_mem hi)
  rw [hs]
  show Calls _ _ _ _ fun e w' => e = .returned (bv (ixb l[i])) ∧ _
  unfold ixb
  generalize l[i] = s at *
  have hw := ix_wrap s.ix.toNat (by omega)
  rw [show ((s.ix.toNat : Nat) : Int) = s.ix by omega] at hw
  unfold bv
  generalize (UInt8.ofNat s.ix.toNat).toNat = xb at *
  generalize l.length = n at *
  have i1 : (0 : Int) ≤ (i : Int) := by omega
  have i2 : (i : Int) < (n : Int) := by omega
  clear hS hat hs hs1 k0 k2 k3 k4 h8
  go_enter Tryd.func40, Tryd.ntmps40
  go_wp2_with fail
  go_ret
  exact ⟨rfl, Below.refl _ _⟩

theorem idx_any (A : Option Addr) (c : Nat) (l : List Shr) (w : World) (hS : SS w A l c) (h8 : ∀ s ∈ l, 0 ≤ s.ix ∧ s.ix < 256) (hn : l.length ≤ 1000000) :
    Calls Tryd.prog 14 #[.slice A l.length c] w (Row8 (idxs l) w) := by
  have hb0 : Below w.heap.size w (w.alloc (.cells #[.slice A l.length c] 22)) := (Below.refl _ w).alloc (Nat.le_refl _) _
  have hbx := Box.new w #[.slice A l.length c] 22
  have hC : ∀ W1, W1 = (w.alloc (.cells #[.slice A l.length c] 22)) →
      Calls Tryd.prog 35 #[.int .i64 (l.length : Int), .func (.func 40) #[] #[.pointer (some ⟨w.heap.size, 0, none⟩)]] W1 (Row8 (idxs l) W1) := by
    rintro W1 rfl
    refine coll8 l.length hn _ _ _ _ (enters_of Tryd.func40 (by kernel_rfl) rfl) ?_
    intro j W2 hj hlt hb2
    exact ix1_any j w.heap.size A c l W2 ((hbx.below hb2).cell 0) (hS.up (hb0.trans (hb2.mono hb0.size))) hj h8 hn
  have HC := Lib.hid (And.intro hC hb0)
  have HL : Hid ((idxs l).length = l.length) := by simp [Hid, idxs]
  clear hC hb0 hbx hS h8
  generalize idxs l = L at *
  generalize l.length = n at *
  go_enter Tryd.func14, Tryd.ntmps14
  go_wp2_with fail
  refine (HC.out.1 _ rfl).mono ?_
  rintro e w3 ⟨g, c3, hg, rfl, hO, hb3⟩
  go_wp2_with fail
  go_ret
  simp only [World.size_alloc] at hg hO
  refine ⟨g, c3, by omega, by rw [HL.out]; rfl, ?_, HC.out.2.trans (hb3.mono HC.out.2.size)⟩
  exact own_base hO (Nat.le_succ _)

set_option maxHeartbeats 1000000 in
set_option maxRecDepth 100000 in
theorem bc11_any (i place Bl Bp : Nat) (A : Option Addr) (c : Nat) (l : List Shr) (W : World) (hl : W.cell? ⟨Bl, 0, none⟩ = some (.slice A l.length c)) (hpl : W.cell? ⟨Bp, 0, none⟩ = some (.int .i64 (place : Int))) (hS : SS W A l c) (hi : i < l.length) (h8 : ∀ s ∈ l, place < s.data.length) (hn : l.length ≤ 1000000) :
    Calls Tryd.prog 59 #[.int .i64 (i : Int), .pointer (some ⟨Bl, 0, none⟩), .pointer (some ⟨Bp, 0, none⟩)] W fun e w' => e = .returned (bv (((l[i]?.map (·.data)).getD []).getD place 0)) ∧ Below W.heap.size W w' := by
  obtain ⟨b, off, rfl, hb, hat⟩ := hS.1 (by omega)
  have hs : l[i]? = some l[i] := List.getElem?_eq_getElem hi
  obtain ⟨A1, c1, k0, k1, k2, k3, k4, hs1⟩ := hat i _ hs
  have h9 := h8 _ (List.getElem_mem hi)
  rw [hs]
  show Calls _ _ _ _ fun e w' => e = .returned (bv (l[i].data.getD place 0)) ∧ _
  generalize l[i] = s at *
  obtain ⟨b2, off2, rfl, hb2, hc2⟩ := hs1.1 (by omega)
  have hx := hc2 place _ (getD_cell h9)
  generalize s.data.getD place 0 = x at *
  unfold bv at hx ⊢
  generalize l.length = n at *
  generalize s.data.length = m at *
  have i1 : (0 : Int) ≤ (i : Int) := by omega
  have i2 : (i : Int) < (n : Int) := by omega
  have i3 : (0 : Int) ≤ (place : Int) := by omega
  have i4 : (place : Int) < (m : Int) := by omega
  clear hS hat hs hs1 k0 k1 k2 k3 hc2 h8
  go_enter Tryd.func59, Tryd.ntmps59
  go_wp2_with fail
  go_quiet (fail)
  go_wp2_with fail
  go_ret
  exact ⟨rfl, below_drewN _ _⟩
end Go.Proofs.YtjkojjimlebmjaaDoor
