/- timesFactor. -/
import Derived.Test.YtjkojjimlebmjaaDoorAdd
namespace Go.Proofs.YtjkojjimlebmjaaDoor
open Go.RowKit
set_option linter.unusedVariables false

/-- A row of the call's own with bytes. -/
def Own8 (B : Nat) (w : World) (g c : Nat) (l : List UInt8) : Prop := w.ownsRow B 5 1 (.slice (some ⟨g, 0, none⟩) l.length c) l.length (l.map bv)
theorem Own8.sl {B g c : Nat} {w : World} {l : List UInt8} (h : Own8 B w g c l) : Sl w (some ⟨g, 0, none⟩) l c := by
  have := Bs.of_own h
  exact ⟨this.1, this.2.1, this.2.2, fun h => by cases h⟩
theorem Own8.lt {B g c : Nat} {w : World} {l : List UInt8} (h : Own8 B w g c l) : B ≤ g ∧ g < w.heap.size := World.ownsRow.lt h g rfl
theorem Own8.below {B g c : Nat} {w w' : World} {l : List UInt8} (h : Own8 B w g c l) (hb : Below w.heap.size w w') : Own8 B w' g c l := own_below h hb
def FacPost (B : Nat) (l : List UInt8) (w : World) (e : Ending) (w' : World) : Prop := ∃ g c, e = .returned (.slice (some ⟨g, 0, none⟩) l.length c) ∧ Own8 B w' g c l ∧ Below w.heap.size w w'

set_option maxHeartbeats 1000000 in
set_option maxRecDepth 100000 in
theorem fac_any (A : Option Addr) (c : Nat) (v : List UInt8) (x : UInt8) (w : World) (hK : KT w) (hS : Sl w A v c) (hl : v.length ≤ 100000) :
    Calls Tryd.prog 50 #[.slice A v.length c, bv x] w (FacPost w.heap.size (tf v x) w) := by
  have hlen : (0 :: v).length = v.length + 1 := by simp
  have hown : (w.alloc (.cells #[.int .u8 0] 5)).ownsRow w.heap.size 5 1 (.slice (some ⟨w.heap.size, 0, none⟩) 1 1) 1 [.int .u8 0] := World.ownsRow_lit w #[.int .u8 0] 1 (Nat.le_refl _) (by unfold maxLen; omega) rfl
  have hb0 := (Below.refl w.heap.size w).alloc (Nat.le_refl _) (.cells #[.int .u8 0] 5)
  have HO := Lib.hid hown
  have HS := Lib.hid hS
  have hS0 := hS.up hb0
  have HK := Lib.hid hK
  have HB := Lib.hid hb0
  clear hK hS hown hb0
  obtain ⟨n, hn⟩ : ∃ n, v.length = n := ⟨_, rfl⟩
  have HS0 := Lib.hid hS0
  have HN := Lib.hid hn
  clear hS0
  rw [hn] at hl ⊢
  clear hn
  go_enter Tryd.func50, Tryd.ntmps50
  go_wp2_with (refine wpList_append_sl rfl (.tmp 6) (.tmp 7) rfl _ 1 _ rfl HO.out A v n c HN.out rfl HS0.out (by omega) (by simp) ?_; intro A1 c1 w1 ho1 hg1)
  have hb1 : Below w.heap.size w w1 := HB.out.grown hg1 HB.out.size (fun k e => by
    have e2 : some w.heap.size = some k := e
    injection e2 with e2
    omega)
  have e1 : (0 :: v).length = 1 + n := by rw [List.length_cons, HN.out, Nat.add_comm]
  obtain ⟨g, rfl⟩ : ∃ g, A1 = some ⟨g, 0, none⟩ := by
    rcases ho1.2 with ⟨_, h0⟩ | ⟨g, cap, cur, hv, _⟩
    · omega
    · injection hv with hv
      exact ⟨g, hv⟩
  have hO1 : w1.ownsRow w.heap.size 5 1 (.slice (some ⟨g, 0, none⟩) (0 :: v).length c1) (0 :: v).length ((0 :: v).map bv) := by
    rw [e1]
    exact ho1
  have hg := hO1.lt g rfl
  have HA := add_any w.heap.size g c1 (0 :: v) A c v x w1 (HK.out.below hb1) (by have := HK.out.1; omega) hO1 (HS.out.up hb1) (fun h0 b off e => by
    subst e
    obtain ⟨b2, off2, e2, hlt, _⟩ := HS.out.1 h0
    injection e2 with e2
    injection e2 with e2
    omega) (by simp) (by rw [e1]; omega)
  rw [e1, HN.out] at HA
  refine HA.mono ?_
  rintro e w2 ⟨rfl, ho2, hg2⟩
  have hb2 : Below w.heap.size w w2 := hb1.grown hg2 hb1.size (fun k e => by cases e; exact hg.1)
  clear HA hO1 ho1 hg1
  go_wp2_with fail
  go_ret
  refine ⟨g, c1, by rw [tf_length, HN.out, Nat.add_comm]; rfl, ?_, hb2⟩
  unfold Own8
  rw [tf_length, HN.out, Nat.add_comm n 1]
  exact ho2
end Go.Proofs.YtjkojjimlebmjaaDoor
