/- The reference's reader: its state, next. -/
import Derived.Test.YtkihimafeonibaaRNum
import Derived.Deep.RegionHeld3
import Derived.IntWalk
namespace Go.Proofs.Ytkihimafeonibaa
open Go.RowKit
set_option linter.unusedVariables false

/-- The reference's reader in block h reads the bytes L, from place p on; b: it has met an error. -/
def RR (h : Nat) (w : World) (A : Option Addr) (c : Nat) (L : List UInt8) (p : Nat) (b : Bool) : Prop :=
  w.heap[h]? = some (.cells #[.slice A L.length c, .int .i64 p, .bool b] 57 (0, 0)) ∧ Bs h w A L ∧ p ≤ L.length ∧ L.length ≤ c ∧ c ≤ maxLen

theorem RR.lt {h : Nat} {w : World} {A : Option Addr} {c : Nat} {L : List UInt8} {p : Nat} {b : Bool} (hr : RR h w A c L p b) : h < w.heap.size := heap_lt hr.1
theorem RR.cells {h : Nat} {w : World} {A : Option Addr} {c : Nat} {L : List UInt8} {p : Nat} {b : Bool} (hr : RR h w A c L p b) :
    w.cell? ⟨h, 0, none⟩ = some (.slice A L.length c) ∧ w.cell? ⟨h, 1, none⟩ = some (.int .i64 p) ∧ w.cell? ⟨h, 2, none⟩ = some (.bool b) := by
  refine ⟨?_, ?_, ?_⟩ <;> (rw [cell_of_row w h _ _ _ _ hr.1]; rfl)
theorem RR.frozen {h : Nat} {w : World} {A : Option Addr} {c : Nat} {L : List UInt8} {p : Nat} {b : Bool} (hr : RR h w A c L p b) (i : Nat) : w.frozen? ⟨h, i, none⟩ = false := by
  simp [World.frozen?, hr.1]
theorem RR.keep {h : Nat} {w w' : World} {A : Option Addr} {c : Nat} {L : List UInt8} {p : Nat} {b : Bool} (hr : RR h w A c L p b) (hk : ∀ k, k ≤ h → w'.heap[k]? = w.heap[k]?) : RR h w' A c L p b := by
  obtain ⟨hh, hB, h1, h2, h3⟩ := hr
  refine ⟨(hk h (Nat.le_refl _)).trans hh, fun hl => ?_, h1, h2, h3⟩
  obtain ⟨b, off, rfl, hlt, hc⟩ := hB hl
  exact ⟨b, off, rfl, hlt, fun j u hu => (World.cell?_of_block (a := ⟨b, off + j, none⟩) (hk b (Nat.le_of_lt hlt))).trans (hc j u hu)⟩
theorem RR.drew {h : Nat} {w : World} {A : Option Addr} {c : Nat} {L : List UInt8} {p : Nat} {b : Bool} (hr : RR h w A c L p b) : RR h w.drew A c L p b := hr.keep fun _ _ => rfl

theorem set_grown_at (w : World) (rd i : Nat) (v : Value) : w.grownBy (w.setCell ⟨rd, i, none⟩ v) (some rd) :=
  ⟨rfl, rfl, rfl, by simp [World.setCell], fun k _ hk => Below.heap_setCell _ _ _ _ (fun e => hk (by rw [e]))⟩
theorem RR.bad {h : Nat} {w : World} {A : Option Addr} {c : Nat} {L : List UInt8} {p : Nat} {b : Bool} (hr : RR h w A c L p b) : RR h (w.setCell ⟨h, 2, none⟩ (.bool true)) A c L p true := by
  obtain ⟨hh, hB, h1, h2, h3⟩ := hr
  exact ⟨by simp [World.setCell, Array.getElem?_modify, hh], hB.keep (set_grown_at w h 2 _), h1, h2, h3⟩
theorem RR.move {h : Nat} {w : World} {A : Option Addr} {c : Nat} {L : List UInt8} {p : Nat} {b : Bool} (hr : RR h w A c L p b) (q : Nat) (hq : q ≤ L.length) : RR h (w.setCell ⟨h, 1, none⟩ (.int .i64 q)) A c L q b := by
  obtain ⟨hh, hB, h1, h2, h3⟩ := hr
  exact ⟨by simp [World.setCell, Array.getElem?_modify, hh], hB.keep (set_grown_at w h 1 _), hq, h2, h3⟩
theorem grown_drew (w : World) (r : Option Nat) : w.grownBy w.drew r := ⟨rfl, rfl, rfl, Nat.le_refl _, fun _ _ _ => rfl⟩

set_option maxHeartbeats 400000 in
set_option maxRecDepth 100000 in
theorem rnext_end (h : Nat) (A : Option Addr) (c : Nat) (L : List UInt8) (p : Nat) (b : Bool) (w : World) (hR : RR h w A c L p b) (hp : L.length ≤ p) :
    Calls Try.prog 50 #[.pointer (some ⟨h, 0, none⟩)] w fun e w' => e = .returned (.int .u8 0) ∧ RR h w' A c L p true ∧ w.grownBy w' (some h) := by
  obtain ⟨c0, c1, c2⟩ := hR.drew.cells
  have f2 := hR.drew.frozen 2
  have hlt := hR.lt
  have hle := hR.2.2.1
  have hcl := hR.2.2.2.1
  have hcm := hR.2.2.2.2
  have fin := hR.drew.bad
  have hg := grown_trans (grown_drew w (some h)) (set_grown_at w.drew h 2 (.bool true))
  have HF := Lib.hid fin
  clear fin hR
  unfold maxLen at hcm
  generalize L.length = m at *
  obtain rfl : m = p := by omega
  go_enter Try.func50, Try.ntmps50
  go_wp2_with fail
  go_region_held3 (fun w' => w'.cell? ⟨h, 0, none⟩ = some (.slice A m c) ∧ w'.cell? ⟨h, 1, none⟩ = some (.int .i64 m)) (first | exact ⟨c0, c1⟩ | go_keep) (first | fail)
  all_goals
    go_wp2_with fail
    go_ret
    exact ⟨rfl, HF.out, hg⟩

set_option maxHeartbeats 400000 in
set_option maxRecDepth 100000 in
theorem rnext_good (h : Nat) (A : Option Addr) (c : Nat) (L : List UInt8) (p : Nat) (b : Bool) (d : UInt8) (w : World) (hR : RR h w A c L p b) (hd : L[p]? = some d) :
    Calls Try.prog 50 #[.pointer (some ⟨h, 0, none⟩)] w fun e w' => e = .returned (bv d) ∧ RR h w' A c L (p + 1) b ∧ w.grownBy w' (some h) := by
  have hpl : p < L.length := (List.getElem?_eq_some_iff.1 hd).1
  obtain ⟨bb, off, rfl, hbh, hcell⟩ := hR.2.1 (by omega)
  have hRm := (hR.drew.move (p + 1) (by omega)).drew
  obtain ⟨c0, c1, c2⟩ := hR.drew.cells
  have f1 := hR.drew.frozen 1
  obtain ⟨e0, e1, e2⟩ := hRm.cells
  have hlt := hR.lt
  have hcl := hR.2.2.2.1
  have hcm := hR.2.2.2.2
  have e3 : ((w.drew.setCell ⟨h, 1, none⟩ (.int .i64 ((p + 1 : Nat) : Int))).drew).cell? ⟨bb, off + p, none⟩ = some (.int .u8 (d.toNat : Int)) :=
    ((grown_trans (grown_trans (grown_drew w (some h)) (set_grown_at w.drew h 1 _)) (grown_drew _ _)).cell (hcell p d hd) (fun e => absurd (by injection e) (Nat.ne_of_lt hbh)) :)
  have hg := grown_trans (grown_trans (grown_drew w (some h)) (set_grown_at w.drew h 1 (.int .i64 ((p + 1 : Nat) : Int)))) (grown_drew _ (some h))
  have HF := Lib.hid hRm
  clear hR hRm hcell hd
  unfold maxLen at hcm
  generalize L.length = m at *
  have i1 : (p : Int) < (m : Int) := by omega
  go_enter Try.func50, Try.ntmps50
  go_wp2_with fail
  go_region_held3 (fun w' => w'.cell? ⟨h, 0, none⟩ = some (.slice (some ⟨bb, off, none⟩) m c) ∧ w'.cell? ⟨h, 1, none⟩ = some (.int .i64 p)) (first | exact ⟨c0, c1⟩ | go_keep) (first | fail)
  go_wp2_with fail
  have ec : (p : Int) + 1 = ((p + 1 : Nat) : Int) := by omega
  rw [ec]
  clear ec
  generalize hq : p + 1 = q at *
  have j1 : IntKind.i64.wrap ((q : Int) - 1) = (p : Int) := (IntWalk.i64_in _ (by omega)).trans (by omega)
  have j2 : (0 : Int) ≤ (p : Int) := by omega
  have j3 : (p : Int).toNat = p := by omega
  go_region_held3 (fun w' => w'.cell? ⟨h, 0, none⟩ = some (.slice (some ⟨bb, off, none⟩) m c) ∧ w'.cell? ⟨h, 1, none⟩ = some (.int .i64 q) ∧ w'.cell? ⟨bb, off + p, none⟩ = some (.int .u8 (d.toNat : Int))) (first | exact ⟨e0, e1, e3⟩ | go_keep) (first | fail)
  all_goals
    go_wp2_with fail
    all_goals
      go_ret
      subst hq
      exact ⟨rfl, HF.out, hg⟩
end Go.Proofs.Ytkihimafeonibaa
