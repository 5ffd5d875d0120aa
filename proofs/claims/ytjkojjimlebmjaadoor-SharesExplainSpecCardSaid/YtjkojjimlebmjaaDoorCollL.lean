/- collected: rows of rows of bytes. -/
import Derived.Test.YtjkojjimlebmjaaDoorSh
import Derived.LoopTactic
namespace Go.Proofs.YtjkojjimlebmjaaDoor
open Go.RowKit
set_option linter.unusedVariables false

/-- A row of bytes lies at this place. -/
def RwAt (w : World) (b off : Nat) (l : List UInt8) : Prop := ∃ A c, w.cell? ⟨b, off, none⟩ = some (.slice A l.length c) ∧ Sl w A l c
/-- A slice of rows of bytes. -/
def RR (w : World) (A : Option Addr) (l : List (List UInt8)) (c : Nat) : Prop := (0 < l.length → ∃ b off, A = some ⟨b, off, none⟩ ∧ b < w.heap.size ∧ ∀ i s, l[i]? = some s → RwAt w b (off + i) s) ∧ l.length ≤ c ∧ c ≤ maxLen ∧ (A = none → l = [] ∧ c = 0)
theorem RR.up {w w' : World} {A : Option Addr} {l : List (List UInt8)} {c : Nat} (h : RR w A l c) (k : Below w.heap.size w w') : RR w' A l c := by
  refine ⟨fun hp => ?_, h.2⟩
  obtain ⟨b, off, e, hb, hs⟩ := h.1 hp
  refine ⟨b, off, e, Nat.lt_of_lt_of_le hb k.size, fun i s hi => ?_⟩
  obtain ⟨A, c, h1, h2⟩ := hs i s hi
  exact ⟨A, c, (k.cell (p := ⟨b, off + i, none⟩) hb).trans h1, h2.up k⟩
theorem rw_info : (Tryd.prog.info? 23).map (fun i => (i.zero, i.size, i.bytes)) = some (some (.slice none 0 0), 1, 24) := by kernel_rfl

/-- The rows that have come. -/
def ComeL (w : World) (n : Nat) (F : Nat → List UInt8) (k : Nat) (wr : World) : Prop := ∃ vs : List Value, vs.length = n ∧ wr.ownsRow w.heap.size 23 1 (.slice (some ⟨w.heap.size, 0, none⟩) n n) n vs ∧
  ∀ i, i < k → ∃ A c, vs[i]? = some (.slice A (F i).length c) ∧ Sl wr A (F i) c ∧ ∀ b off, A = some ⟨b, off, none⟩ → w.heap.size < b
theorem ComeL.below {w wr w2 : World} {n k : Nat} {F : Nat → List UInt8} (h : ComeL w n F k wr) (hb : Below wr.heap.size wr w2) : ComeL w n F k w2 := by
  obtain ⟨bs, hl, ho, hs⟩ := h
  refine ⟨bs, hl, own_below ho hb, fun i hi => ?_⟩
  obtain ⟨A, c, h1, h2, h3⟩ := hs i hi
  exact ⟨A, c, h1, h2.up hb, h3⟩
theorem ComeL.lt {w wr : World} {n k : Nat} {F : Nat → List UInt8} (h : ComeL w n F k wr) : w.heap.size < wr.heap.size := by
  obtain ⟨bs, hl, ho, hs⟩ := h
  exact (World.ownsRow.lt ho w.heap.size rfl).2
theorem ComeL.cell {w wr : World} {n k i : Nat} {F : Nat → List UInt8} (h : ComeL w n F k wr) (hi : i < n) : (∃ v, wr.cell? ⟨w.heap.size, i, none⟩ = some v) ∧ wr.frozen? ⟨w.heap.size, i, none⟩ = false := by
  obtain ⟨bs, hl, ho, hs⟩ := h
  exact ⟨⟨bs[i]'(by omega), by rw [ho.cellAt i (by omega), List.getElem?_eq_getElem (by omega)]⟩, ho.frozenAt i⟩
theorem ComeL.step {w wr : World} {n k : Nat} {F : Nat → List UInt8} (h : ComeL w n F k wr) (hk : k < n) (A : Option Addr) (c m : Nat) (hm : (F k).length = m) (hs : Sl wr A (F k) c) (hA : ∀ b off, A = some ⟨b, off, none⟩ → w.heap.size < b) :
    ComeL w n F (k + 1) (wr.setCell ⟨w.heap.size, k, none⟩ (.slice A m c)) ∧ wr.grownBy (wr.setCell ⟨w.heap.size, k, none⟩ (.slice A m c)) (some w.heap.size) := by
  subst hm
  obtain ⟨bs, hl, ho, hss⟩ := h
  have hst := ho.stored k (.slice A (F k).length c)
  refine ⟨⟨bs.set k (.slice A (F k).length c), by simpa using hl, hst.1, fun i hi => ?_⟩, hst.2⟩
  by_cases e : i = k
  · subst e
    exact ⟨A, c, by rw [List.getElem?_set_self (by omega)], hs.keep hst.2 (fun b off hAb => by have := hA b off hAb; simp; omega), hA⟩
  · obtain ⟨A2, c2, h1, h2, h3⟩ := hss i (by omega)
    exact ⟨A2, c2, by rw [List.getElem?_set_ne (Ne.symm e)]; exact h1, h2.keep hst.2 (fun b off hAb => by have := h3 b off hAb; simp; omega), h3⟩
theorem ComeL.done {w wr : World} {n : Nat} {F : Nat → List UInt8} (hn : n ≤ 1000000) (h : ComeL w n F n wr) : RR wr (some ⟨w.heap.size, 0, none⟩) ((List.range n).map F) n := by
  have hlt := h.lt
  obtain ⟨bs, hl, ho, hs⟩ := h
  refine ⟨fun hp => ⟨w.heap.size, 0, rfl, hlt, fun i s hi => ?_⟩, by simp, le_maxLen (by omega), fun h => by cases h⟩
  have hin : i < n := by
    have := (List.getElem?_eq_some_iff.1 hi).1
    simpa using this
  have hF : F i = s := by simpa [List.getElem?_range hin, hin] using hi
  obtain ⟨A, c, h1, h2, _⟩ := hs i hin
  rw [hF] at h1 h2
  exact ⟨A, c, by rw [Nat.zero_add, ho.cellAt _ (by omega), h1], h2⟩
/-- A new row of rows. -/
def RowL (l : List (List UInt8)) (w : World) (e : Ending) (w' : World) : Prop := ∃ g c, w.heap.size ≤ g ∧ e = .returned (.slice (some ⟨g, 0, none⟩) l.length c) ∧ RR w' (some ⟨g, 0, none⟩) l c ∧ Below w.heap.size w w'

set_option maxHeartbeats 1000000 in
set_option maxRecDepth 100000 in
theorem collL (n : Nat) (hn : n ≤ 1000000) (g : FuncId) (caps : Array Value) (F : Nat → List UInt8) (w : World) (eg : ∀ args w, (callFunc g args).run Tryd.prog w = .ok (.enter g args) w)
    (hg : ∀ i W, i < n → w.heap.size < W.heap.size → Below w.heap.size w W → Calls Tryd.prog g (#[.int .i64 (i : Int)] ++ caps) W fun e w' => ∃ A c, e = .returned (.slice A (F i).length c) ∧ Sl w' A (F i) c ∧ (∀ b off, A = some ⟨b, off, none⟩ → w.heap.size < b) ∧ Below W.heap.size W w') :
    Calls Tryd.prog 43 #[.int .i64 (n : Int), .func (.func g) #[] caps] w (RowL ((List.range n).map F) w) := by
  have HG := Lib.hid hg
  clear hg
  obtain ⟨i0, hi0, hz0, hz1, hz2⟩ := info_parts rw_info
  have HL : Hid (((List.range n).map F).length = n) := by simp [Hid]
  go_enter Tryd.func43, Tryd.ntmps43
  go_wp2_with (refine wpList_make_full _ rfl (.tmp 7) (.tmp 7) 41 rfl w.heap.size 23 i0 (.slice none 0 0) 1 Tryd.underlying41 hi0 hz0 hz1 .i64 .i64 n n n rfl rfl rfl rfl (by rw [hz2]; omega) (le_maxLen (by omega)) (Nat.le_refl _) ?_; intro w1 hown hgr)
  have h0 : ComeL w n F 0 w1 := by
    exact ⟨_, by simpa using hown.1, hown, fun i hi => by omega⟩
  have H0 := Lib.hid (And.intro h0 (grown_below hgr))
  clear h0 hown hgr
  go_loopw [11] (fun i wr => ∃ k : Nat, k ≤ n ∧ i = .int .i64 k ∧ ComeL w n F k wr ∧ Below w.heap.size w wr) (fun i _ => n - (intOf i).toNat)
  case atStart => exact ⟨0, Nat.zero_le _, rfl, H0.out.1, H0.out.2⟩
  case round =>
    obtain ⟨k, hk, rfl, hO, hb⟩ := hrel
    by_cases hlt : k < n
    · have HC := Lib.hid (HG.out k wr hlt hO.lt hb)
      go_wp2_with fail
      refine HC.out.mono ?_
      rintro e w2 ⟨A, c, rfl, hs, hab, hb2⟩
      have hO2 := hO.below hb2
      have hb3 := hb.trans (hb2.mono hb.size)
      obtain ⟨⟨v0, c0⟩, f0⟩ := hO2.cell hlt
      have HO2 := Lib.hid (And.intro hO2 (And.intro hb3 (And.intro hs hab)))
      obtain ⟨m, hm⟩ : ∃ m, (F k).length = m := ⟨_, rfl⟩
      have HM := Lib.hid hm
      clear hO2 hb3 hO hb hb2 HC hs hab
      rw [hm]
      clear hm
      go_wp2_with fail
      go_roundw
      case rel =>
        have hst := HO2.out.1.step hlt A c m HM.out HO2.out.2.2.1 HO2.out.2.2.2
        exact ⟨k + 1, by omega, by go_num, hst.1, HO2.out.2.1.grown hst.2 HO2.out.2.1.size (fun j e => by cases e; exact Nat.le_refl _)⟩
      case measure => simp [intOf]; omega
    · obtain rfl : k = n := by omega
      have HE := Lib.hid (And.intro (hO.done hn) hb)
      clear hO hb
      go_wp2_with fail
      go_ret
      exact ⟨w.heap.size, k, Nat.le_refl _, by rw [HL.out]; rfl, HE.out.1, HE.out.2⟩
end Go.Proofs.YtjkojjimlebmjaaDoor
