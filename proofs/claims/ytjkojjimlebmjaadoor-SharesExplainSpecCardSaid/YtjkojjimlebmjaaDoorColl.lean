/- collected: rows of bytes. -/
import Derived.Test.YtjkojjimlebmjaaDoorLit
import Derived.Test.YtjkojjimlebmjaaDoorFac
import Derived.LoopTactic
namespace Go.Proofs.YtjkojjimlebmjaaDoor
open Go.RowKit
set_option linter.unusedVariables false

/-- Bytes that have come, then zeros. -/
def pz (f : Nat → UInt8) (n k : Nat) : List UInt8 := (List.range k).map f ++ List.replicate (n - k) 0
theorem pz_length (f : Nat → UInt8) (n k : Nat) (h : k ≤ n) : (pz f n k).length = n := by simp [pz]; omega
theorem pz_zero (f : Nat → UInt8) (n : Nat) : pz f n 0 = List.replicate n 0 := by simp [pz]
theorem pz_full (f : Nat → UInt8) (n : Nat) : pz f n n = (List.range n).map f := by simp [pz]
theorem pz_step (f : Nat → UInt8) (n k : Nat) (h : k < n) : pz f n (k + 1) = (pz f n k).set k (f k) := by
  unfold pz
  rw [List.set_append_right _ _ (by simp), List.range_succ, List.map_append]
  simp only [List.length_map, List.length_range, Nat.sub_self, List.map_cons, List.map_nil, List.append_assoc]
  congr 1
  obtain ⟨m, hm⟩ : ∃ m, n - k = m + 1 := ⟨n - k - 1, by omega⟩
  rw [show n - (k + 1) = m by omega, hm, List.replicate_succ]
  rfl

/-- A new row of bytes. -/
def Row8 (l : List UInt8) (w : World) (e : Ending) (w' : World) : Prop := ∃ g c, w.heap.size ≤ g ∧ e = .returned (.slice (some ⟨g, 0, none⟩) l.length c) ∧ Own8 w.heap.size w' g c l ∧ Below w.heap.size w w'

set_option maxHeartbeats 1000000 in
set_option maxRecDepth 100000 in
theorem coll8 (n : Nat) (hn : n ≤ 1000000) (g : FuncId) (caps : Array Value) (f : Nat → UInt8) (w : World) (eg : ∀ args w, (callFunc g args).run Tryd.prog w = .ok (.enter g args) w)
    (hg : ∀ i W, i < n → w.heap.size < W.heap.size → Below w.heap.size w W → Calls Tryd.prog g (#[.int .i64 (i : Int)] ++ caps) W fun e w' => e = .returned (bv (f i)) ∧ Below W.heap.size W w') :
    Calls Tryd.prog 35 #[.int .i64 (n : Int), .func (.func g) #[] caps] w (Row8 ((List.range n).map f) w) := by
  have HG := Lib.hid hg
  clear hg
  obtain ⟨i0, hi0, hz0, hz1, hz2⟩ := info_parts u8_info
  have HP := Lib.hid (fun k => pz_step f n k)
  have HF := Lib.hid (pz_full f n)
  have HL : Hid (((List.range n).map f).length = n) := by simp [Hid]
  go_enter Tryd.func35, Tryd.ntmps35
  go_wp2_with (refine wpList_make_full _ rfl (.tmp 7) (.tmp 7) 23 rfl w.heap.size 5 i0 (.int .u8 0) 1 Tryd.underlying23 hi0 hz0 hz1 .i64 .i64 n n n rfl rfl rfl rfl (by rw [hz2]; omega) (le_maxLen (by omega)) (Nat.le_refl _) ?_; intro w1 hown hgr)
  have h0 : Own8 w.heap.size w1 w.heap.size n (pz f n 0) := by
    rw [Nat.mul_one, show (Value.int .u8 0).cells = #[.int .u8 0] from rfl, toList_madeCells_one] at hown
    unfold Own8
    rw [pz_length f n 0 (Nat.zero_le _), pz_zero, List.map_replicate]
    exact hown
  have HPL := Lib.hid (fun k => pz_length f n k)
  have H0 := Lib.hid (And.intro h0 (grown_below hgr))
  clear h0 hown hgr
  go_loopw [11] (fun i wr => ∃ k : Nat, k ≤ n ∧ i = .int .i64 k ∧ Own8 w.heap.size wr w.heap.size n (pz f n k) ∧ Below w.heap.size w wr) (fun i _ => n - (intOf i).toNat)
  case atStart => exact ⟨0, Nat.zero_le _, rfl, H0.out.1, H0.out.2⟩
  case round =>
    obtain ⟨k, hk, rfl, hO, hb⟩ := hrel
    by_cases hlt : k < n
    · have HC := Lib.hid (HG.out k wr hlt (hO.lt.2) hb)
      go_wp2_with fail
      refine HC.out.mono ?_
      rintro e w2 ⟨rfl, hb2⟩
      have hO2 : Own8 w.heap.size w2 w.heap.size n (pz f n k) := own_below hO hb2
      have hb3 := hb.trans (hb2.mono hb.size)
      have hfl := World.ownsRow.frozenAt hO2 k
      have hl := HPL.out k hk
      have hcl : w2.cell? ⟨w.heap.size, k, none⟩ = some (bv ((pz f n k)[k]'(by omega))) := by
        rw [World.ownsRow.cellAt hO2 k (by omega), List.getElem?_map, List.getElem?_eq_getElem (by omega)]
        rfl
      have HO2 := Lib.hid (And.intro hO2 hb3)
      generalize (pz f n k)[k]'_ = old at hcl
      clear hO2 hb3 hO hb hb2 hl HC
      unfold bv at hcl ⊢
      go_wp2_with fail
      go_roundw
      case rel =>
        have hs := World.ownsRow.stored HO2.out.1 k (bv (f k))
        refine ⟨k + 1, by omega, by go_num, ?_, HO2.out.2.grown hs.2 HO2.out.2.size (fun j e => by cases e; exact Nat.le_refl _)⟩
        have h1 := hs.1
        unfold Own8
        rw [HP.out k hlt, List.length_set, map_set]
        exact h1
      case measure => simp [intOf]; omega
    · obtain rfl : k = n := by omega
      have HE := Lib.hid (And.intro hO hb)
      clear hO hb
      go_wp2_with fail
      go_ret
      refine ⟨w.heap.size, k, Nat.le_refl _, by rw [HL.out]; rfl, ?_, HE.out.2⟩
      rw [← HF.out]
      exact HE.out.1
end Go.Proofs.YtjkojjimlebmjaaDoor
