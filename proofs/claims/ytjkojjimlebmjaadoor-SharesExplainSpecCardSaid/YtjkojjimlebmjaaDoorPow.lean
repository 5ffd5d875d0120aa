/- powers: the iterator. -/
import Derived.RangeFuncNested
import Derived.RangeFuncBound
import Derived.RangeFuncCalls
import Derived.RangeFuncLeaves
import Derived.RangeFuncBox
import Derived.Shelf.Abstract
import Derived.Shelf.RegionOpen
import Derived.WalkKit
import Derived.OwnWalkIn
import Derived.TacticsInMore
import Derived.LoopNIn
import Derived.LoopIn
import Derived.Test.YtjkojjimlebmjaaDoorMul
import Derived.Test.YtjkojjimlebmjaaDoorPoly
namespace Go.Proofs.YtjkojjimlebmjaaDoor
open Go.RowKit Go.Shelf
set_option linter.unusedVariables false

attribute [local go_sem] Oper.semAt_some

theorem KT.under {n₀ : Nat} {w w' : World} (h : KT w) (h0 : 0 < n₀) (hb : Below n₀ w w') : KT w' := ⟨Nat.lt_of_lt_of_le h.1 hb.size, fun r hr => (hb.cell (p := ⟨0, r, none⟩) h0).trans (h.2 r hr)⟩

/-- The first k numbers. -/
def fin (n k : Nat) : List (Fin n) := (List.finRange n).take k
theorem fin_succ (n k : Nat) (h : k < n) : fin n (k + 1) = fin n k ++ [⟨k, h⟩] := by
  unfold fin
  rw [List.take_succ_eq_append_getElem (by simpa using h)]
  simp
theorem fin_length (n k : Nat) (h : k ≤ n) : (fin n k).length = k := by
  unfold fin
  simp
  omega
/-- What a round that goes on keeps. -/
def Kp (n₀ Ba : Nat) (W W' : World) : Prop := Below n₀ W W' ∧ W'.cell? ⟨Ba, 0, none⟩ = W.cell? ⟨Ba, 0, none⟩
def pe (a : UInt8) (n : Nat) (i : Fin n) : Array Value := #[.int .i64 (i.1 : Int), bv (pw a i.1)]

set_option maxRecDepth 100000 in
set_option maxHeartbeats 2000000 in
theorem pows1_in (m : Nat) (hm : 1 ≤ m) (l Bn Ba n₀ n : Nat) (a : UInt8) (hn : n ≤ 1000000) (h0 : 0 < n₀) (J Jx : List (Fin n) → World → Prop)
    (hY : ∀ pre x W, J pre W → pre.length < n → YieldAt Fence.wide (m - 1) Tryd.prog l (pe a n x) W fun e W' =>
      (e = .returned (.bool true) ∧ J (pre ++ [x]) W' ∧ Kp n₀ Ba W W') ∨ (e = .returned (.bool false) ∧ Jx (pre ++ [x]) W'))
    (W : World) (hK : KT W) (hBn : W.cell? ⟨Bn, 0, none⟩ = some (.int .i64 (n : Int))) (hBa : W.cell? ⟨Ba, 0, none⟩ = some (bv a)) (hJ : J [] W) :
    CallsIn Fence.wide m Tryd.prog 67 #[.func (.yield l) #[] #[], .pointer (some ⟨Bn, 0, none⟩), .pointer (some ⟨Ba, 0, none⟩)] W fun e W' => (∃ v, e = .returned v) ∧
      ((∃ ys, ys = fin n n ∧ J ys W') ∨ (∃ pre, (∃ k, k ≤ n ∧ pre = fin n k) ∧ Jx pre W')) := by
  refine callsIn_of_wp Tryd.func67 rfl trivial ?_ rfl
  simp only [Tryd.ntmps67, List.size_toArray, List.length_cons, List.length_nil, Nat.reduceAdd, Nat.reduceSub, Array.replicate_succ, Array.replicate_zero, List.push_toArray, List.append_toArray, List.nil_append, List.cons_append]
  gi_wp2
  gi_loopw [4, 7] (fun p i wr => ∃ k : Nat, k ≤ n ∧ i = .int .i64 k ∧ p = bv (pw a k) ∧ J (fin n k) wr ∧ Kp n₀ Ba W wr) (fun _ i _ => n - (intOf i).toNat)
  case atStart => exact ⟨0, Nat.zero_le _, rfl, rfl, hJ, Below.refl _ _, rfl⟩
  case round =>
    obtain ⟨k, hk, rfl, rfl, hJs, hkp⟩ := hrel
    by_cases hlt : k < n
    · obtain ⟨fn, tmps, assign, body, hy, hR⟩ := hY _ ⟨k, hlt⟩ wr hJs (by rw [fin_length n k hk]; exact hlt)
      dsimp only [pe] at hy
      gi_wp2
      refine hR.mono ?_
      rintro e W3 (⟨rfl, hJ3, hk3⟩ | ⟨rfl, hJx3⟩)
      · have ha3 : W3.cell? ⟨Ba, 0, none⟩ = some (bv a) := by rw [hk3.2, hkp.2, hBa]
        have hb3 := hkp.1.trans hk3.1
        have HM := callsIn_wide (n := m - 1) |>.2 (mul_any (pw a k) a W3 (hK.under h0 hb3))
        gi_wp2
        refine ⟨trivial, HM.mono ?_⟩
        rintro e w' ⟨rfl, rfl⟩
        gi_wp2
        go_roundw
        case rel => exact ⟨k + 1, by omega, by simp, rfl, by rw [fin_succ n k hlt]; exact hJ3, hb3, hk3.2.trans hkp.2⟩
        case measure => simp [intOf]; omega
      · gi_wp2
        refine bodyPost_ret (results_none rfl _ _ _) rfl ?_
        exact ⟨⟨_, rfl⟩, .inr ⟨_, ⟨k + 1, by omega, (fin_succ n k hlt).symm⟩, hJx3⟩⟩
    · obtain rfl : k = n := by omega
      gi_wp2
      go_end0
      exact ⟨⟨_, rfl⟩, .inl ⟨_, rfl, hJs⟩⟩

set_option maxHeartbeats 1000000 in
theorem pows_in (m n : Nat) (a : UInt8) (w : World) :
    CallsIn Fence.wide m Tryd.prog 61 #[bv a, .int .i64 (n : Int)] w fun e w' => e = .returned (.func (.func 67) #[] #[.pointer (some ⟨w.heap.size + 1, 0, none⟩), .pointer (some ⟨w.heap.size, 0, none⟩)]) ∧
      w' = (w.alloc (.cells #[bv a] 5)).alloc (.cells #[.int .i64 (n : Int)] 3) := by
  refine callsIn_of_wp Tryd.func61 rfl trivial ?_ rfl
  simp only [Tryd.ntmps61, List.size_toArray, List.length_cons, List.length_nil, Nat.reduceAdd, Nat.reduceSub, Array.replicate_succ, Array.replicate_zero, List.push_toArray, List.append_toArray, List.nil_append, List.cons_append]
  unfold bv
  gi_wp2
  go_ret
  exact ⟨rfl, rfl⟩

theorem pows_stops (m : Nat) (hm : 1 ≤ m) (Bn Ba n₀ n : Nat) (a : UInt8) (hn : n ≤ 1000000) (h0 : 0 < n₀) (w : World) (hn₀ : n₀ ≤ w.heap.size) (hK : KT w)
    (hBn : w.cell? ⟨Bn, 0, none⟩ = some (.int .i64 (n : Int))) (hBa : w.cell? ⟨Ba, 0, none⟩ = some (bv a)) (hn1 : Bn < w.heap.size) (ha1 : Ba < w.heap.size) :
    SeqStopsK Fence.wide m Tryd.prog 67 #[.pointer (some ⟨Bn, 0, none⟩), .pointer (some ⟨Ba, 0, none⟩)] (pe a n) (Kp n₀ Ba) (fun ys => ys = fin n n) (fun pre => ∃ k, k ≤ n ∧ pre = fin n k) n w := fun l J Jx W hW _ _ hY hJ =>
  pows1_in m hm l Bn Ba n₀ n a hn h0 J Jx hY W (hK.below hW) ((hW.cell (p := ⟨Bn, 0, none⟩) hn1).trans hBn) ((hW.cell (p := ⟨Ba, 0, none⟩) ha1).trans hBa) hJ
end Go.Proofs.YtjkojjimlebmjaaDoor
