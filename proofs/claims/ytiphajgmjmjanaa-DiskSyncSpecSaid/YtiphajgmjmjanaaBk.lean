/- slices.Backward: the iterator. -/
import Derived.RangeFuncNested
import Derived.RangeFuncBound
import Derived.RangeFuncCalls
import Derived.RangeFuncLeaves
import Derived.RangeFuncBox
import Derived.Shelf.Abstract
import Derived.Shelf.RegionOpen
import Derived.WalkKit
import Derived.OwnWalkIn
import Derived.TacticsInMore
import Derived.LoopNIn
import Derived.LoopIn
import Derived.Test.YtiphajgmjmjanaaRr
namespace Go.Proofs.Ytiphajgmjmjanaa
open Go.RowKit Go.Shelf
set_option linter.unusedVariables false

attribute [local go_sem] Oper.semAt_some

/-- The first k numbers. -/
def fin (n k : Nat) : List (Fin n) := (List.finRange n).take k
theorem fin_succ (n k : Nat) (h : k < n) : fin n (k + 1) = fin n k ++ [⟨k, h⟩] := by
  unfold fin
  rw [List.take_succ_eq_append_getElem (by simpa using h)]
  simp
theorem fin_length (n k : Nat) (h : k ≤ n) : (fin n k).length = k := by
  unfold fin
  simp
  omega
/-- What a round that goes on keeps. -/
def Kp (n₀ Ba : Nat) (W W' : World) : Prop := Below n₀ W W' ∧ W'.cell? ⟨Ba, 0, none⟩ = W.cell? ⟨Ba, 0, none⟩
/-- What round j hands out: an index, and the write there. -/
def wv (f : Nat → Int × Option Addr × Nat) (i : Nat) : Value := .agg #[.int .i64 (f i).1, .slice (f i).2.1 128 (f i).2.2]
def we (f : Nat → Int × Option Addr × Nat) (m : Nat) (j : Fin m) : Array Value := #[.int .i64 ((m - 1 - j.1 : Nat) : Int), wv f (m - 1 - j.1)]

set_option maxRecDepth 100000 in
set_option maxHeartbeats 2000000 in
theorem back1_in (n : Nat) (hn : 1 ≤ n) (l Bb n₀ m k0 b off : Nat) (f : Nat → Int × Option Addr × Nat) (hm : m ≤ 1000000) (J Jx : List (Fin m) → World → Prop)
    (hY : ∀ pre x W, J pre W → pre.length < m → YieldAt Fence.wide (n - 1) Try.prog l (we f m x) W fun e W' =>
      (e = .returned (.bool true) ∧ J (pre ++ [x]) W' ∧ Kp n₀ Bb W W') ∨ (e = .returned (.bool false) ∧ Jx (pre ++ [x]) W'))
    (W : World) (hb0 : b < n₀) (hc : ∀ i, i < m → W.cell? ⟨b, off + i * 2, none⟩ = some (.int .i64 (f i).1) ∧ W.cell? ⟨b, off + i * 2 + 1, none⟩ = some (.slice (f i).2.1 128 (f i).2.2))
    (B : Option Addr) (hA : 0 < m → B = some ⟨b, off, none⟩) (hB : W.cell? ⟨Bb, 0, none⟩ = some (.slice B m k0)) (hJ : J [] W) :
    CallsIn Fence.wide n Try.prog 40 #[.func (.yield l) #[] #[], .pointer (some ⟨Bb, 0, none⟩)] W fun e W' => (∃ v, e = .returned v) ∧
      ((∃ ys, ys = fin m m ∧ J ys W') ∨ (∃ pre, (∃ k, k ≤ m ∧ pre = fin m k) ∧ Jx pre W')) := by
  have HC := Lib.hid hc
  have HY := Lib.hid hY
  clear hc hY
  refine callsIn_of_wp Try.func40 rfl trivial ?_ rfl
  simp only [Try.ntmps40, List.size_toArray, List.length_cons, List.length_nil, Nat.reduceAdd, Nat.reduceSub, Array.replicate_succ, Array.replicate_zero, List.push_toArray, List.append_toArray, List.nil_append, List.cons_append]
  gi_wp2
  gi_loopw [3] (fun p wr => ∃ k : Nat, k ≤ m ∧ p = .int .i64 ((m : Int) - 1 - (k : Int)) ∧ J (fin m k) wr ∧ Kp n₀ Bb W wr) (fun p _ => ((intOf p) + 1).toNat)
  case atStart => exact ⟨0, Nat.zero_le _, by simp, hJ, Below.refl _ _, rfl⟩
  case round =>
    obtain ⟨k, hk, rfl, hJs, hkp⟩ := hrel
    by_cases hlt : k < m
    · obtain rfl := hA (by omega)
      obtain ⟨fn, tmps, assign, body, hy, hR⟩ := HY.out _ ⟨k, hlt⟩ wr hJs (by rw [fin_length m k hk]; exact hlt)
      have hbb : wr.cell? ⟨Bb, 0, none⟩ = some (.slice (some ⟨b, off, none⟩) m k0) := hkp.2.trans hB
      have c1 := (hkp.1.cell (p := ⟨b, off + (m - 1 - k) * 2, none⟩) hb0).trans (HC.out (m - 1 - k) (by omega)).1
      have c2 := (hkp.1.cell (p := ⟨b, off + (m - 1 - k) * 2 + 1, none⟩) hb0).trans (HC.out (m - 1 - k) (by omega)).2
      dsimp only [we, wv] at hy
      have hq : ((m - 1 - k : Nat) : Int) = (m : Int) - 1 - (k : Int) := by omega
      obtain ⟨q, hqq⟩ : ∃ q, m - 1 - k = q := ⟨_, rfl⟩
      rw [hqq] at c1 c2 hy hq
      rw [← hq]
      have hq1 : q < m := by omega
      have hq2 : (q : Int) < (m : Int) := by omega
      have hq3 : (0 : Int) ≤ (q : Int) := by omega
      have HQ := Lib.hid (And.intro hq (And.intro hJs hkp))
      have HR := Lib.hid hR
      clear hq hqq hJs hkp hR
      gi_wp2
      refine HR.out.mono ?_
      rintro e W3 (⟨rfl, hJ3, hk3⟩ | ⟨rfl, hJx3⟩)
      · have HQ3 := Lib.hid (And.intro hJ3 hk3)
        clear hJ3 hk3 hbb c1 c2
        gi_wp2
        go_roundw
        case rel => exact ⟨k + 1, by omega, by have := HQ.out.1; congr 1 <;> omega, by rw [fin_succ m k hlt]; exact HQ3.out.1, HQ.out.2.2.1.trans HQ3.out.2.1, HQ3.out.2.2.trans HQ.out.2.2.2⟩
        case measure => have := HQ.out.1; simp [intOf] <;> omega
      · gi_wp2
        refine bodyPost_ret (results_none rfl _ _ _) rfl ?_
        exact ⟨⟨_, rfl⟩, .inr ⟨_, ⟨k + 1, by omega, (fin_succ m k hlt).symm⟩, hJx3⟩⟩
    · obtain rfl : k = m := by omega
      have hz : (k : Int) - 1 - (k : Int) = -1 := by omega
      rw [hz]
      gi_wp2
      go_end0
      exact ⟨⟨_, rfl⟩, .inl ⟨_, rfl, hJs⟩⟩

theorem back_in (n : Nat) (B : Option Addr) (m k0 : Nat) (w : World) :
    CallsIn Fence.wide n Try.prog 36 #[.slice B m k0] w fun e w' => e = .returned (.func (.func 40) #[] #[.pointer (some ⟨w.heap.size, 0, none⟩)]) ∧
      w' = w.alloc (.cells #[.slice B m k0] 23) := by
  refine callsIn_of_wp Try.func36 rfl trivial ?_ rfl
  simp only [Try.ntmps36, List.size_toArray, List.length_cons, List.length_nil, Nat.reduceAdd, Nat.reduceSub, Array.replicate_succ, Array.replicate_zero, List.push_toArray, List.append_toArray, List.nil_append, List.cons_append]
  gi_wp2
  go_ret
  exact ⟨rfl, rfl⟩

theorem back_stops (n : Nat) (hn : 1 ≤ n) (Bb n₀ m k0 b off : Nat) (f : Nat → Int × Option Addr × Nat) (hm : m ≤ 1000000) (w : World) (hb0 : 0 < m → b < n₀) (hn₀ : n₀ ≤ w.heap.size)
    (hc : ∀ i, i < m → w.cell? ⟨b, off + i * 2, none⟩ = some (.int .i64 (f i).1) ∧ w.cell? ⟨b, off + i * 2 + 1, none⟩ = some (.slice (f i).2.1 128 (f i).2.2))
    (B : Option Addr) (hA : 0 < m → B = some ⟨b, off, none⟩) (hB : w.cell? ⟨Bb, 0, none⟩ = some (.slice B m k0)) (hb1 : Bb < w.heap.size) :
    SeqStopsK Fence.wide n Try.prog 40 #[.pointer (some ⟨Bb, 0, none⟩)] (we f m) (Kp n₀ Bb) (fun ys => ys = fin m m) (fun pre => ∃ k, k ≤ m ∧ pre = fin m k) m w := fun l J Jx W hW _ _ hY hJ => by
  by_cases h0 : 0 < m
  · exact back1_in n hn l Bb n₀ m k0 b off f hm J Jx hY W (hb0 h0) (fun i hi => ⟨(hW.cell (p := ⟨b, off + i * 2, none⟩) (Nat.lt_of_lt_of_le (hb0 h0) hn₀)).trans (hc i hi).1, (hW.cell (p := ⟨b, off + i * 2 + 1, none⟩) (Nat.lt_of_lt_of_le (hb0 h0) hn₀)).trans (hc i hi).2⟩) B hA ((hW.cell (p := ⟨Bb, 0, none⟩) hb1).trans hB) hJ
  · obtain rfl : m = 0 := by omega
    exact back1_in n hn l Bb (n₀ + b + 1) 0 k0 b off f hm J Jx (fun pre x W hj hl => absurd hl (by omega)) W (by omega) (fun i hi => by omega) B hA ((hW.cell (p := ⟨Bb, 0, none⟩) hb1).trans hB) hJ
end Go.Proofs.Ytiphajgmjmjanaa
