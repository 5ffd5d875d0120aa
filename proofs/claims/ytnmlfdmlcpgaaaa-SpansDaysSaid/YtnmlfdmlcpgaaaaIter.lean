/- spans: the iterator over the longest spans of a set. -/
import Derived.Test.YtnmlfdmlcpgaaaaEnd
import Derived.RangeFuncNested
import Derived.RangeFuncBound
import Derived.RangeFuncCalls
import Derived.RangeFuncLeaves
import Derived.Shelf.Abstract
import Derived.Shelf.RegionOpen
import Derived.OwnWalkIn
import Derived.TacticsInMore
import Derived.LoopNIn
import Derived.LoopIn
namespace Go.Proofs.Ytnmlfdmlcpgaaaa
open Go.RowKit Go.Shelf
set_option linter.unusedVariables false
attribute [local go_sem] Oper.semAt_some

/-- A span as a value. -/
def spv (s : Int × Int) : Value := .agg #[.int .i64 s.1, .int .i64 s.2]

/-- A whole array is loaded, within a fence. -/
theorem wpListIn_load_row {F : Fence} {n : Nat} {P : Program} {ops : Array Oper} {rest : List Oper} {o : Oper} {a : Act} {w : World} {Q : Exit → Act → World → Prop} (hgd : o.guard = none) (ty : TypeId) (x : Operand) (ho : o.op = .load ty x)
    (g : Nat) (hx : a.eval x = .pointer (some ⟨g, 0, none⟩)) (t : TypeId) (cs : Array Value) (fr : Nat × Nat) (d : TypeDesc) (hg : w.heap[g]? = some (.cells cs t fr))
    (hu : P.underlying ty = some d) (hd : (match d with | .struct _ | .array _ _ => true | _ => false) = true) (hi : (P.info? ty).map (·.size) = some cs.size)
    (h : wpListIn F n P ops Q rest (a.put o.dst (.agg cs)) w) : wpListIn F n P ops Q (o :: rest) a w := by
  refine wpListIn_plain hgd fun K hK => ?_
  unfold Oper.wpIn
  refine ⟨?_, ?_⟩
  · simp [Oper.about, ho]
  · rw [Oper.semAt_plain F _ _ (by rw [ho]; intro c hc; cases hc)]
    unfold execOp
    simp only [ho, hx, Instr.loadAt, Instr.sureAddr, Sem.run_bind, Sem.run_pure, Result.andThen_ok, run_loadVar_row w g t ty cs fr d hg hu hd hi]
    exact hK _ _ h

/-- What a round keeps for the iterator: its own set. -/
def KeepsBox (b : Nat) (cs : Array Value) (W W' : World) : Prop := Box W b cs 40 → Box W' b cs 40
theorem keepsBox_t {b : Nat} {cs : Array Value} {A B C : World} (h : KeepsBox b cs A B) (k : KeepsBox b cs B C) : KeepsBox b cs A C := fun x => k (h x)
theorem keepsBox_b {b : Nat} {cs : Array Value} {w : World} (hb : b < w.heap.size) (W : World) (l : Nat) (o o' : Obj) (hl : w.heap.size ≤ l) (h : W.heap[l]? = some o) (_ : o.isCells = false) (_ : o.isWalk = false) : KeepsBox b cs W (W.putObj l o') :=
  fun x => x.grown (grownBy_putObj' W l o') (fun e => by cases e; omega)
theorem abides_below {B : Nat} {J : List (Int × Int) → World → Prop} (h : AbidesFrom B J) {s : List (Int × Int)} {W W' : World} (hs : J s W) (hb : Below W.heap.size W W') : J s W' :=
  h s W W' none hs (below_row hb none) (fun r e => by cases e)

set_option maxRecDepth 100000 in
set_option maxHeartbeats 2000000 in
theorem spans1_in (n : Nat) (hn : 1 ≤ n) (l Bn : Nat) (f : Nat → Bool) (J Jx : List (Int × Int) → World → Prop) (B0 : Nat) (hJ : AbidesFrom B0 J)
    (hY : ∀ pre x W, J pre W → pre.length < 1024 → YieldAt Fence.wide (n - 1) Try.prog l #[spv x] W fun e W' =>
      (e = .returned (.bool true) ∧ J (pre ++ [x]) W' ∧ KeepsBox Bn (bcells f) W W') ∨ (e = .returned (.bool false) ∧ Jx (pre ++ [x]) W'))
    (W : World) (hBx : Box W Bn (bcells f) 40) (h0 : J [] W) :
    CallsIn Fence.wide n Try.prog 39 #[.func (.yield l) #[] #[], .pointer (some ⟨Bn, 0, none⟩)] W fun e W' => (∃ v, e = .returned v) ∧
      ((∃ ys, ys = nl f 1024 ∧ J ys W') ∨ (∃ pre, True ∧ Jx pre W')) := by
  have HG : Hid (∀ k, k < 1024 → (bcells f)[k]? = some (.bool (f k))) := fun k hk => arr_get _ _ _ hk
  have hne := bcells_ne f
  have HI := Lib.hid (size_set f)
  have HE := Lib.hid (fun j w hj => (callsIn_wide (n := n - 1)).2 (end_any f j w hj))
  generalize bcells f = CS at *
  have HJ := Lib.hid hJ
  have HY := Lib.hid hY
  clear hJ hY
  refine callsIn_of_wp Try.func39 rfl trivial ?_ rfl
  simp only [Try.ntmps39, List.size_toArray, List.length_cons, List.length_nil, Nat.reduceAdd, Nat.reduceSub, Array.replicate_succ, Array.replicate_zero, List.push_toArray, List.append_toArray, List.nil_append, List.cons_append]
  gi_wp2
  gi_loopw [3] (fun p wr => ∃ j : Nat, p = .int .i64 j ∧ j ≤ 1025 ∧ (j < 1024 → j = 0 ∨ f (j - 1) = false) ∧ J (nl f (min j 1024)) wr ∧ Box wr Bn CS 40) (fun p _ => 1025 - (intOf p).toNat)
  case atStart => exact ⟨0, rfl, by omega, fun _ => .inl rfl, h0, hBx⟩
  case round =>
    clear h0 hBx
    obtain ⟨j, rfl, hj, hcl, hJs, hBx⟩ := hrel
    have HCL := Lib.hid hcl
    have HBX := Lib.hid hBx
    have HJS := Lib.hid hJs
    clear hcl hBx hJs
    by_cases hlt : j < 1024
    · have cp := HBX.out.cell j
      rw [HG.out j hlt] at cp
      have b1 : (0 : Int) ≤ (j : Int) ∧ (j : Int) < 1024 := by omega
      cases hf : f j
      · have HF := Lib.hid hf
        rw [hf] at cp
        clear hf
        gi_wp2
        go_roundw
        case rel =>
          refine ⟨j + 1, by go_num, by omega, fun _ => .inr HF.out, ?_, HBX.out⟩
          have := HJS.out
          rw [Nat.min_eq_left (by omega)] at this ⊢
          rw [nl_no HF.out]
          exact this
        case measure => simp [intOf]; omega
      · have HF := Lib.hid hf
        rw [hf] at cp
        clear hf
        gi_wp2_with (first
            | (refine wpListIn_load_row rfl 40 (.tmp 1) rfl Bn rfl 40 CS (0, 0) _ HBX.out Try.underlying40 rfl HI.out ?_))
        refine ⟨trivial, (HE.out j wr (by omega)).mono ?_⟩
        rintro e w1 ⟨t, rfl, h1, h2, h3, h4, hb⟩
        have hjt : j < t := by
          by_cases e : j = t
          · subst e
            rw [HF.out] at h4
            exact absurd (h4 hlt) (by simp)
          · omega
        have hrun := nl_run (HCL.out hlt) hjt h3
        have hJ0 : J (nl f j) w1 := by
          have := HJS.out
          rw [Nat.min_eq_left (by omega)] at this
          exact abides_below HJ.out this hb
        obtain ⟨fn, tmps, assign, body, hy, hR⟩ := HY.out (nl f j) ((j : Int), (t : Int)) w1 hJ0 (by have := nl_length f j; omega)
        rw [← hrun] at hR
        dsimp only [spv] at hy
        have HB := Lib.hid (HBX.out.below hb)
        have H4 := Lib.hid h4
        clear h3 h4 hrun hJ0 HBX HE HJS HY cp
        gi_wp2
        refine hR.mono ?_
        rintro e W3 (⟨rfl, hJ3, hk3⟩ | ⟨rfl, hJx3⟩)
        · have HB3 : Hid (Box W3 Bn CS 40) := hk3 HB.out
          have HJ3 := Lib.hid hJ3
          clear hJ3 hk3
          gi_wp2
          go_roundw
          case rel =>
            refine ⟨t + 1, by go_num, by omega, fun h => .inr (H4.out (by omega)), ?_, HB3.out⟩
            have := HJ3.out
            by_cases e : t = 1024
            · subst e
              exact this
            · rw [Nat.min_eq_left (by omega), nl_no (H4.out (by omega))]
              exact this
          case measure => simp [intOf]; omega
        · gi_wp2
          refine bodyPost_ret (results_none rfl _ _ _) rfl ?_
          exact ⟨⟨_, rfl⟩, .inr ⟨_, trivial, hJx3⟩⟩
    · have hJ1 : J (nl f 1024) wr := by
        have := HJS.out
        rw [Nat.min_eq_right (by omega)] at this
        exact this
      gi_wp2
      go_end0
      exact ⟨⟨_, rfl⟩, .inl ⟨_, rfl, hJ1⟩⟩

set_option maxHeartbeats 1000000 in
set_option maxRecDepth 100000 in
theorem spans_any (f : Nat → Bool) (w : World) :
    Calls Try.prog 36 #[.agg (bcells f)] w fun e w' => e = .returned (.func (.func 39) #[] #[.pointer (some ⟨w.heap.size, 0, none⟩)]) ∧ w' = w.alloc (.cells (bcells f) 40) := by
  have hne := bcells_ne f
  generalize bcells f = CS at *
  go_enter Try.func36, Try.ntmps36
  go_wp2_with fail
  go_ret
  exact ⟨rfl, rfl⟩

theorem spans_stops (n : Nat) (hn : 1 ≤ n) (Bn : Nat) (f : Nat → Bool) (w : World) (hx : Box w Bn (bcells f) 40) :
    SeqStopsK Fence.wide n Try.prog 39 #[.pointer (some ⟨Bn, 0, none⟩)] (fun x : Int × Int => #[spv x]) (KeepsBox Bn (bcells f)) (fun ys => ys = nl f 1024) (fun _ => True) 1024 w := fun l J Jx W hW hJ _ hY h0 =>
  spans1_in n hn l Bn f J Jx W.heap.size hJ hY W (hx.below hW) h0
end Go.Proofs.Ytnmlfdmlcpgaaaa
