/- append of new zero bytes (slices.Grow). -/
import Derived.Test.YtjkojjimlebmjaaDoorLit
import Derived.Test.YtjkojjimlebmjaaDoorCollL
import Derived.Laws.AppendOwnNone
namespace Go.Proofs.YtjkojjimlebmjaaDoor
open Go.RowKit
set_option linter.unusedVariables false

def rowOf (l : List UInt8) : Array Value := (l.map bv).toArray
theorem made_u8 (n : Nat) : madeCells (Value.int .u8 0).cells n = rowOf (List.replicate n 0) := by
  unfold madeCells rowOf
  apply Array.ext_getElem?
  intro i
  by_cases h : i < n
  · simp [h, Value.cells, bv, Nat.mod_one]
  · simp [h]
/-- n bytes 0. -/
def zrow (n : Nat) : Array Value := rowOf (List.replicate n 0)

theorem run_append_make (w : World) (n : Nat) (h0 : 0 < n) (hn : n ≤ 1000000000) :
    (Builtin.append_ #[23, 3] 23 #[.slice none 0 0, .int .i64 (n : Int)]).run Tryd.prog w =
      .ok (.slice (some ⟨w.heap.size, 0, none⟩) n (grownCap w n 0 5)) (w.drew.alloc (.cells (zrow (grownCap w n 0 5)) 5)) := by
  obtain ⟨i0, hi0, hz0, hz1, hz2⟩ := info_parts u8_info
  have hw : IntKind.i64.wrap (n : Int) = (n : Int) := by rw [IntKind.wrap_i64]; omega
  have hge := grownCap_ge w n 0 5
  have h1 : ¬ ((n : Int) < 0) := by omega
  have h2 : ¬ (n = 0) := by omega
  have h3 : ¬ (281474976710656 < (n : Int)) := by omega
  have h4 : ¬ (9223372036854775807 < (n : Int)) := by omega
  have h5 : ¬ (281474976710656 < Builtin.nextslicecap n 0) := by rw [nextslicecap_zero h0]; omega
  have hz : ∀ m, Builtin.zeroCells (Value.int .u8 0).cells m = zrow m := by
    intro m
    rw [show zrow m = rowOf (List.replicate m 0) from rfl, ← made_u8]
    simp [Builtin.zeroCells, madeCells, Value.cells]
  have hcells : (Builtin.zeroCells (Value.int .u8 0).cells n ++ Builtin.zeroCells (Value.int .u8 0).cells (grownCap w n 0 5 - n)) = zrow (grownCap w n 0 5) := by
    rw [hz, hz]
    unfold zrow rowOf
    rw [List.append_toArray, ← List.map_append, List.replicate_append_replicate, Nat.add_sub_cancel' hge]
  rw [← hcells]
  simp [Builtin.append_, run_underlying Tryd.underlying23, run_underlying Tryd.underlying3, sizeOf, typeInfo, zeroValue, hi0, hz0, hz1, hz2, asInt, asIntOf, hw, Builtin.lenOf, h1, h2, h3, h4, h5, Question.forced, run_firstCells_none, newRow, grownCap]

theorem wpList_append_make {w : World} {ops : Array Oper} {rest : List Oper} {o : Oper} {a : Act} {Q : Exit → Act → World → Prop} (hgd : o.guard = none) (s x : Operand)
    (ho : o.op = .call { callee := .builtin .append, args := #[s, x], argTypes := #[23, 3] }) (hty : o.type = 23) (hs : a.eval s = .slice none 0 0) (n : Nat) (hx : a.eval x = .int .i64 (n : Int)) (h0 : 0 < n) (hn : n ≤ 1000000000)
    (h : wpList Tryd.prog ops Q rest (a.put o.dst (.slice (some ⟨w.heap.size, 0, none⟩) n (grownCap w n 0 5))) (w.drew.alloc (.cells (zrow (grownCap w n 0 5)) 5))) : wpList Tryd.prog ops Q (o :: rest) a w := by
  refine wpList_plain hgd fun K hK => ?_
  unfold Oper.wp
  simp [execOp, ho, hty, resolve, invoke, builtin, hs, hx, run_append_make w n h0 hn, Result.andThen]
  exact hK _ _ h

def GrowPost (n : Nat) (w : World) (e : Ending) (w' : World) : Prop :=
  ∃ cap, e = .returned (.slice (some ⟨w.heap.size, 0, none⟩) 0 cap) ∧ w'.ownsRow w.heap.size 5 1 (.slice (some ⟨w.heap.size, 0, none⟩) 0 cap) 0 [] ∧ n ≤ cap ∧ Below w.heap.size w w'

set_option maxRecDepth 100000 in
theorem grow_any (n : Nat) (w : World) (h0 : 0 < n) (hn : n ≤ 1000000000) :
    Calls Tryd.prog 42 #[.slice none 0 0, .int .i64 n] w (GrowPost n w) := by
  have hge := grownCap_ge w n 0 5
  have hcm : grownCap w n 0 5 ≤ maxLen := grownCap_le_maxLen w n 0 5 (le_maxLen (by omega))
  have hfin : GrowPost n w (.returned (.slice (some ⟨w.heap.size, 0, none⟩) 0 (grownCap w n 0 5))) (w.drew.alloc (.cells (zrow (grownCap w n 0 5)) 5)) := by
    refine ⟨_, rfl, ⟨rfl, .inr ⟨w.heap.size, _, zrow (grownCap w n 0 5), rfl, Nat.le_refl _, heap_alloc_new w.drew _, Nat.zero_le _, hcm, ?_, ?_⟩⟩, hge, ?_⟩
    · simp [zrow, rowOf]
    · simp
    · exact (Below.refl w.heap.size w).drew.alloc (Nat.le_refl _) _
  have HF := Lib.hid hfin
  have hn1 : (0 : Int) < (n : Int) := by omega
  unfold maxLen at hcm
  clear hfin
  go_enter Tryd.func42, Tryd.ntmps42
  go_wp2_with (refine wpList_append_make rfl (.tmp 20) (.tmp 21) rfl rfl rfl n rfl h0 hn ?_)
  go_ret
  exact HF.out
end Go.Proofs.YtjkojjimlebmjaaDoor
