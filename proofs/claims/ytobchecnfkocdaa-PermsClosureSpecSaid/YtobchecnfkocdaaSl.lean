/- Slices of bytes that came in. -/
import Derived.Test.YtobchecnfkocdaaMem
import Derived.Laws.AppendOwnNone
import Derived.Laws.OwnMore
namespace Go.Proofs.Ytobchecnfkocdaa
open Go.RowKit
set_option linter.unusedVariables false

/-- A slice of bytes that came in: its bytes, its capacity, and nil has none. -/
def Sl (w : World) (A : Option Addr) (l : List UInt8) (c : Nat) : Prop := Bs w.heap.size w A l ∧ l.length ≤ c ∧ c ≤ maxLen ∧ (A = none → l = [] ∧ c = 0)
theorem Sl.up {w w' : World} {A : Option Addr} {l : List UInt8} {c : Nat} (h : Sl w A l c) (hb : Below w.heap.size w w') : Sl w' A l c := ⟨h.1.up hb, h.2⟩
theorem Sl.news {w : World} {a : Addr} {l : List UInt8} {c : Nat} (h : Sl w (some a) l c) : ∀ j v, (l.map bv)[j]? = some v → w.cell? (a.add j) = some v := by
  intro j v hv
  have hl : 0 < l.length := by
    have := (List.getElem?_eq_some_iff.1 hv).1
    rw [List.length_map] at this
    omega
  obtain ⟨b, off, e, _, hc⟩ := h.1 hl
  injection e with e
  subst e
  rw [List.getElem?_map] at hv
  cases hu : l[j]? with
  | none => rw [hu] at hv; cases hv
  | some y =>
    rw [hu] at hv
    injection hv with hv
    rw [add_off, ← hv]
    exact hc j y hu

theorem wp_append_sl {base : Nat} {w : World} {o : Oper} {a : Act} {K : Act → World → Prop} {Q : Exit → Act → World → Prop} (s x : Operand)
    (ho : o.op = .call { callee := .builtin .append, args := #[s, x], argTypes := #[69, 69] })
    (v : Value) (n : Nat) (xs : List Value) (hs : a.eval s = v) (hown : w.ownsRow base 5 1 v n xs)
    (A : Option Addr) (l : List UInt8) (m c : Nat) (hm : l.length = m) (hx : a.eval x = .slice A m c) (hS : Sl w A l c) (hn : n + m ≤ 1000000) (hbase : base ≤ w.heap.size)
    (h : ∀ A' c' w', w'.ownsRow base 5 1 (.slice A' (n + m) c') (n + m) (xs ++ l.map bv) → w.grownBy w' v.ownBlock → K (a.put o.dst (.slice A' (n + m) c')) w') : o.wp Try.prog a w K Q := by
  obtain ⟨i0, hi0, hz0, hz1, hz2⟩ := info_parts u8_info
  cases A with
  | none =>
    obtain ⟨rfl, rfl⟩ := hS.2.2.2 rfl
    obtain rfl : m = 0 := by simpa using hm.symm
    obtain ⟨A1, c1, hv⟩ := own_form hown
    have hrun := run_append_owned_none (P := Try.prog) (w := w) base 69 o.type 5 i0 1 Try.underlying69 hi0 v n xs hown
    unfold Oper.wp
    simp [execOp, ho, resolve, invoke, builtin, hs, hx, hrun, Result.andThen]
    subst hv
    exact h A1 c1 w (by simpa using hown) (World.grownBy.refl w _)
  | some ad =>
    refine wp_append_own w s x 69 ho base 5 i0 (.int .u8 0) 1 1 Try.underlying69 hi0 hz0 hz1 hz2 rfl (by decide) v n xs hs hown ad m c (l.map bv) hx (by rw [List.length_map, hm, Nat.mul_one]) hS.news (bv_one l) (le_maxLen (by omega)) (by omega) hbase ?_
    intro v' w' ho' hg' _
    obtain ⟨A1, c1, rfl⟩ := own_form ho'
    exact h A1 c1 w' ho' hg'

theorem step_append_sl {base : Nat} {w : World} {ops : Array Oper} {o : Oper} {a : Act} {K : Act → World → Prop} {Q : Exit → Act → World → Prop} {E : Prop} (hgd : o.guard = none) (s x : Operand)
    (ho : o.op = .call { callee := .builtin .append, args := #[s, x], argTypes := #[69, 69] })
    (v : Value) (n : Nat) (xs : List Value) (hs : a.eval s = v) (hown : w.ownsRow base 5 1 v n xs)
    (A : Option Addr) (l : List UInt8) (m c : Nat) (hm : l.length = m) (hx : a.eval x = .slice A m c) (hS : Sl w A l c) (N : Nat) (hN : n + m = N) (hn : N ≤ 1000000) (hbase : base ≤ w.heap.size)
    (h : ∀ A' c' w', w'.ownsRow base 5 1 (.slice A' N c') N (xs ++ l.map bv) → w.grownBy w' v.ownBlock → K (a.put o.dst (.slice A' N c')) w') :
    if Region.wanted o (yielded ops a.tmps) = true then Oper.wp Try.prog o a w K Q else E := by
  have hw : Region.wanted o (yielded ops a.tmps) = true := by simp [Region.wanted, hgd]
  rw [if_pos hw]
  subst hN
  exact wp_append_sl s x ho v n xs hs hown A l m c hm hx hS hn hbase h
theorem wpList_append_sl {base : Nat} {w : World} {ops : Array Oper} {rest : List Oper} {o : Oper} {a : Act} {Q : Exit → Act → World → Prop} (hgd : o.guard = none) (s x : Operand)
    (ho : o.op = .call { callee := .builtin .append, args := #[s, x], argTypes := #[69, 69] })
    (v : Value) (n : Nat) (xs : List Value) (hs : a.eval s = v) (hown : w.ownsRow base 5 1 v n xs)
    (A : Option Addr) (l : List UInt8) (m c : Nat) (hm : l.length = m) (hx : a.eval x = .slice A m c) (hS : Sl w A l c) (hn : n + m ≤ 1000000) (hbase : base ≤ w.heap.size)
    (h : ∀ A' c' w', w'.ownsRow base 5 1 (.slice A' (n + m) c') (n + m) (xs ++ l.map bv) → w.grownBy w' v.ownBlock → wpList Try.prog ops Q rest (a.put o.dst (.slice A' (n + m) c')) w') : wpList Try.prog ops Q (o :: rest) a w := by
  refine wpList_plain hgd fun K hK => ?_
  exact wp_append_sl s x ho v n xs hs hown A l m c hm hx hS hn hbase (fun A' c' w' h1 h2 => hK _ _ (h A' c' w' h1 h2))
/-- The empty row that a call lays. -/
theorem own_empty {base : Nat} (w : World) (hb : base ≤ w.heap.size) : (w.alloc (.cells #[] 5)).ownsRow base 5 1 (.slice (some ⟨w.heap.size, 0, none⟩) 0 0) 0 [] :=
  World.ownsRow_lit w #[] 0 hb (by unfold maxLen; omega) rfl
end Go.Proofs.Ytobchecnfkocdaa
