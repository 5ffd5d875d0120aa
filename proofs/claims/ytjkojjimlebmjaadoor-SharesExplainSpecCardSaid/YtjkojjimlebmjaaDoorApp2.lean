/- append that must grow: two slices that came in. -/
import Derived.Test.YtjkojjimlebmjaaDoorLit
import Derived.Test.YtjkojjimlebmjaaDoorFac
import Derived.ArgAppend
namespace Go.Proofs.YtjkojjimlebmjaaDoor
open Go.RowKit
set_option linter.unusedVariables false

theorem wp_append_two {w : World} {o : Oper} {a : Act} {K : Act → World → Prop} {Q : Exit → Act → World → Prop} (s x : Operand)
    (ho : o.op = .call { callee := .builtin .append, args := #[s, x], argTypes := #[23, 23] })
    (A : Option Addr) (l : List UInt8) (n c : Nat) (hn : l.length = n) (hs : a.eval s = .slice A n c) (hS : Sl w A l c)
    (A2 : Option Addr) (l2 : List UInt8) (m c2 : Nat) (hm : l2.length = m) (hx : a.eval x = .slice A2 m c2) (hS2 : Sl w A2 l2 c2) (hm0 : 0 < m) (hfull : c < n + m) (hb : n + m ≤ 1000000)
    (h : ∀ A' c' w', w'.ownsRow w.heap.size 5 1 (.slice A' (n + m) c') (n + m) ((l ++ l2).map bv) → Below w.heap.size w w' → K (a.put o.dst (.slice A' (n + m) c')) w') : o.wp Tryd.prog a w K Q := by
  obtain ⟨i0, hi0, hz0, hz1, hz2⟩ := info_parts u8_info
  obtain ⟨b2, off2, rfl, _, _⟩ := hS2.1 (by omega)
  have hn2 := hS2.news
  rw [List.map_append] at h
  cases A with
  | none =>
    obtain ⟨rfl, rfl⟩ := hS.2.2.2 rfl
    obtain rfl : n = 0 := by simpa using hn.symm
    obtain ⟨v', w', hrun, r1, r2, _⟩ := run_append_own (P := Tryd.prog) w w.heap.size 23 o.type 5 i0 (.int .u8 0) 1 1 Tryd.underlying23 hi0 hz0 hz1 hz2 rfl (by decide) (.slice none 0 0) 0 [] (World.ownsRow_nil w _ _ _) ⟨b2, off2, none⟩ m c2 (l2.map bv) (by rw [List.length_map, hm, Nat.mul_one]) hn2 (bv_one l2) (le_maxLen (by omega)) (by omega) (Nat.le_refl _)
    unfold Oper.wp
    simp [execOp, ho, resolve, invoke, builtin, hs, hx, hrun, Result.andThen]
    obtain ⟨A1, c1, rfl⟩ := own_form r1
    exact h A1 c1 w' (by simpa using r1) (grown_below r2)
  | some b =>
    obtain ⟨v', w', hrun, r1, r2⟩ := run_append_arg_grows (P := Tryd.prog) w 23 o.type 5 i0 (.int .u8 0) 1 1 Tryd.underlying23 hi0 hz0 hz1 hz2 rfl (by decide) b n c (l.map bv) (by rw [List.length_map, hn, Nat.mul_one]) hS.news ⟨b2, off2, none⟩ m c2 (l2.map bv) (by rw [List.length_map, hm, Nat.mul_one]) hn2 hfull (le_maxLen (by omega)) (by omega)
    unfold Oper.wp
    simp [execOp, ho, resolve, invoke, builtin, hs, hx, hrun, Result.andThen]
    obtain ⟨A1, c1, rfl⟩ := own_form r1
    exact h A1 c1 w' r1 (grown_below r2)

theorem step_append_two {w : World} {ops : Array Oper} {o : Oper} {a : Act} {K : Act → World → Prop} {Q : Exit → Act → World → Prop} {E : Prop} (hgd : o.guard = none) (s x : Operand)
    (ho : o.op = .call { callee := .builtin .append, args := #[s, x], argTypes := #[23, 23] })
    (A : Option Addr) (l : List UInt8) (n c : Nat) (hn : l.length = n) (hs : a.eval s = .slice A n c) (hS : Sl w A l c)
    (A2 : Option Addr) (l2 : List UInt8) (m c2 : Nat) (hm : l2.length = m) (hx : a.eval x = .slice A2 m c2) (hS2 : Sl w A2 l2 c2) (hm0 : 0 < m) (hfull : c < n + m) (N : Nat) (hN : n + m = N) (hb : N ≤ 1000000)
    (h : ∀ A' c' w', w'.ownsRow w.heap.size 5 1 (.slice A' N c') N ((l ++ l2).map bv) → Below w.heap.size w w' → K (a.put o.dst (.slice A' N c')) w') :
    if Region.wanted o (yielded ops a.tmps) = true then Oper.wp Tryd.prog o a w K Q else E := by
  have hw : Region.wanted o (yielded ops a.tmps) = true := by simp [Region.wanted, hgd]
  rw [if_pos hw]
  subst hN
  exact wp_append_two s x ho A l n c hn hs hS A2 l2 m c2 hm hx hS2 hm0 hfull hb h
end Go.Proofs.YtjkojjimlebmjaaDoor
