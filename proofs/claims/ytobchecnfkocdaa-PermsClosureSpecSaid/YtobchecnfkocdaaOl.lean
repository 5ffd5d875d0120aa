/- Rows of lists of numbers that a call makes. -/
import Derived.Test.YtobchecnfkocdaaRi
import Derived.Test.YtobchecnfkocdaaRPr
import Derived.Test.YtobchecnfkocdaaGs
import Derived.Lib.OwnKind
namespace Go.Proofs.Ytobchecnfkocdaa
open Go.RowKit
set_option linter.unusedVariables false
set_option linter.unusedSimpArgs false

theorem ri_info : (Try.prog.info? 22).map (fun i => (i.zero, i.size, i.bytes)) = some (some (.slice none 0 0), 1, 24) := by kernel_rfl
/-- The block of an address holds numbers. -/
def Tb (w : World) (A : Option Addr) : Prop := ∀ a, A = some a → ∃ cs fz, w.heap[a.block]? = some (.cells cs 3 fz)
theorem Tb.up {w w' : World} {A : Option Addr} (h : Tb w A) (hb : Below w.heap.size w w') : Tb w' A := fun a e => by
  obtain ⟨cs, fz, hh⟩ := h a e
  exact ⟨cs, fz, (hb.block _ (heap_lt hh)).trans hh⟩
theorem Tb.of_own {w : World} {B n c : Nat} {A : Option Addr} {xs : List Value} (h : w.ownsRow B 3 1 (.slice A n c) n xs) : Tb w A := fun a e => by
  subst e
  exact Lib.ownsRow_kind h a.block rfl
/-- What changes is no block of numbers. -/
def Noi (w : World) (row : Option Nat) : Prop := ∀ g, row = some g → ∀ cs fz, w.heap[g]? ≠ some (.cells cs 3 fz)
theorem Noi.own {w : World} {B n s : Nat} {t : TypeId} {v : Value} {xs : List Value} (h : w.ownsRow B t s v n xs) (ht : t ≠ 3) : Noi w v.ownBlock := fun g e cs fz e2 => by
  obtain ⟨c, fz', hh⟩ := Lib.ownsRow_kind h g e
  rw [hh] at e2
  injection e2 with e2
  injection e2 with _ e2
  exact ht e2
theorem Noi.box {w : World} {b : Nat} {cs : Array Value} {t : TypeId} (h : Box w b cs t) (ht : t ≠ 3) : Noi w (some b) := fun g e cs' fz e2 => by
  injection e with e
  subst e
  unfold Box at h
  rw [h] at e2
  injection e2 with e2
  injection e2 with _ e2
  exact ht e2
theorem Tb.grown {w w' : World} {A : Option Addr} {row : Option Nat} (h : Tb w A) (hg : w.grownBy w' row) (hn : Noi w row) : Tb w' A := fun a e => by
  obtain ⟨cs, fz, hh⟩ := h a e
  exact ⟨cs, fz, (hg.block _ (heap_lt hh) (fun e2 => hn _ e2.symm _ _ hh)).trans hh⟩
theorem Si.grown {w w' : World} {A : Option Addr} {l : List Int} {c : Nat} {row : Option Nat} (h : Si w A l c) (ht : Tb w A) (hg : w.grownBy w' row) (hn : Noi w row) : Si w' A l c := by
  refine ⟨fun hl => ?_, h.2⟩
  obtain ⟨b, off, e, h1, h2⟩ := h.1 hl
  refine ⟨b, off, e, Nat.lt_of_lt_of_le h1 hg.size, fun j u hu => hg.cell (h2 j u hu) (fun e2 => ?_)⟩
  obtain ⟨cs, fz, hh⟩ := ht _ e
  exact hn _ e2.symm _ _ hh

/-- A row of the call's own with lists of numbers. -/
def OL (B : Nat) (w : World) (A : Option Addr) (n c : Nat) (ls : List (List Int)) : Prop :=
  ls.length = n ∧ ∃ vs, w.ownsRow B 22 1 (.slice A n c) n vs ∧ ∀ (i : Nat) (l : List Int), ls[i]? = some l → ∃ A' c', vs[i]? = some (.slice A' l.length c') ∧ Si w A' l c' ∧ Tb w A'
theorem OL.nil (B : Nat) (w : World) : OL B w none 0 0 [] := ⟨rfl, [], World.ownsRow_nil w _ _ _, fun i l h => by cases h⟩
theorem OL.up {B n c : Nat} {w w' : World} {A : Option Addr} {ls : List (List Int)} (h : OL B w A n c ls) (hb : Below w.heap.size w w') : OL B w' A n c ls := by
  obtain ⟨h0, vs, h1, h2⟩ := h
  refine ⟨h0, vs, own_below h1 hb, fun i l hi => ?_⟩
  obtain ⟨A', c', e1, e2, e3⟩ := h2 i l hi
  exact ⟨A', c', e1, e2.up hb, e3.up hb⟩
theorem OL.own {B n c : Nat} {w : World} {A : Option Addr} {ls : List (List Int)} (h : OL B w A n c ls) : ∃ vs, w.ownsRow B 22 1 (.slice A n c) n vs := by
  obtain ⟨_, vs, h1, _⟩ := h
  exact ⟨vs, h1⟩
/-- A block of another kind changes. -/
theorem OL.kept {B n c g : Nat} {w w' : World} {A : Option Addr} {ls : List (List Int)} (h : OL B w A n c ls) (hg : w.grownBy w' (some g)) {cs : Array Value} {t : TypeId} (hb : Box w g cs t) (ht : t ≠ 3) (ht2 : t ≠ 22) : OL B w' A n c ls := by
  obtain ⟨h0, vs, h1, h2⟩ := h
  refine ⟨h0, vs, h1.kept hg (.inr (box_own hb h1 ht2)), fun i l hi => ?_⟩
  obtain ⟨A', c', e1, e2, e3⟩ := h2 i l hi
  exact ⟨A', c', e1, e2.grown e3 hg (Noi.box hb ht), e3.grown hg (Noi.box hb ht)⟩
/-- .. a row of numbers of the call's own, which is new. -/
theorem OL.keptB {B B2 n c : Nat} {w0 w w' : World} {A : Option Addr} {ls : List (List Int)} (h : OL B w0 A n c ls) (hb : Below B2 w0 w') (hB : w0.heap.size ≤ B2) : OL B w' A n c ls := h.up (hb.mono hB)
theorem OL.ri {B n c : Nat} {w : World} {A : Option Addr} {ls : List (List Int)} (h : OL B w A n c ls) : RI w A ls c := by
  obtain ⟨h0, vs, h1, h2⟩ := h
  subst h0
  rcases h1.2 with ⟨hv, hn⟩ | ⟨g, cap, cur, hv, _, hg, hn, hc, _⟩
  · injection hv with hA hl hc
    have hl0 : ls = [] := List.eq_nil_of_length_eq_zero hn
    exact ⟨fun hp => absurd hp (by omega), by omega, by unfold maxLen; omega, fun _ => ⟨hl0, hc⟩⟩
  · injection hv with hA hl hcc
    subst hA hcc
    refine ⟨fun hp => ⟨g, 0, rfl, heap_lt hg, fun i l hi => ?_⟩, hn, hc, fun e => by cases e⟩
    obtain ⟨A', c', e1, e2, _⟩ := h2 i l hi
    have hi2 := (List.getElem?_eq_some_iff.1 hi).1
    refine ⟨A', c', ?_, e2⟩
    rw [Nat.zero_add, h1.cellAt i (by omega)]
    exact e1

/-- append of a list of numbers. -/
theorem wp_append_ol {B : Nat} {w : World} {o : Oper} {a : Act} {K : Act → World → Prop} {Q : Exit → Act → World → Prop} (s x : Operand)
    (ho : o.op = .call { callee := .builtin .append, args := #[s, x], argTypes := #[31, 31] })
    (A : Option Addr) (n c : Nat) (ls : List (List Int)) (hs : a.eval s = .slice A n c) (hO : OL B w A n c ls) (q : Nat) (A1 : Option Addr) (l : List Int) (m c1 : Nat) (hm : l.length = m) (hx : a.eval x = .slice (some ⟨q, 0, none⟩) 1 1) (hq : Box w q #[.slice A1 m c1] 22)
    (hl : Si w A1 l c1) (ht : Tb w A1) (hn : n ≤ 900000) (hbase : B ≤ w.heap.size)
    (h : ∀ g c' w', OL B w' (some ⟨g, 0, none⟩) (n + 1) c' (ls ++ [l]) → Below B w w' → (∀ b cs t, t ≠ 22 → Box w b cs t → Box w' b cs t) → K (a.put o.dst (.slice (some ⟨g, 0, none⟩) (n + 1) c')) w') : o.wp Try.prog a w K Q := by
  obtain ⟨i0, hi0, hz0, hz1, hz2⟩ := info_parts ri_info
  obtain ⟨h0, vs, h1, h2⟩ := hO
  subst hm
  refine wp_append_own w s x 31 ho B 22 i0 (.slice none 0 0) 1 24 Try.underlying31 hi0 hz0 hz1 hz2 rfl (by decide) _ n vs hs h1 ⟨q, 0, none⟩ 1 1 [.slice A1 l.length c1] hx rfl (World.news_of_block hq) (by intro v hv; simp at hv; rw [hv]; rfl) (le_maxLen (by omega)) (by omega) hbase ?_
  intro v' w' ho' hg' _
  obtain ⟨g, c', rfl⟩ := Go.ownsRow_succ ho'
  have hno : Noi w (Value.slice A n c).ownBlock := Noi.own h1 (by decide)
  have hvl : vs.length = n := by have := h1.1; omega
  refine h g c' w' ⟨by rw [List.length_append, List.length_singleton, h0], _, ho', fun i l' hi => ?_⟩ ((Below.refl B w).grown hg' hbase (fun i hi => (h1.lt i hi).1)) (fun b cs t htt hbx => hbx.grown hg' (fun e => box_own hbx h1 htt e.symm))
  by_cases hlt : i < n
  · rw [List.getElem?_append_left (by omega)] at hi
    obtain ⟨A', c', e1, e2, e3⟩ := h2 i l' hi
    refine ⟨A', c', ?_, e2.grown e3 hg' hno, e3.grown hg' hno⟩
    rw [List.getElem?_append_left (by omega)]
    exact e1
  · have hi2 := (List.getElem?_eq_some_iff.1 hi).1
    rw [List.length_append, List.length_singleton] at hi2
    have hin : i = n := by omega
    rw [List.getElem?_append_right (by omega), show i - ls.length = 0 by omega] at hi
    cases hi
    refine ⟨A1, c1, ?_, hl.grown ht hg' hno, ht.grown hg' hno⟩
    rw [List.getElem?_append_right (by omega), show i - vs.length = 0 by omega]
    rfl
theorem wpList_append_ol {B : Nat} {w : World} {ops : Array Oper} {rest : List Oper} {o : Oper} {a : Act} {Q : Exit → Act → World → Prop} (hgd : o.guard = none) (s x : Operand)
    (ho : o.op = .call { callee := .builtin .append, args := #[s, x], argTypes := #[31, 31] })
    (A : Option Addr) (n c : Nat) (ls : List (List Int)) (hs : a.eval s = .slice A n c) (hO : OL B w A n c ls) (q : Nat) (A1 : Option Addr) (l : List Int) (m c1 : Nat) (hm : l.length = m) (hx : a.eval x = .slice (some ⟨q, 0, none⟩) 1 1) (hq : Box w q #[.slice A1 m c1] 22)
    (hl : Si w A1 l c1) (ht : Tb w A1) (hn : n ≤ 900000) (hbase : B ≤ w.heap.size)
    (h : ∀ g c' w', OL B w' (some ⟨g, 0, none⟩) (n + 1) c' (ls ++ [l]) → Below B w w' → (∀ b cs t, t ≠ 22 → Box w b cs t → Box w' b cs t) → wpList Try.prog ops Q rest (a.put o.dst (.slice (some ⟨g, 0, none⟩) (n + 1) c')) w') : wpList Try.prog ops Q (o :: rest) a w := by
  refine wpList_plain hgd fun K hK => ?_
  exact wp_append_ol s x ho A n c ls hs hO q A1 l m c1 hm hx hq hl ht hn hbase (fun g c' w' h1 h2 h3 => hK _ _ (h g c' w' h1 h2 h3))
theorem step_append_ol {B : Nat} {w : World} {ops : Array Oper} {o : Oper} {a : Act} {K : Act → World → Prop} {Q : Exit → Act → World → Prop} {E : Prop} (hgd : o.guard = none) (s x : Operand)
    (ho : o.op = .call { callee := .builtin .append, args := #[s, x], argTypes := #[31, 31] })
    (A : Option Addr) (n c : Nat) (ls : List (List Int)) (hs : a.eval s = .slice A n c) (hO : OL B w A n c ls) (q : Nat) (A1 : Option Addr) (l : List Int) (m c1 : Nat) (hm : l.length = m) (hx : a.eval x = .slice (some ⟨q, 0, none⟩) 1 1) (hq : Box w q #[.slice A1 m c1] 22)
    (hl : Si w A1 l c1) (ht : Tb w A1) (hn : n ≤ 900000) (hbase : B ≤ w.heap.size)
    (h : ∀ g c' w', OL B w' (some ⟨g, 0, none⟩) (n + 1) c' (ls ++ [l]) → Below B w w' → (∀ b cs t, t ≠ 22 → Box w b cs t → Box w' b cs t) → K (a.put o.dst (.slice (some ⟨g, 0, none⟩) (n + 1) c')) w') :
    if Region.wanted o (yielded ops a.tmps) = true then Oper.wp Try.prog o a w K Q else E := by
  have hw : Region.wanted o (yielded ops a.tmps) = true := by simp [Region.wanted, hgd]
  rw [if_pos hw]
  exact wp_append_ol s x ho A n c ls hs hO q A1 l m c1 hm hx hq hl ht hn hbase h
end Go.Proofs.Ytobchecnfkocdaa
