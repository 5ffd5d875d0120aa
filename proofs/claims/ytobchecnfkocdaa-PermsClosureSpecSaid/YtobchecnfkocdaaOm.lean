/- Rows of lists of numbers, of which some came in. -/
import Derived.Test.YtobchecnfkocdaaRPt
import Derived.Deep.AppendLies
namespace Go.Proofs.Ytobchecnfkocdaa
open Go.RowKit
set_option linter.unusedVariables false
set_option linter.unusedSimpArgs false

/-- The block of an address lies below B, or holds numbers. -/
def Tc (B : Nat) (w : World) (A : Option Addr) (n : Nat) : Prop := 0 < n → ∀ a, A = some a → a.block < w.heap.size ∧ (a.block < B ∨ ∃ cs fz, w.heap[a.block]? = some (.cells cs 3 fz))
theorem Tc.up {B n : Nat} {w w' : World} {A : Option Addr} (h : Tc B w A n) (hb : Below w.heap.size w w') : Tc B w' A n := fun hp a e => by
  obtain ⟨h1, h2⟩ := h hp a e
  refine ⟨Nat.lt_of_lt_of_le h1 hb.size, ?_⟩
  rcases h2 with h2 | ⟨cs, fz, hh⟩
  · exact .inl h2
  · exact .inr ⟨cs, fz, (hb.block _ h1).trans hh⟩
theorem Tc.of_tb {B n : Nat} {w : World} {A : Option Addr} (h : Tb w A) : Tc B w A n := fun _ a e => by
  obtain ⟨cs, fz, hh⟩ := h a e
  exact ⟨heap_lt hh, .inr ⟨cs, fz, hh⟩⟩
/-- What changes is a row of slices of the call's own. -/
def Nos (B : Nat) (w : World) (row : Option Nat) : Prop := ∀ g, row = some g → B ≤ g ∧ ∃ cs fz, w.heap[g]? = some (.cells cs 22 fz)
theorem Nos.own {B : Nat} {w : World} {n s : Nat} {v : Value} {xs : List Value} (h : w.ownsRow B 22 s v n xs) : Nos B w v.ownBlock := fun g e => ⟨(h.lt g e).1, Lib.ownsRow_kind h g e⟩
theorem Tc.far {B n : Nat} {w : World} {A : Option Addr} {row : Option Nat} (h : Tc B w A n) (hp : 0 < n) (hn : Nos B w row) {a : Addr} (e : A = some a) : some a.block ≠ row := fun e2 => by
  obtain ⟨h1, cs, fz, h2⟩ := hn _ e2.symm
  rcases (h hp a e).2 with h3 | ⟨cs', fz', h3⟩
  · omega
  · rw [h2] at h3
    injection h3 with h3
    injection h3 with _ h3
    exact absurd h3 (by decide)
theorem Tc.grown {B n : Nat} {w w' : World} {A : Option Addr} {row : Option Nat} (h : Tc B w A n) (hg : w.grownBy w' row) (hn : Nos B w row) : Tc B w' A n := fun hp a e => by
  obtain ⟨h1, h2⟩ := h hp a e
  refine ⟨Nat.lt_of_lt_of_le h1 hg.size, ?_⟩
  rcases h2 with h2 | ⟨cs, fz, hh⟩
  · exact .inl h2
  · exact .inr ⟨cs, fz, (hg.block _ h1 (h.far hp hn e)).trans hh⟩
theorem Si.grownc {B : Nat} {w w' : World} {A : Option Addr} {l : List Int} {c : Nat} {row : Option Nat} (h : Si w A l c) (ht : Tc B w A l.length) (hg : w.grownBy w' row) (hn : Nos B w row) : Si w' A l c := by
  refine ⟨fun hl => ?_, h.2⟩
  obtain ⟨b, off, e, h1, h2⟩ := h.1 hl
  exact ⟨b, off, e, Nat.lt_of_lt_of_le h1 hg.size, fun j u hu => hg.cell (h2 j u hu) (show some b ≠ row from ht.far (by rwa [List.length_map] at hl) hn e)⟩
/-- A row of the call's own with lists of numbers. -/
def OM (B : Nat) (w : World) (A : Option Addr) (n c : Nat) (ls : List (List Int)) : Prop :=
  ls.length = n ∧ ∃ vs, w.ownsRow B 22 1 (.slice A n c) n vs ∧ ∀ (i : Nat) (l : List Int), ls[i]? = some l → ∃ A' c', vs[i]? = some (.slice A' l.length c') ∧ Si w A' l c' ∧ Tc B w A' l.length
theorem OM.up {B n c : Nat} {w w' : World} {A : Option Addr} {ls : List (List Int)} (h : OM B w A n c ls) (hb : Below w.heap.size w w') : OM B w' A n c ls := by
  obtain ⟨h0, vs, h1, h2⟩ := h
  refine ⟨h0, vs, own_below h1 hb, fun i l hi => ?_⟩
  obtain ⟨A', c', e1, e2, e3⟩ := h2 i l hi
  exact ⟨A', c', e1, e2.up hb, e3.up hb⟩
/-- Another row of slices changes. -/
theorem OM.other {B n c n2 c2 : Nat} {w w' : World} {A A2 : Option Addr} {ls : List (List Int)} {vs2 : List Value} (h : OM B w A n c ls) (h2 : w.ownsRow B 22 1 (.slice A2 n2 c2) n2 vs2) (hne : ∀ g, A = some ⟨g, 0, none⟩ → A2 ≠ some ⟨g, 0, none⟩) (hg : w.grownBy w' (Value.slice A2 n2 c2).ownBlock) : OM B w' A n c ls := by
  obtain ⟨h0, vs, h1, h3⟩ := h
  have hn := Nos.own h2
  refine ⟨h0, vs, h1.kept hg ?_, fun i l hi => ?_⟩
  · rcases h1.2 with ⟨hv, _⟩ | ⟨g, cap, cur, hv, _, hh, _⟩
    · left
      rw [hv]
      rfl
    · right
      injection hv with hA _ _
      subst hA
      intro e
      rcases h2.2 with ⟨hv2, _⟩ | ⟨g2, cap2, cur2, hv2, _⟩
      · rw [hv2] at e
        cases e
      · injection hv2 with hA2 _ _
        subst hA2
        injection e with e
        have e : g = g2 := e
        exact hne g rfl (by rw [e])
  · obtain ⟨A', c', e1, e2, e3⟩ := h3 i l hi
    exact ⟨A', c', e1, e2.grownc e3 hg hn, e3.grown hg hn⟩
theorem OM.own {B n c : Nat} {w : World} {A : Option Addr} {ls : List (List Int)} (h : OM B w A n c ls) : ∃ vs, w.ownsRow B 22 1 (.slice A n c) n vs := by
  obtain ⟨_, vs, h1, _⟩ := h
  exact ⟨vs, h1⟩
theorem OM.ri {B n c : Nat} {w : World} {A : Option Addr} {ls : List (List Int)} (h : OM B w A n c ls) : RI w A ls c := by
  obtain ⟨h0, vs, h1, h2⟩ := h
  subst h0
  rcases h1.2 with ⟨hv, hn⟩ | ⟨g, cap, cur, hv, _, hg, hn, hc, _⟩
  · injection hv with hA hl hc
    have hl0 : ls = [] := List.eq_nil_of_length_eq_zero hn
    exact ⟨fun hp => absurd hp (by omega), by omega, by unfold maxLen; omega, fun _ => ⟨hl0, hc⟩⟩
  · injection hv with hA hl hcc
    subst hA hcc
    refine ⟨fun hp => ⟨g, 0, rfl, heap_lt hg, fun i l hi => ?_⟩, hn, hc, fun e => by cases e⟩
    obtain ⟨A', c', e1, e2, _⟩ := h2 i l hi
    have hi2 := (List.getElem?_eq_some_iff.1 hi).1
    refine ⟨A', c', ?_, e2⟩
    rw [Nat.zero_add, h1.cellAt i (by omega)]
    exact e1
/-- append of lists of numbers: where the row lies is told. -/
theorem wp_append_om {B : Nat} {w : World} {o : Oper} {a : Act} {K : Act → World → Prop} {Q : Exit → Act → World → Prop} (s x : Operand)
    (ho : o.op = .call { callee := .builtin .append, args := #[s, x], argTypes := #[31, 31] })
    (A : Option Addr) (n c : Nat) (ls : List (List Int)) (hs : a.eval s = .slice A n c) (hO : OM B w A n c ls) (q m : Nat) (ns : List (List Int)) (us : List Value) (hm : us.length = m) (hm0 : 0 < m) (hx : a.eval x = .slice (some ⟨q, 0, none⟩) m m) (hq : Box w q us.toArray 22)
    (hnl : ns.length = m) (hns : ∀ (i : Nat) (l : List Int), ns[i]? = some l → ∃ A' c', us[i]? = some (.slice A' l.length c') ∧ Si w A' l c' ∧ Tc B w A' l.length) (hone : ∀ u ∈ us, u.oneCell' = true) (hn : n + m ≤ 900000) (hbase : B ≤ w.heap.size)
    (h : ∀ g c' w', OM B w' (some ⟨g, 0, none⟩) (n + m) c' (ls ++ ns) → Below B w w' → w.grownBy w' (Value.slice A n c).ownBlock → ((Value.slice A n c).ownBlock = some g ∨ g = w.heap.size) → K (a.put o.dst (.slice (some ⟨g, 0, none⟩) (n + m) c')) w') : o.wp Try.prog a w K Q := by
  obtain ⟨i0, hi0, hz0, hz1, hz2⟩ := info_parts ri_info
  obtain ⟨h0, vs, h1, h2⟩ := hO
  refine wp_append_lies w s x 31 ho B 22 i0 (.slice none 0 0) 1 24 Try.underlying31 hi0 hz0 hz1 hz2 rfl (by decide) _ n vs hs h1 ⟨q, 0, none⟩ m m us hx (by omega) (fun j u hu => by rw [add_off, Nat.zero_add, hq.cell j]; simpa using hu) hone hm0 (le_maxLen (by omega)) (by omega) hbase w.heap.size rfl ?_
  intro g c' w' ho' hg' hat _
  have hno : Nos B w (Value.slice A n c).ownBlock := Nos.own h1
  have hvl : vs.length = n := by have := h1.1; omega
  refine h g c' w' ⟨by rw [List.length_append, h0, hnl], _, ho', fun i l' hi => ?_⟩ ((Below.refl B w).grown hg' hbase (fun i hi => (h1.lt i hi).1)) hg' hat
  by_cases hlt : i < n
  · rw [List.getElem?_append_left (by omega)] at hi
    obtain ⟨A', c', e1, e2, e3⟩ := h2 i l' hi
    refine ⟨A', c', ?_, e2.grownc e3 hg' hno, e3.grown hg' hno⟩
    rw [List.getElem?_append_left (by omega)]
    exact e1
  · rw [List.getElem?_append_right (by omega), h0] at hi
    obtain ⟨A', c', e1, e2, e3⟩ := hns _ l' hi
    refine ⟨A', c', ?_, e2.grownc e3 hg' hno, e3.grown hg' hno⟩
    rw [List.getElem?_append_right (by omega), hvl]
    exact e1
end Go.Proofs.Ytobchecnfkocdaa
