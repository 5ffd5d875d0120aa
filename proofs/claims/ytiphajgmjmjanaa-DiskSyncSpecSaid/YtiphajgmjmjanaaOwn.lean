/- Rows of the call's own that hold rows of bytes, or writes. -/
import Derived.Test.YtiphajgmjmjanaaRr
import Derived.Laws.OwnMore
namespace Go.Proofs.Ytiphajgmjmjanaa
open Go.RowKit
set_option linter.unusedVariables false

/-- The cells of a slice of rows. -/
theorem RR.cells {w : World} {b off c : Nat} {l : List (List UInt8)} (h : RR w (some ⟨b, off, none⟩) l c) : ∃ vs : List Value, vs.length = l.length ∧ (∀ u ∈ vs, u.oneCell' = true) ∧ (∀ (i : Nat) (s : List UInt8), l[i]? = some s → ∃ D d, vs[i]? = some (.slice D s.length d) ∧ Sl w D s d) ∧
    ∀ j u, vs[j]? = some u → w.cell? ((⟨b, off, none⟩ : Addr).add j) = some u := by
  have hex : ∀ i, ∃ p : Option Addr × Nat, ∀ s, l[i]? = some s → Sl w p.1 s p.2 ∧ w.cell? ⟨b, off + i, none⟩ = some (.slice p.1 s.length p.2) := by
    intro i
    cases hi : l[i]? with
    | none => exact ⟨(none, 0), fun s hs => by cases hs⟩
    | some s =>
      obtain ⟨b', off', e, _, hs⟩ := h.1 (by have := (List.getElem?_eq_some_iff.1 hi).1; omega)
      cases e
      obtain ⟨D, d, h0, h1⟩ := hs i s hi
      exact ⟨(D, d), fun s' e => by cases e; exact ⟨h1, h0⟩⟩
  obtain ⟨p, hp⟩ : ∃ p : Nat → Option Addr × Nat, ∀ i s, l[i]? = some s → Sl w (p i).1 s (p i).2 ∧ w.cell? ⟨b, off + i, none⟩ = some (.slice (p i).1 s.length (p i).2) := ⟨fun i => Classical.choose (hex i), fun i => Classical.choose_spec (hex i)⟩
  have hget : ∀ (i : Nat) (s : List UInt8), l[i]? = some s → ((List.range l.length).map (fun i => Value.slice (p i).1 ((l[i]?).getD []).length (p i).2))[i]? = some (.slice (p i).1 s.length (p i).2) := fun i s hi => by
    have hil := (List.getElem?_eq_some_iff.1 hi).1
    rw [List.getElem?_map, List.getElem?_range hil]
    simp only [Option.map_some, hi, Option.getD_some]
  refine ⟨(List.range l.length).map (fun i => Value.slice (p i).1 ((l[i]?).getD []).length (p i).2), by simp, ?_, fun i s hi => ⟨_, _, hget i s hi, (hp i s hi).1⟩, fun j u hu => ?_⟩
  · intro u hu
    obtain ⟨i, _, rfl⟩ := List.mem_map.1 hu
    rfl
  · have hj : j < l.length := by
      have := (List.getElem?_eq_some_iff.1 hu).1
      simpa using this
    have hlj : l[j]? = some l[j] := List.getElem?_eq_getElem hj
    rw [hget j _ hlj] at hu
    rw [add_off, ← hu]
    exact (hp j _ hlj).2

/-- A row of the call's own (in a block from B on) with rows of bytes that lie elsewhere, and not in the blocks from lo to B. -/
def OwnR (lo B : Nat) (w : World) (g c : Nat) (l : List (List UInt8)) : Prop := ∃ vs : List Value, w.ownsRow B 35 1 (.slice (some ⟨g, 0, none⟩) l.length c) l.length vs ∧
  ∀ (i : Nat) (s : List UInt8), l[i]? = some s → ∃ A k, vs[i]? = some (.slice A s.length k) ∧ Sl w A s k ∧ ∀ b off, A = some ⟨b, off, none⟩ → b ≠ g ∧ (b < lo ∨ B ≤ b)
theorem OwnR.lt {lo B g c : Nat} {w : World} {l : List (List UInt8)} (h : OwnR lo B w g c l) : B ≤ g ∧ g < w.heap.size := by
  obtain ⟨vs, ho, _⟩ := h
  exact World.ownsRow.lt ho g rfl
theorem OwnR.below {lo B g c : Nat} {w w' : World} {l : List (List UInt8)} (h : OwnR lo B w g c l) (hb : Below w.heap.size w w') : OwnR lo B w' g c l := by
  obtain ⟨vs, ho, hs⟩ := h
  refine ⟨vs, own_below ho hb, fun i s hi => ?_⟩
  obtain ⟨A, k, h1, h2, h3⟩ := hs i s hi
  exact ⟨A, k, h1, h2.up hb, h3⟩
theorem OwnR.at_ {lo B g c : Nat} {w : World} {l : List (List UInt8)} (h : OwnR lo B w g c l) {i : Nat} {s : List UInt8} (hi : l[i]? = some s) : ∃ A k, w.cell? ⟨g, i, none⟩ = some (.slice A s.length k) ∧ Sl w A s k ∧ ∀ b off, A = some ⟨b, off, none⟩ → b ≠ g ∧ (b < lo ∨ B ≤ b) := by
  obtain ⟨vs, ho, hs⟩ := h
  obtain ⟨A, k, h1, h2, h3⟩ := hs i s hi
  have hil := (List.getElem?_eq_some_iff.1 hi).1
  exact ⟨A, k, by rw [ho.cellAt i (by omega), h1], h2, h3⟩
theorem OwnR.frozen {lo B g c : Nat} {w : World} {l : List (List UInt8)} (h : OwnR lo B w g c l) (j : Nat) : w.frozen? ⟨g, j, none⟩ = false := by
  obtain ⟨vs, ho, hs⟩ := h
  exact ho.frozenAt j
theorem OwnR.rr {lo B g c : Nat} {w : World} {l : List (List UInt8)} (h : OwnR lo B w g c l) : RR w (some ⟨g, 0, none⟩) l c := by
  have hlt := h.lt
  have hat := fun i s hi => h.at_ (i := i) (s := s) hi
  obtain ⟨vs, ho, hs⟩ := h
  have hcap : l.length ≤ c ∧ c ≤ maxLen := by
    rcases ho.2 with ⟨hv, _⟩ | ⟨g', cap, cur, hv, _, _, h1, h2, _⟩
    · cases hv
    · cases hv; exact ⟨h1, h2⟩
  refine ⟨fun hp => ⟨g, 0, rfl, hlt.2, fun i s hi => ?_⟩, hcap.1, hcap.2, fun h => by cases h⟩
  obtain ⟨A, k, h1, h2, _⟩ := hat i s hi
  exact ⟨A, k, by rw [Nat.zero_add]; exact h1, h2⟩
/-- A store into it. -/
theorem OwnR.set {lo B g c : Nat} {w : World} {l : List (List UInt8)} (h : OwnR lo B w g c l) (i : Nat) (A : Option Addr) (s : List UInt8) (n k : Nat) (hn : s.length = n) (hs : Sl w A s k) (hA : ∀ b off, A = some ⟨b, off, none⟩ → b ≠ g ∧ (b < lo ∨ B ≤ b)) :
    OwnR lo B (w.setCell ⟨g, i, none⟩ (.slice A n k)) g c (l.set i s) ∧ w.grownBy (w.setCell ⟨g, i, none⟩ (.slice A n k)) (some g) := by
  subst hn
  obtain ⟨vs, ho, hss⟩ := h
  have hst := ho.stored i (.slice A s.length k)
  refine ⟨⟨vs.set i (.slice A s.length k), by rw [List.length_set]; exact hst.1, fun j t hj => ?_⟩, hst.2⟩
  by_cases e : i = j
  · subst e
    have hil : i < l.length := by
      have := (List.getElem?_eq_some_iff.1 hj).1
      simpa using this
    rw [List.getElem?_set_self hil] at hj
    cases hj
    have hvl : i < vs.length := by rw [ho.1]; omega
    exact ⟨A, k, by rw [List.getElem?_set_self hvl], hs.keep hst.2 (fun b off hAb => by have := (hA b off hAb).1; simpa using this), hA⟩
  · rw [List.getElem?_set_ne e] at hj
    obtain ⟨A2, k2, h1, h2, h3⟩ := hss j t hj
    exact ⟨A2, k2, by rw [List.getElem?_set_ne e]; exact h1, h2.keep hst.2 (fun b off hAb => by have := (h3 b off hAb).1; simpa using this), h3⟩
/-- A store into a block between lo and B. -/
theorem OwnR.other {lo B g c : Nat} {w : World} {l : List (List UInt8)} (h : OwnR lo B w g c l) {b : Nat} (h1 : lo ≤ b) (h2 : b < B) (i : Nat) (v : Value) : OwnR lo B (w.setCell ⟨b, i, none⟩ v) g c l := by
  have hlt := h.lt
  obtain ⟨vs, ho, hss⟩ := h
  have hst := set_grown_at w b i v
  refine ⟨vs, ho.kept hst (.inr (by show some g ≠ some b; intro e; injection e; omega)), fun j t hj => ?_⟩
  obtain ⟨A2, k2, q1, q2, q3⟩ := hss j t hj
  exact ⟨A2, k2, q1, q2.keep hst (fun b2 off hAb => by have := (q3 b2 off hAb).2; intro e; injection e; omega), q3⟩
theorem OwnR.more {lo B g c : Nat} {w : World} {l : List (List UInt8)} (h : OwnR lo B w g c l) (hb : lo ≤ B) : OwnR lo lo w g c l := by
  obtain ⟨vs, ho, hs⟩ := h
  refine ⟨vs, ⟨ho.1, ?_⟩, fun i s hi => ?_⟩
  · rcases ho.2 with ⟨hv, _⟩ | ⟨g', cap, cur, hv, hbg, rest⟩
    · cases hv
    · cases hv
      exact .inr ⟨g, c, cur, rfl, Nat.le_trans hb hbg, rest⟩
  · obtain ⟨A, k, q1, q2, q3⟩ := hs i s hi
    exact ⟨A, k, q1, q2, fun b off e => ⟨(q3 b off e).1, Nat.lt_or_ge b lo⟩⟩
/-- A copy of a slice of rows that came in. -/
theorem OwnR.of_copy {w0 w w' : World} {g cg : Nat} {l : List (List UInt8)} {vs : List Value} (hb0 : Below w0.heap.size w0 w) (hb : Below w.heap.size w w') (ho : w'.ownsRow w.heap.size 35 1 (.slice (some ⟨g, 0, none⟩) l.length cg) l.length vs)
    (hs : ∀ (i : Nat) (s : List UInt8), l[i]? = some s → ∃ D d, vs[i]? = some (.slice D s.length d) ∧ Sl w0 D s d) (hp : ∀ s ∈ l, 0 < s.length) : OwnR w0.heap.size w.heap.size w' g cg l := by
  have hg := World.ownsRow.lt ho g rfl
  refine ⟨vs, ho, fun i s hi => ?_⟩
  obtain ⟨D, d, h1, h2⟩ := hs i s hi
  refine ⟨D, d, h1, (h2.up hb0).up hb, fun b off e => ?_⟩
  subst e
  obtain ⟨b', off', e, hlt, _⟩ := h2.1 (hp s (List.mem_of_getElem? hi))
  cases e
  have := hb0.size
  omega

/-- The cells of a slice of writes. -/
theorem WW.cells {w : World} {b off c : Nat} {l : List (Int × List UInt8)} (h : WW w (some ⟨b, off, none⟩) l c) : ∃ vs : List Value, vs.length = l.length * 2 ∧ (∀ u ∈ vs, u.oneCell' = true) ∧ (∀ (i : Nat) (a : Int × List UInt8), l[i]? = some a → ∃ D d, vs[i * 2]? = some (.int .i64 a.1) ∧ vs[i * 2 + 1]? = some (.slice D a.2.length d) ∧ Sl w D a.2 d) ∧
    ∀ j u, vs[j]? = some u → w.cell? ((⟨b, off, none⟩ : Addr).add j) = some u := by
  have hex : ∀ i, ∃ p : Option Addr × Nat, ∀ a, l[i]? = some a → Sl w p.1 a.2 p.2 ∧ w.cell? ⟨b, off + i * 2, none⟩ = some (.int .i64 a.1) ∧ w.cell? ⟨b, off + i * 2 + 1, none⟩ = some (.slice p.1 a.2.length p.2) := by
    intro i
    cases hi : l[i]? with
    | none => exact ⟨(none, 0), fun s hs => by cases hs⟩
    | some s =>
      obtain ⟨b', off', e, _, hs⟩ := h.1 (by have := (List.getElem?_eq_some_iff.1 hi).1; omega)
      cases e
      obtain ⟨D, d, h0, h1, h2⟩ := hs i s hi
      exact ⟨(D, d), fun s' e => by cases e; exact ⟨h2, h0, h1⟩⟩
  obtain ⟨p, hp⟩ : ∃ p : Nat → Option Addr × Nat, ∀ i a, l[i]? = some a → Sl w (p i).1 a.2 (p i).2 ∧ w.cell? ⟨b, off + i * 2, none⟩ = some (.int .i64 a.1) ∧ w.cell? ⟨b, off + i * 2 + 1, none⟩ = some (.slice (p i).1 a.2.length (p i).2) := ⟨fun i => Classical.choose (hex i), fun i => Classical.choose_spec (hex i)⟩
  clear hex h
  induction l generalizing off p with
  | nil => exact ⟨[], rfl, (fun u hu => by cases hu), (fun i a hi => by cases hi), (fun j u hu => by cases hu)⟩
  | cons x l ih =>
    obtain ⟨vs, h1, h2, h3, h4⟩ := ih (off := off + 2) (fun i => p (i + 1)) (fun i a hi => by
      have := hp (i + 1) a hi
      rw [show off + (i + 1) * 2 = off + 2 + i * 2 by omega] at this
      exact this)
    obtain ⟨q1, q2, q3⟩ := hp 0 x rfl
    refine ⟨.int .i64 x.1 :: .slice (p 0).1 x.2.length (p 0).2 :: vs, by simp [h1]; omega, fun u hu => ?_, fun i a hi => ?_, fun j u hu => ?_⟩
    · rcases List.mem_cons.1 hu with rfl | hu
      · rfl
      · rcases List.mem_cons.1 hu with rfl | hu
        · rfl
        · exact h2 u hu
    · cases i with
      | zero =>
        cases hi
        exact ⟨(p 0).1, (p 0).2, rfl, rfl, q1⟩
      | succ i =>
        obtain ⟨D, d, k1, k2, k3⟩ := h3 i a hi
        exact ⟨D, d, by rw [show (i + 1) * 2 = i * 2 + 1 + 1 by omega]; exact k1, by rw [show (i + 1) * 2 + 1 = i * 2 + 1 + 1 + 1 by omega]; exact k2, k3⟩
    · match j, hu with
      | 0, hu => cases hu; rw [add_off]; exact q2
      | 1, hu => cases hu; rw [add_off]; exact q3
      | j + 2, hu =>
        have := h4 j u hu
        rw [add_off] at this ⊢
        rw [show off + (j + 2) = off + 2 + j by omega]
        exact this

/-- Writes in a row of the call's own, with one more behind them. -/
theorem WW.of_own {w w' : World} {B g c n : Nat} {l : List (Int × List UInt8)} {vs : List Value} {x : Int} {D : Option Addr} {s : List UInt8} {d m : Nat} (hn : l.length + 1 = n) (hb : Below w.heap.size w w')
    (ho : w'.ownsRow B 54 2 (.slice (some ⟨g, 0, none⟩) n c) n (vs ++ [.int .i64 x, .slice D m d])) (hv : vs.length = l.length * 2) (hm : s.length = m)
    (hs : ∀ (i : Nat) (a : Int × List UInt8), l[i]? = some a → ∃ D d, vs[i * 2]? = some (.int .i64 a.1) ∧ vs[i * 2 + 1]? = some (.slice D a.2.length d) ∧ Sl w D a.2 d) (hd : Sl w D s d) : WW w' (some ⟨g, 0, none⟩) (l ++ [(x, s)]) c := by
  subst hm hn
  have hlt := World.ownsRow.lt ho g rfl
  have hcap : l.length + 1 ≤ c ∧ c ≤ maxLen := by
    rcases ho.2 with ⟨hv, _⟩ | ⟨g', cap, cur, hv, _, _, h1, h2, _⟩
    · cases hv
    · cases hv; exact ⟨h1, h2⟩
  refine ⟨fun hp => ⟨g, 0, rfl, hlt.2, fun i a hi => ?_⟩, by simpa using hcap.1, hcap.2, fun h => by cases h⟩
  have hil : i < l.length + 1 := by
    have := (List.getElem?_eq_some_iff.1 hi).1
    simpa using this
  by_cases e : i < l.length
  · rw [List.getElem?_append_left e] at hi
    obtain ⟨D2, d2, h1, h2, h3⟩ := hs i a hi
    refine ⟨D2, d2, ?_, ?_, h3.up hb⟩
    · rw [Nat.zero_add, ho.cellAt _ (by omega), List.getElem?_append_left (by omega), h1]
    · rw [Nat.zero_add, ho.cellAt _ (by omega), List.getElem?_append_left (by omega), h2]
  · obtain rfl : i = l.length := by omega
    rw [List.getElem?_append_right (Nat.le_refl _), Nat.sub_self] at hi
    cases hi
    refine ⟨D, d, ?_, ?_, hd.up hb⟩
    · rw [Nat.zero_add, ho.cellAt _ (by omega), List.getElem?_append_right (by omega), show l.length * 2 - vs.length = 0 by omega]; rfl
    · rw [Nat.zero_add, ho.cellAt _ (by omega), List.getElem?_append_right (by omega), show l.length * 2 + 1 - vs.length = 1 by omega]; rfl
end Go.Proofs.Ytiphajgmjmjanaa
