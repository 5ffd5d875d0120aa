/- Packets, pairs and links in memory. -/
import Derived.Test.YtojijebmipgeeaaLit
import Derived.Test.YtojijebmipgeeaaPl
import Derived.Laws.OwnMore
import Derived.ArgAppend
namespace Go.Proofs.Ytojijebmipgeeaa
open Go.RowKit
set_option linter.unusedVariables false

theorem Sl.keep {w w' : World} {A : Option Addr} {l : List UInt8} {c : Nat} {row : Option Nat} (h : Sl w A l c) (hg : w.grownBy w' row) (hr : ∀ b off, A = some ⟨b, off, none⟩ → some b ≠ row) : Sl w' A l c :=
  ⟨(h.1.keep hg hr).more hg.size, h.2⟩

/-- The cells of packets. -/
def PkF (w : World) : List Pk → List Value → Prop
  | [], vs => vs = []
  | p :: l, vs => ∃ A c vs', vs = .int .i64 p.fr :: .int .i64 p.to :: .slice A p.da.length c :: vs' ∧ Sl w A p.da c ∧ PkF w l vs'
theorem PkF.length {w : World} : ∀ {l : List Pk} {vs : List Value}, PkF w l vs → vs.length = l.length * 3
  | [], vs, h => by cases h; rfl
  | p :: l, vs, ⟨A, c, vs', e, _, h⟩ => by
    have := PkF.length h
    subst e
    simp only [List.length_cons]
    omega
theorem PkF.one {w : World} : ∀ {l : List Pk} {vs : List Value}, PkF w l vs → ∀ u ∈ vs, u.oneCell' = true
  | [], vs, h, u, hu => by cases h; cases hu
  | p :: l, vs, ⟨A, c, vs', e, _, h⟩, u, hu => by
    subst e
    rcases List.mem_cons.1 hu with rfl | hu
    · rfl
    rcases List.mem_cons.1 hu with rfl | hu
    · rfl
    rcases List.mem_cons.1 hu with rfl | hu
    · rfl
    exact PkF.one h u hu
theorem PkF.up {w w' : World} (hb : Below w.heap.size w w') : ∀ {l : List Pk} {vs : List Value}, PkF w l vs → PkF w' l vs
  | [], vs, h => h
  | p :: l, vs, ⟨A, c, vs', e, hs, h⟩ => ⟨A, c, vs', e, hs.up hb, PkF.up hb h⟩
theorem PkF.app {w : World} : ∀ {l l2 : List Pk} {vs vs2 : List Value}, PkF w l vs → PkF w l2 vs2 → PkF w (l ++ l2) (vs ++ vs2)
  | [], l2, vs, vs2, h, h2 => by cases h; exact h2
  | p :: l, l2, vs, vs2, ⟨A, c, vs', e, hs, h⟩, h2 => by
    subst e
    exact ⟨A, c, vs' ++ vs2, rfl, hs, PkF.app h h2⟩
theorem PkF.take {w : World} : ∀ {l : List Pk} {vs : List Value} (n : Nat), PkF w l vs → PkF w (l.take n) (vs.take (n * 3))
  | [], vs, n, h => by cases h; simp [PkF]
  | p :: l, vs, 0, h => by simp [PkF]
  | p :: l, vs, n + 1, ⟨A, c, vs', e, hs, h⟩ => by
    subst e
    have e3 : (n + 1) * 3 = n * 3 + 1 + 1 + 1 := by omega
    rw [e3]
    exact ⟨A, c, vs'.take (n * 3), rfl, hs, PkF.take n h⟩
theorem PkF.drop {w : World} : ∀ {l : List Pk} {vs : List Value} (n : Nat), PkF w l vs → PkF w (l.drop n) (vs.drop (n * 3))
  | [], vs, n, h => by cases h; simp [PkF]
  | p :: l, vs, 0, h => by simpa using h
  | p :: l, vs, n + 1, ⟨A, c, vs', e, hs, h⟩ => by
    subst e
    have e3 : (n + 1) * 3 = n * 3 + 1 + 1 + 1 := by omega
    rw [e3]
    exact PkF.drop n h
theorem PkF.at_ {w : World} : ∀ {l : List Pk} {vs : List Value} {i : Nat} {p : Pk}, PkF w l vs → l[i]? = some p → ∃ A c, vs[i * 3]? = some (.int .i64 p.fr) ∧ vs[i * 3 + 1]? = some (.int .i64 p.to) ∧ vs[i * 3 + 2]? = some (.slice A p.da.length c) ∧ Sl w A p.da c
  | [], vs, i, p, h, hi => by cases hi
  | p :: l, vs, 0, _, ⟨A, c, vs', e, hs, h⟩, hi => by cases hi; subst e; exact ⟨A, c, rfl, rfl, rfl, hs⟩
  | p :: l, vs, i + 1, _, ⟨A, c, vs', e, hs, h⟩, hi => by
    subst e
    obtain ⟨A2, c2, h1, h2, h3, h4⟩ := PkF.at_ (i := i) h hi
    have e3 : (i + 1) * 3 = i * 3 + 1 + 1 + 1 := by omega
    rw [e3]
    exact ⟨A2, c2, h1, h2, h3, h4⟩
theorem PkF.one_ {w : World} {p : Pk} {A : Option Addr} {c n : Nat} (hn : p.da.length = n) (h : Sl w A p.da c) : PkF w [p] [.int .i64 p.fr, .int .i64 p.to, .slice A n c] := by
  subst hn
  exact ⟨A, c, [], rfl, h, rfl⟩

/-- A slice of packets. -/
def QQ (w : World) (A : Option Addr) (l : List Pk) (c : Nat) : Prop :=
  (0 < l.length → ∃ b off vs, A = some ⟨b, off, none⟩ ∧ b < w.heap.size ∧ PkF w l vs ∧ ∀ j u, vs[j]? = some u → w.cell? ⟨b, off + j, none⟩ = some u) ∧ l.length ≤ c ∧ c ≤ maxLen ∧ (A = none → l = [] ∧ c = 0)
theorem QQ.up {w w' : World} {A : Option Addr} {l : List Pk} {c : Nat} (h : QQ w A l c) (k : Below w.heap.size w w') : QQ w' A l c := by
  refine ⟨fun hp => ?_, h.2⟩
  obtain ⟨b, off, vs, e, hb, hs, hc⟩ := h.1 hp
  exact ⟨b, off, vs, e, Nat.lt_of_lt_of_le hb k.size, hs.up k, fun j u hj => (k.cell (p := ⟨b, off + j, none⟩) hb).trans (hc j u hj)⟩
theorem QQ.nil (w : World) : QQ w none [] 0 := ⟨fun h => absurd h (by simp), by simp, by unfold maxLen; omega, fun _ => ⟨rfl, rfl⟩⟩
/-- The cells of a slice of packets. -/
theorem QQ.cells {w : World} {A : Option Addr} {l : List Pk} {c : Nat} (h : QQ w A l c) : ∃ vs, PkF w l vs ∧ ∀ b, A = some b → ∀ j u, vs[j]? = some u → w.cell? (b.add j) = some u := by
  by_cases hp : 0 < l.length
  · obtain ⟨b, off, vs, e, hb, hs, hc⟩ := h.1 hp
    refine ⟨vs, hs, fun a ea j u hj => ?_⟩
    rw [e] at ea
    cases ea
    rw [add_off]
    exact hc j u hj
  · have : l = [] := List.eq_nil_of_length_eq_zero (by omega)
    subst this
    exact ⟨[], rfl, fun b _ j u hj => by cases hj⟩
/-- One of its packets. -/
theorem QQ.at_ {w : World} {A : Option Addr} {l : List Pk} {c i : Nat} {p : Pk} (h : QQ w A l c) (hi : l[i]? = some p) : ∃ b off D d, A = some ⟨b, off, none⟩ ∧ b < w.heap.size ∧ w.cell? ⟨b, off + i * 3, none⟩ = some (.int .i64 p.fr) ∧ w.cell? ⟨b, off + i * 3 + 1, none⟩ = some (.int .i64 p.to) ∧ w.cell? ⟨b, off + i * 3 + 2, none⟩ = some (.slice D p.da.length d) ∧ Sl w D p.da d := by
  have hlt := (List.getElem?_eq_some_iff.1 hi).1
  obtain ⟨b, off, vs, e, hb, hs, hc⟩ := h.1 (by omega)
  obtain ⟨D, d, h1, h2, h3, h4⟩ := hs.at_ hi
  exact ⟨b, off, D, d, e, hb, hc _ _ h1, hc _ _ h2, hc _ _ h3, h4⟩
/-- Its first packets. -/
theorem QQ.take {w : World} {A : Option Addr} {l : List Pk} {c n k : Nat} (h : QQ w A l c) (hk : (l.take n).length ≤ k) (hkc : k ≤ c) : QQ w A (l.take n) k := by
  refine ⟨fun hp => ?_, hk, Nat.le_trans hkc h.2.2.1, fun e => ?_⟩
  · have : 0 < l.length := by
      rw [List.length_take] at hp
      omega
    obtain ⟨b, off, vs, e, hb, hs, hc⟩ := h.1 this
    refine ⟨b, off, vs.take (n * 3), e, hb, hs.take n, fun j u hj => ?_⟩
    rw [List.getElem?_take] at hj
    split at hj
    · exact hc j u hj
    · cases hj
  · obtain ⟨h1, h2⟩ := h.2.2.2 e
    subst h1 h2
    exact ⟨by simp, by omega⟩
/-- Its last packets. -/
theorem QQ.drop {w : World} {b off : Nat} {l : List Pk} {c n : Nat} (h : QQ w (some ⟨b, off, none⟩) l c) (hn : n ≤ l.length) : QQ w (some ⟨b, off + n * 3, none⟩) (l.drop n) (c - n) := by
  refine ⟨fun hp => ?_, ?_, by have := h.2.2.1; omega, fun e => by cases e⟩
  · rw [List.length_drop] at hp
    obtain ⟨b', off', vs, e, hb, hs, hc⟩ := h.1 (by omega)
    cases e
    refine ⟨b, off + n * 3, vs.drop (n * 3), rfl, hb, hs.drop n, fun j u hj => ?_⟩
    rw [List.getElem?_drop] at hj
    rw [Nat.add_assoc]
    exact hc _ u hj
  · rw [List.length_drop]
    have := h.2.1
    omega
/-- An empty slice, wherever. -/
theorem QQ.none_of {w : World} {a : Addr} {c : Nat} (hc : c ≤ maxLen) : QQ w (some a) [] c := ⟨fun h => absurd h (by simp), by simp, hc, fun e => by cases e⟩
theorem pk_info : (Try.prog.info? 28).map (fun i => (i.zero, i.size, i.bytes)) = some (some (.agg #[.int .i64 0, .int .i64 0, .slice none 0 0]), 3, 40) := by kernel_rfl
/-- Packets in a row of the call's own. -/
theorem QQ.of_own {w : World} {B n : Nat} {v : Value} {l : List Pk} {vs : List Value} (hn : l.length = n) (ho : w.ownsRow B 28 3 v n vs) (hf : PkF w l vs) : ∃ A c, v = .slice A n c ∧ QQ w A l c := by
  subst hn
  rcases ho.2 with ⟨hv, hl⟩ | ⟨g, cap, cur, hv, hbg, hg, h1, h2, _⟩
  · have : l = [] := List.eq_nil_of_length_eq_zero hl
    subst this
    exact ⟨none, 0, by simpa using hv, QQ.nil w⟩
  · subst hv
    refine ⟨_, _, rfl, fun hp => ⟨g, 0, vs, rfl, heap_lt hg, hf, fun j u hj => ?_⟩, h1, h2, fun e => by cases e⟩
    have hjl := (List.getElem?_eq_some_iff.1 hj).1
    rw [Nat.zero_add, ho.cellAt j (by rw [← ho.1]; exact hjl), hj]

/-- append onto packets that came in, cut at their length. -/
theorem wp_append_pk {w : World} {o : Oper} {a : Act} {K : Act → World → Prop} {Q : Exit → Act → World → Prop} (s x : Operand)
    (ho : o.op = .call { callee := .builtin .append, args := #[s, x], argTypes := #[22, 22] })
    (A : Option Addr) (l : List Pk) (n : Nat) (hn : l.length = n) (hs : a.eval s = .slice A n n) (hA : QQ w A l n)
    (X : Addr) (xs : List Pk) (m cx : Nat) (hm : xs.length = m) (hx : a.eval x = .slice (some X) m cx) (hX : QQ w (some X) xs cx) (h0 : m = 0 → ∃ b off, A = some ⟨b, off, none⟩) (hb : n + m ≤ 100000)
    (h : ∀ A' c' w', QQ w' A' (l ++ xs) c' → Below w.heap.size w w' → K (a.put o.dst (.slice A' (n + m) c')) w') : o.wp Try.prog a w K Q := by
  obtain ⟨i0, hi0, hz0, hz1, hz2⟩ := info_parts pk_info
  obtain ⟨vs, hv, hvc⟩ := hA.cells
  obtain ⟨us, hu, huc⟩ := hX.cells
  have hvl := hv.length
  have hul := hu.length
  rw [hn] at hvl
  rw [hm] at hul
  by_cases hm0 : m = 0
  · obtain ⟨b, off, rfl⟩ := h0 hm0
    subst hm0
    obtain rfl : xs = [] := List.eq_nil_of_length_eq_zero hm
    cases hu
    have hrun := run_append_room_cells (P := Try.prog) w 22 o.type 28 i0 Try.underlying22 hi0 b off n n X 0 cx [] (by simp) (fun j u hj => by cases hj) (fun u hj => by cases hj) (by omega) (fun j hj => absurd hj (by simp)) (fun j hj => absurd hj (by simp))
    unfold Oper.wp
    simp [execOp, ho, resolve, invoke, builtin, hs, hx, hrun, Result.andThen]
    exact h (some ⟨b, off, none⟩) n (w.setCells b (off + n * i0.size) []) (by rw [List.append_nil]; exact hA) (Below.refl _ _)
  · have key : ∃ v' w', (Builtin.append_ #[22, 22] o.type #[.slice A n n, .slice (some X) m cx]).run Try.prog w = .ok v' w' ∧ w'.ownsRow w.heap.size 28 3 v' (n + m) (vs ++ us) ∧ w.grownBy w' none := by
      cases A with
      | some b => exact run_append_arg_grows (P := Try.prog) w 22 o.type 28 i0 (.agg #[.int .i64 0, .int .i64 0, .slice none 0 0]) 3 40 Try.underlying22 hi0 hz0 hz1 hz2 rfl (by decide) b n n vs hvl (hvc b rfl) X m cx us hul (huc X rfl) (by omega) (le_maxLen (by omega)) (by omega)
      | none =>
        obtain ⟨rfl, rfl⟩ := hA.2.2.2 rfl
        cases hv
        obtain ⟨v', w', hrun, r1, r2, _⟩ := run_append_own (P := Try.prog) w w.heap.size 22 o.type 28 i0 (.agg #[.int .i64 0, .int .i64 0, .slice none 0 0]) 3 40 Try.underlying22 hi0 hz0 hz1 hz2 rfl (by decide) (.slice none 0 0) 0 [] (World.ownsRow_nil w _ _ _) X m cx us hul (huc X rfl) hu.one (le_maxLen (by omega)) (by omega) (Nat.le_refl _)
        exact ⟨v', w', hrun, r1, r2⟩
    obtain ⟨v', w', hrun, r1, r2⟩ := key
    have hb2 := grown_below r2
    obtain ⟨A', c', rfl, hq⟩ := QQ.of_own (by rw [List.length_append, hn, hm]) r1 ((hv.app hu).up hb2)
    unfold Oper.wp
    simp [execOp, ho, resolve, invoke, builtin, hs, hx, hrun, Result.andThen]
    exact h A' c' w' hq hb2
theorem wpList_append_pk {w : World} {ops : Array Oper} {rest : List Oper} {o : Oper} {a : Act} {Q : Exit → Act → World → Prop} (hgd : o.guard = none) (s x : Operand)
    (ho : o.op = .call { callee := .builtin .append, args := #[s, x], argTypes := #[22, 22] })
    (A : Option Addr) (l : List Pk) (n : Nat) (hn : l.length = n) (hs : a.eval s = .slice A n n) (hA : QQ w A l n)
    (X : Addr) (xs : List Pk) (m cx : Nat) (hm : xs.length = m) (hx : a.eval x = .slice (some X) m cx) (hX : QQ w (some X) xs cx) (h0 : m = 0 → ∃ b off, A = some ⟨b, off, none⟩) (hb : n + m ≤ 100000)
    (h : ∀ A' c' w', QQ w' A' (l ++ xs) c' → Below w.heap.size w w' → wpList Try.prog ops Q rest (a.put o.dst (.slice A' (n + m) c')) w') : wpList Try.prog ops Q (o :: rest) a w := by
  refine wpList_plain hgd fun K hK => ?_
  exact wp_append_pk s x ho A l n hn hs hA X xs m cx hm hx hX h0 hb (fun A' c' w' h1 h2 => hK _ _ (h A' c' w' h1 h2))

/-- The cells of pairs. -/
def prc : List (Int × Int) → List Value
  | [] => []
  | x :: l => .int .i64 x.1 :: .int .i64 x.2 :: prc l
theorem prc_length : ∀ l, (prc l).length = l.length * 2
  | [] => rfl
  | x :: l => by simp only [prc, List.length_cons, prc_length l]; omega
theorem prc_app : ∀ l l2, prc (l ++ l2) = prc l ++ prc l2
  | [], l2 => rfl
  | x :: l, l2 => by simp only [List.cons_append, prc, prc_app l l2]
theorem prc_one : ∀ l, ∀ u ∈ prc l, u.oneCell' = true
  | [], u, hu => by cases hu
  | x :: l, u, hu => by
    rcases List.mem_cons.1 hu with rfl | hu
    · rfl
    rcases List.mem_cons.1 hu with rfl | hu
    · rfl
    exact prc_one l u hu
theorem prc_at : ∀ {l : List (Int × Int)} {i : Nat} {x : Int × Int}, l[i]? = some x → (prc l)[i * 2]? = some (.int .i64 x.1) ∧ (prc l)[i * 2 + 1]? = some (.int .i64 x.2)
  | [], i, x, h => by cases h
  | y :: l, 0, x, h => by cases h; exact ⟨rfl, rfl⟩
  | y :: l, i + 1, x, h => by
    have e : (i + 1) * 2 = i * 2 + 1 + 1 := by omega
    rw [e]
    exact prc_at (l := l) (i := i) h
/-- A slice of pairs. -/
def PP (w : World) (A : Option Addr) (l : List (Int × Int)) (c : Nat) : Prop :=
  (0 < l.length → ∃ b off, A = some ⟨b, off, none⟩ ∧ b < w.heap.size ∧ ∀ j u, (prc l)[j]? = some u → w.cell? ⟨b, off + j, none⟩ = some u) ∧ l.length ≤ c ∧ c ≤ maxLen ∧ (A = none → l = [] ∧ c = 0)
theorem PP.up {w w' : World} {A : Option Addr} {l : List (Int × Int)} {c : Nat} (h : PP w A l c) (k : Below w.heap.size w w') : PP w' A l c := by
  refine ⟨fun hp => ?_, h.2⟩
  obtain ⟨b, off, e, hb, hc⟩ := h.1 hp
  exact ⟨b, off, e, Nat.lt_of_lt_of_le hb k.size, fun j u hj => (k.cell (p := ⟨b, off + j, none⟩) hb).trans (hc j u hj)⟩
theorem PP.nil (w : World) : PP w none [] 0 := ⟨fun h => absurd h (by simp), by simp, by unfold maxLen; omega, fun _ => ⟨rfl, rfl⟩⟩
theorem PP.at_ {w : World} {A : Option Addr} {l : List (Int × Int)} {c i : Nat} {x : Int × Int} (h : PP w A l c) (hi : l[i]? = some x) : ∃ b off, A = some ⟨b, off, none⟩ ∧ b < w.heap.size ∧ w.cell? ⟨b, off + i * 2, none⟩ = some (.int .i64 x.1) ∧ w.cell? ⟨b, off + i * 2 + 1, none⟩ = some (.int .i64 x.2) := by
  have hlt := (List.getElem?_eq_some_iff.1 hi).1
  obtain ⟨b, off, e, hb, hc⟩ := h.1 (by omega)
  obtain ⟨h1, h2⟩ := prc_at hi
  exact ⟨b, off, e, hb, hc _ _ h1, hc _ _ h2⟩
theorem pr_info : (Try.prog.info? 55).map (fun i => (i.zero, i.size, i.bytes)) = some (some (.agg #[.int .i64 0, .int .i64 0]), 2, 16) := by kernel_rfl
/-- Pairs in a row of the call's own. -/
theorem PP.of_own {w : World} {B n : Nat} {v : Value} {l : List (Int × Int)} (hn : l.length = n) (ho : w.ownsRow B 55 2 v n (prc l)) : ∃ A c, v = .slice A n c ∧ PP w A l c := by
  subst hn
  rcases ho.2 with ⟨hv, hl⟩ | ⟨g, cap, cur, hv, hbg, hg, h1, h2, _⟩
  · have : l = [] := List.eq_nil_of_length_eq_zero hl
    subst this
    exact ⟨none, 0, by simpa using hv, PP.nil w⟩
  · subst hv
    refine ⟨_, _, rfl, fun hp => ⟨g, 0, rfl, heap_lt hg, fun j u hj => ?_⟩, h1, h2, fun e => by cases e⟩
    have hjl := (List.getElem?_eq_some_iff.1 hj).1
    rw [Nat.zero_add, ho.cellAt j (by rw [← ho.1]; exact hjl), hj]

/-- The cells of links, of a packet. -/
def ntc (n : Nt) (A : Option Addr) (c : Nat) (B : Option Addr) (k : Nat) : Array Value := #[.slice A n.q.length c, .slice B n.ap.length k]
def ntv (n : Nt) (A : Option Addr) (c : Nat) (B : Option Addr) (k : Nat) : Value := .agg (ntc n A c B k)
def NtIn (w : World) (n : Nt) (A : Option Addr) (c : Nat) (B : Option Addr) (k : Nat) : Prop := QQ w A n.q c ∧ PP w B n.ap k
theorem NtIn.up {w w' : World} {n : Nt} {A B : Option Addr} {c k : Nat} (h : NtIn w n A c B k) (hb : Below w.heap.size w w') : NtIn w' n A c B k := ⟨h.1.up hb, h.2.up hb⟩
theorem NtIn.zero (w : World) : NtIn w nt0 none 0 none 0 := ⟨QQ.nil w, PP.nil w⟩
theorem nt_info : (Try.prog.info? 25).map (fun i => (i.zero, i.size, i.bytes)) = some (some (.agg #[.slice none 0 0, .slice none 0 0]), 2, 48) := by kernel_rfl
def pkc (p : Pk) (D : Option Addr) (d : Nat) : Array Value := #[.int .i64 p.fr, .int .i64 p.to, .slice D p.da.length d]
def pkv (p : Pk) (D : Option Addr) (d : Nat) : Value := .agg (pkc p D d)
def prv (x : Int × Int) : Value := .agg #[.int .i64 x.1, .int .i64 x.2]
/-- A call hands back links and an error. -/
def NtPost (n : Nt) (er : Int) (w : World) (e : Ending) (w' : World) : Prop := ∃ A c B k, e = .returned (.tuple #[ntv n A c B k, .int .i64 er]) ∧ NtIn w' n A c B k ∧ Below w.heap.size w w'
def NtOnly (n : Nt) (w : World) (e : Ending) (w' : World) : Prop := ∃ A c B k, e = .returned (ntv n A c B k) ∧ NtIn w' n A c B k ∧ Below w.heap.size w w'
/-- .. a packet, links and an error. -/
def DlPost (p : Pk) (n : Nt) (er : Int) (w : World) (e : Ending) (w' : World) : Prop := ∃ D d A c B k, e = .returned (.tuple #[pkv p D d, ntv n A c B k, .int .i64 er]) ∧ Sl w' D p.da d ∧ NtIn w' n A c B k ∧ Below w.heap.size w w'
end Go.Proofs.Ytojijebmipgeeaa
