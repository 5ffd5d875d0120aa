/- Shares: in memory, and as values. -/
import Derived.Test.YtjkojjimlebmjaaDoorLit
import Derived.Test.YtjkojjimlebmjaaDoorFac
namespace Go.Proofs.YtjkojjimlebmjaaDoor
open Go.RowKit
set_option linter.unusedVariables false

structure Shr where
  ep : Int
  ix : Int
  th : Int
  mn : Int
  data : List UInt8
/-- A share as a value: its bytes lie at A. -/
def shv (s : Shr) (A : Option Addr) (c : Nat) : Value := .agg #[.int .i64 s.ep, .int .i64 s.ix, .int .i64 s.th, .int .i64 s.mn, .slice A s.data.length c]
/-- Its cells. -/
def shc (s : Shr) (A : Option Addr) (c : Nat) : List Value := [.int .i64 s.ep, .int .i64 s.ix, .int .i64 s.th, .int .i64 s.mn, .slice A s.data.length c]
theorem sh_info : (Tryd.prog.info? 36).map (fun i => (i.zero, i.size, i.bytes)) = some (some (.agg #[.int .i64 0, .int .i64 0, .int .i64 0, .int .i64 0, .slice none 0 0]), 5, 56) := by kernel_rfl

theorem Sl.keep {w w' : World} {A : Option Addr} {l : List UInt8} {c : Nat} {row : Option Nat} (h : Sl w A l c) (hg : w.grownBy w' row) (hr : ∀ b off, A = some ⟨b, off, none⟩ → some b ≠ row) : Sl w' A l c :=
  ⟨(h.1.keep hg hr).more hg.size, h.2⟩

/-- The share s lies at this place. -/
def ShAt (w : World) (b off : Nat) (s : Shr) : Prop := ∃ A c, w.cell? ⟨b, off, none⟩ = some (.int .i64 s.ep) ∧ w.cell? ⟨b, off + 1, none⟩ = some (.int .i64 s.ix) ∧ w.cell? ⟨b, off + 2, none⟩ = some (.int .i64 s.th) ∧
  w.cell? ⟨b, off + 3, none⟩ = some (.int .i64 s.mn) ∧ w.cell? ⟨b, off + 4, none⟩ = some (.slice A s.data.length c) ∧ Sl w A s.data c
theorem ShAt.up {w w' : World} {b off : Nat} {s : Shr} (h : ShAt w b off s) (hb : b < w.heap.size) (k : Below w.heap.size w w') : ShAt w' b off s := by
  obtain ⟨A, c, h0, h1, h2, h3, h4, hs⟩ := h
  exact ⟨A, c, (k.cell (p := ⟨b, off, none⟩) hb).trans h0, (k.cell (p := ⟨b, off + 1, none⟩) hb).trans h1, (k.cell (p := ⟨b, off + 2, none⟩) hb).trans h2, (k.cell (p := ⟨b, off + 3, none⟩) hb).trans h3, (k.cell (p := ⟨b, off + 4, none⟩) hb).trans h4, hs.up k⟩
/-- A slice of shares. -/
def SS (w : World) (A : Option Addr) (l : List Shr) (c : Nat) : Prop := (0 < l.length → ∃ b off, A = some ⟨b, off, none⟩ ∧ b < w.heap.size ∧ ∀ i s, l[i]? = some s → ShAt w b (off + i * 5) s) ∧ l.length ≤ c ∧ c ≤ maxLen ∧ (A = none → l = [] ∧ c = 0)
theorem SS.up {w w' : World} {A : Option Addr} {l : List Shr} {c : Nat} (h : SS w A l c) (k : Below w.heap.size w w') : SS w' A l c := by
  refine ⟨fun hp => ?_, h.2⟩
  obtain ⟨b, off, e, hb, hs⟩ := h.1 hp
  exact ⟨b, off, e, Nat.lt_of_lt_of_le hb k.size, fun i s hi => (hs i s hi).up hb k⟩
theorem SS.nil (w : World) : SS w none [] 0 := ⟨fun h => absurd h (by simp), by simp, by unfold maxLen; omega, fun _ => ⟨rfl, rfl⟩⟩

/-! Rows of blocks of five cells. -/
theorem flat5 : ∀ (bs : List (List Value)), (∀ b ∈ bs, b.length = 5) → bs.flatten.length = bs.length * 5
  | [], _ => rfl
  | b :: bs, h => by
    rw [List.flatten_cons, List.length_append, flat5 bs (fun x hx => h x (by simp [hx])), h b (by simp), List.length_cons]
    omega
theorem flat5_at : ∀ (bs : List (List Value)), (∀ b ∈ bs, b.length = 5) → ∀ k b j, bs[k]? = some b → j < 5 → bs.flatten[k * 5 + j]? = b[j]?
  | [], _, k, b, j, hk, _ => by simp at hk
  | a :: bs, h, 0, b, j, hk, hj => by
    simp at hk
    subst hk
    have := h a (by simp)
    rw [List.flatten_cons, Nat.zero_mul, Nat.zero_add, List.getElem?_append_left (by omega)]
  | a :: bs, h, k + 1, b, j, hk, hj => by
    have ha := h a (by simp)
    rw [List.flatten_cons, List.getElem?_append_right (by omega), ha, show (k + 1) * 5 + j - 5 = k * 5 + j by omega]
    exact flat5_at bs (fun x hx => h x (by simp [hx])) k b j (by simpa using hk) hj
theorem flat5_set : ∀ (bs : List (List Value)), (∀ b ∈ bs, b.length = 5) → ∀ k, k < bs.length → ∀ v0 v1 v2 v3 v4 : Value, (bs.set k [v0, v1, v2, v3, v4]).flatten = ((((bs.flatten.set (k * 5) v0).set (k * 5 + 1) v1).set (k * 5 + 2) v2).set (k * 5 + 3) v3).set (k * 5 + 4) v4
  | [], _, k, hk, _, _, _, _, _ => by simp at hk
  | a :: bs, h, 0, hk, v0, v1, v2, v3, v4 => by
    have ha := h a (by simp)
    match a, ha with
    | [a0, a1, a2, a3, a4], _ => rfl
  | a :: bs, h, k + 1, hk, v0, v1, v2, v3, v4 => by
    have ha := h a (by simp)
    have ih := flat5_set bs (fun x hx => h x (by simp [hx])) k (by simpa using hk) v0 v1 v2 v3 v4
    rw [List.set_cons_succ, List.flatten_cons, ih, List.flatten_cons]
    match a, ha with
    | [a0, a1, a2, a3, a4], _ =>
      rw [show (k + 1) * 5 = k * 5 + 1 + 1 + 1 + 1 + 1 by omega]
      simp only [List.cons_append, List.nil_append, Nat.add_assoc, Nat.reduceAdd, List.set_cons_succ]

/-- Five cells of an own row are written. -/
theorem own5_step {w : World} {B g n c k : Nat} {bs : List (List Value)} {e : TypeId} (h : w.ownsRow B e 5 (.slice (some ⟨g, 0, none⟩) n c) n bs.flatten) (h5 : ∀ b ∈ bs, b.length = 5) (hk : k < bs.length) (v0 v1 v2 v3 v4 : Value) :
    (((((w.setCell ⟨g, k * 5, none⟩ v0).setCell ⟨g, k * 5 + 1, none⟩ v1).setCell ⟨g, k * 5 + 2, none⟩ v2).setCell ⟨g, k * 5 + 3, none⟩ v3).setCell ⟨g, k * 5 + 4, none⟩ v4).ownsRow B e 5 (.slice (some ⟨g, 0, none⟩) n c) n (bs.set k [v0, v1, v2, v3, v4]).flatten ∧
      w.grownBy (((((w.setCell ⟨g, k * 5, none⟩ v0).setCell ⟨g, k * 5 + 1, none⟩ v1).setCell ⟨g, k * 5 + 2, none⟩ v2).setCell ⟨g, k * 5 + 3, none⟩ v3).setCell ⟨g, k * 5 + 4, none⟩ v4) (some g) := by
  have s0 := h.stored (k * 5) v0
  have s1 := s0.1.stored (k * 5 + 1) v1
  have s2 := s1.1.stored (k * 5 + 2) v2
  have s3 := s2.1.stored (k * 5 + 3) v3
  have s4 := s3.1.stored (k * 5 + 4) v4
  rw [flat5_set bs h5 k hk]
  exact ⟨s4.1, grown_trans (grown_trans (grown_trans (grown_trans s0.2 s1.2) s2.2) s3.2) s4.2⟩
theorem own5_cell {w : World} {B g n c k j : Nat} {bs : List (List Value)} {e : TypeId} (h : w.ownsRow B e 5 (.slice (some ⟨g, 0, none⟩) n c) n bs.flatten) (h5 : ∀ b ∈ bs, b.length = 5) (hn : bs.length = n) (hk : k < n) (hj : j < 5) :
    ∃ v, w.cell? ⟨g, k * 5 + j, none⟩ = some v := by
  have hl := flat5 bs h5
  refine ⟨bs.flatten[k * 5 + j]'(by omega), ?_⟩
  rw [h.cellAt (k * 5 + j) (by omega), List.getElem?_eq_getElem (by omega)]

/-- The shares that have come: blocks of cells, the first k of them the shares F. -/
def Come (w : World) (n : Nat) (F : Nat → Shr) (k : Nat) (wr : World) : Prop := ∃ bs : List (List Value), bs.length = n ∧ (∀ b ∈ bs, b.length = 5) ∧ wr.ownsRow w.heap.size 36 5 (.slice (some ⟨w.heap.size, 0, none⟩) n n) n bs.flatten ∧
  ∀ i, i < k → ∃ A c, bs[i]? = some (shc (F i) A c) ∧ Sl wr A (F i).data c ∧ ∀ b off, A = some ⟨b, off, none⟩ → w.heap.size < b
theorem Come.below {w wr w2 : World} {n k : Nat} {F : Nat → Shr} (h : Come w n F k wr) (hb : Below wr.heap.size wr w2) : Come w n F k w2 := by
  obtain ⟨bs, hl, h5, ho, hs⟩ := h
  refine ⟨bs, hl, h5, own_below ho hb, fun i hi => ?_⟩
  obtain ⟨A, c, h1, h2, h3⟩ := hs i hi
  exact ⟨A, c, h1, h2.up hb, h3⟩
theorem Come.lt {w wr : World} {n k : Nat} {F : Nat → Shr} (h : Come w n F k wr) : w.heap.size < wr.heap.size := by
  obtain ⟨bs, hl, h5, ho, hs⟩ := h
  exact (World.ownsRow.lt ho w.heap.size rfl).2
theorem Come.cells {w wr : World} {n k i : Nat} {F : Nat → Shr} (h : Come w n F k wr) (hi : i < n) : (∃ v, wr.cell? ⟨w.heap.size, i * 5, none⟩ = some v) ∧ (∃ v, wr.cell? ⟨w.heap.size, i * 5 + 1, none⟩ = some v) ∧ (∃ v, wr.cell? ⟨w.heap.size, i * 5 + 2, none⟩ = some v) ∧
    (∃ v, wr.cell? ⟨w.heap.size, i * 5 + 3, none⟩ = some v) ∧ (∃ v, wr.cell? ⟨w.heap.size, i * 5 + 4, none⟩ = some v) ∧ ∀ j, wr.frozen? ⟨w.heap.size, j, none⟩ = false := by
  obtain ⟨bs, hl, h5, ho, hs⟩ := h
  exact ⟨own5_cell (j := 0) ho h5 hl hi (by omega), own5_cell ho h5 hl hi (by omega), own5_cell ho h5 hl hi (by omega), own5_cell ho h5 hl hi (by omega), own5_cell ho h5 hl hi (by omega), fun j => ho.frozenAt j⟩
theorem Come.step {w wr : World} {n k : Nat} {F : Nat → Shr} (h : Come w n F k wr) (hk : k < n) (A : Option Addr) (c m : Nat) (hm : (F k).data.length = m) (hs : Sl wr A (F k).data c) (hA : ∀ b off, A = some ⟨b, off, none⟩ → w.heap.size < b) (W : World)
    (hW : W = (((((wr.setCell ⟨w.heap.size, k * 5, none⟩ (.int .i64 (F k).ep)).setCell ⟨w.heap.size, k * 5 + 1, none⟩ (.int .i64 (F k).ix)).setCell ⟨w.heap.size, k * 5 + 2, none⟩ (.int .i64 (F k).th)).setCell ⟨w.heap.size, k * 5 + 3, none⟩ (.int .i64 (F k).mn)).setCell ⟨w.heap.size, k * 5 + 4, none⟩ (.slice A m c))) :
    Come w n F (k + 1) W ∧ wr.grownBy W (some w.heap.size) := by
  subst hm
  obtain ⟨bs, hl, h5, ho, hss⟩ := h
  have hst := own5_step ho h5 (k := k) (by omega) (.int .i64 (F k).ep) (.int .i64 (F k).ix) (.int .i64 (F k).th) (.int .i64 (F k).mn) (.slice A (F k).data.length c)
  rw [← hW] at hst
  refine ⟨⟨bs.set k (shc (F k) A c), by simpa using hl, ?_, hst.1, fun i hi => ?_⟩, hst.2⟩
  · intro b hb
    rcases List.mem_or_eq_of_mem_set hb with h1 | h1
    · exact h5 b h1
    · rw [h1]; rfl
  · by_cases e : i = k
    · subst e
      exact ⟨A, c, by rw [List.getElem?_set_self (by omega)], hs.keep hst.2 (fun b off hAb => by have := hA b off hAb; simp; omega), hA⟩
    · obtain ⟨A2, c2, h1, h2, h3⟩ := hss i (by omega)
      exact ⟨A2, c2, by rw [List.getElem?_set_ne (Ne.symm e)]; exact h1, h2.keep hst.2 (fun b off hAb => by have := h3 b off hAb; simp; omega), h3⟩
theorem Come.done {w wr : World} {n : Nat} {F : Nat → Shr} (hn : n ≤ 1000000) (h : Come w n F n wr) : SS wr (some ⟨w.heap.size, 0, none⟩) ((List.range n).map F) n := by
  have hlt := h.lt
  obtain ⟨bs, hl, h5, ho, hs⟩ := h
  refine ⟨fun hp => ⟨w.heap.size, 0, rfl, hlt, fun i s hi => ?_⟩, by simp, le_maxLen (by omega), fun h => by cases h⟩
  have hin : i < n := by
    have := (List.getElem?_eq_some_iff.1 hi).1
    simpa using this
  have hF : F i = s := by simpa [List.getElem?_range hin, hin] using hi
  obtain ⟨A, c, h1, h2, _⟩ := hs i hin
  rw [hF] at h1 h2
  have hc : ∀ j, j < 5 → wr.cell? ⟨w.heap.size, 0 + i * 5 + j, none⟩ = (shc s A c)[j]? := fun j hj => by
    rw [Nat.zero_add, ho.cellAt _ (by omega), flat5_at bs h5 i _ j h1 hj]
  exact ⟨A, c, hc 0 (by omega), hc 1 (by omega), hc 2 (by omega), hc 3 (by omega), hc 4 (by omega), h2⟩
/-- A new row of shares. -/
def RowS (l : List Shr) (w : World) (e : Ending) (w' : World) : Prop := ∃ g c, w.heap.size ≤ g ∧ e = .returned (.slice (some ⟨g, 0, none⟩) l.length c) ∧ SS w' (some ⟨g, 0, none⟩) l c ∧ Below w.heap.size w w'
end Go.Proofs.YtjkojjimlebmjaaDoor
