/- Values that the reader makes: in which blocks they lie. -/
import Derived.Test.YtkihimafeonibaaParse
namespace Go.Proofs.Ytkihimafeonibaa
open Go.RowKit
set_option linter.unusedVariables false

/-- The world holds a value, in blocks of which Q holds. -/
def RdQ (Q : Nat → Prop) (w : World) : T → Value → Prop
  | .nil, _ => False
  | .mk k n s len f, v => ∃ a cap, v = .agg #[.int .i64 k, .int .i64 n, .string s, .slice a len cap] ∧ Fit k ∧ Fit n ∧ s.size ≤ maxLen ∧ len ≤ maxLen ∧
      (0 < len → ∃ b off, a = some ⟨b, off, none⟩ ∧ Q b ∧ ∀ i, i < len → ∃ c0 c1 c2 c3,
        w.cell? ⟨b, off + i * 4, none⟩ = some c0 ∧ w.cell? ⟨b, off + i * 4 + 1, none⟩ = some c1 ∧ w.cell? ⟨b, off + i * 4 + 2, none⟩ = some c2 ∧ w.cell? ⟨b, off + i * 4 + 3, none⟩ = some c3 ∧
        RdQ Q w (f i) (.agg #[c0, c1, c2, c3]))

theorem RdQ.keep {Q Q' : Nat → Prop} {w w' : World} (hk : ∀ b, Q b → b < w.heap.size → Q' b ∧ w'.heap[b]? = w.heap[b]?) {t : T} : ∀ {v : Value}, RdQ Q w t v → RdQ Q' w' t v := by
  induction t with
  | nil => intros; exact False.elim (by assumption)
  | mk k n s len f ih =>
    rintro v ⟨a, cap, rfl, h1, h2, h3, h4, h5⟩
    refine ⟨a, cap, rfl, h1, h2, h3, h4, fun hl => ?_⟩
    obtain ⟨b, off, rfl, hb, hc⟩ := h5 hl
    have hlt : b < w.heap.size := by
      obtain ⟨c0, c1, c2, c3, e0, _⟩ := hc 0 hl
      exact World.block_lt_of_cell? w _ e0
    obtain ⟨hq, hblk⟩ := hk b hb hlt
    have hcell : ∀ (o : Nat) (u : Value), w.cell? ⟨b, o, none⟩ = some u → w'.cell? ⟨b, o, none⟩ = some u := fun o u h => (World.cell?_of_block (a := ⟨b, o, none⟩) hblk).trans h
    refine ⟨b, off, rfl, hq, fun i hi => ?_⟩
    obtain ⟨c0, c1, c2, c3, e0, e1, e2, e3, hr⟩ := hc i hi
    exact ⟨c0, c1, c2, c3, hcell _ _ e0, hcell _ _ e1, hcell _ _ e2, hcell _ _ e3, ih i hr⟩
theorem RdQ.rd {Q : Nat → Prop} {w : World} {t : T} : ∀ {v : Value}, RdQ Q w t v → Rd w.heap.size w t v := by
  induction t with
  | nil => intros; exact False.elim (by assumption)
  | mk k n s len f ih =>
    rintro v ⟨a, cap, rfl, h1, h2, h3, h4, h5⟩
    refine ⟨a, cap, rfl, h1, h2, h3, h4, fun hl => ?_⟩
    obtain ⟨b, off, rfl, hb, hc⟩ := h5 hl
    refine ⟨b, off, rfl, ?_, fun i hi => ?_⟩
    · obtain ⟨c0, c1, c2, c3, e0, _⟩ := hc 0 hl
      exact World.block_lt_of_cell? w _ e0
    · obtain ⟨c0, c1, c2, c3, e0, e1, e2, e3, hr⟩ := hc i hi
      exact ⟨c0, c1, c2, c3, e0, e1, e2, e3, ih i hr⟩
theorem RdQ.form {Q : Nat → Prop} {w : World} {t : T} {v : Value} (hr : RdQ Q w t v) : ∃ k n s a len cap, v = .agg #[.int .i64 k, .int .i64 n, .string s, .slice a len cap] := by
  cases t with
  | nil => exact False.elim hr
  | mk k n s len f => obtain ⟨a, cap, hv, _⟩ := hr; exact ⟨_, _, _, _, _, _, hv⟩

/-- The cells xs are those of the values ts. -/
def RowT (Q : Nat → Prop) (w : World) (ts : List T) (xs : List Value) : Prop :=
  ∀ i t, ts[i]? = some t → ∃ c0 c1 c2 c3, xs[i * 4]? = some c0 ∧ xs[i * 4 + 1]? = some c1 ∧ xs[i * 4 + 2]? = some c2 ∧ xs[i * 4 + 3]? = some c3 ∧ RdQ Q w t (.agg #[c0, c1, c2, c3])
theorem RowT.keep {Q Q' : Nat → Prop} {w w' : World} {ts : List T} {xs : List Value} (hr : RowT Q w ts xs) (hk : ∀ b, Q b → b < w.heap.size → Q' b ∧ w'.heap[b]? = w.heap[b]?) : RowT Q' w' ts xs := by
  intro i t ht
  obtain ⟨c0, c1, c2, c3, e0, e1, e2, e3, hr⟩ := hr i t ht
  exact ⟨c0, c1, c2, c3, e0, e1, e2, e3, hr.keep hk⟩
theorem RowT.snoc {Q : Nat → Prop} {w : World} {ts : List T} {xs : List Value} {t : T} {c0 c1 c2 c3 : Value} (hr : RowT Q w ts xs) (hl : xs.length = ts.length * 4) (ht : RdQ Q w t (.agg #[c0, c1, c2, c3])) :
    RowT Q w (ts ++ [t]) (xs ++ [c0, c1, c2, c3]) := by
  intro i u hu
  by_cases hi : i < ts.length
  · rw [List.getElem?_append_left hi] at hu
    obtain ⟨d0, d1, d2, d3, e0, e1, e2, e3, hr⟩ := hr i u hu
    refine ⟨d0, d1, d2, d3, ?_, ?_, ?_, ?_, hr⟩ <;> (rw [List.getElem?_append_left (by omega)]; assumption)
  · have hil : i = ts.length := by
      have := (List.getElem?_eq_some_iff.1 hu).1
      simp at this
      omega
    subst hil
    simp at hu
    subst hu
    refine ⟨c0, c1, c2, c3, ?_, ?_, ?_, ?_, ht⟩ <;> (rw [List.getElem?_append_right (by omega), hl]; simp)

/-- A row of the call's own that holds values is a list. -/
theorem RowT.list {Q Q' : Nat → Prop} {base : Nat} {w : World} {ts : List T} {xs : List Value} {A : Option Addr} {c : Nat} (hr : RowT Q w ts xs) (ho : w.ownsRow base 24 4 (.slice A ts.length c) ts.length xs) (hl : ts.length ≤ maxLen)
    (hQ : ∀ b, Q b → Q' b) (hg : ∀ b, base ≤ b → Q' b) :
    RdQ Q' w (tList ts) (.agg #[.int .i64 3, .int .i64 0, .string ⟨#[]⟩, .slice A ts.length c]) := by
  refine ⟨A, c, rfl, by unfold Fit; omega, by unfold Fit; omega, by unfold maxLen; simp [ByteArray.size], hl, fun hp => ?_⟩
  rcases ho.2 with ⟨hv, hn⟩ | ⟨g, cap, cur, hv, hbg, _⟩
  · omega
  · injection hv with hA
    subst hA
    refine ⟨g, 0, rfl, hg g hbg, fun i hi => ?_⟩
    have hcell := ho.cells (g := g) rfl
    obtain ⟨c0, c1, c2, c3, e0, e1, e2, e3, hr⟩ := hr i (ts.getD i .nil) (by simp [List.getD, List.getElem?_eq_getElem hi])
    have f0 := hcell _ _ e0
    have f1 := hcell _ _ e1
    have f2 := hcell _ _ e2
    have f3 := hcell _ _ e3
    rw [add_off] at f0 f1 f2 f3
    exact ⟨c0, c1, c2, c3, f0, by rw [Nat.add_assoc]; exact f1, by rw [Nat.add_assoc]; exact f2, by rw [Nat.add_assoc]; exact f3, hr.keep fun b hb _ => ⟨hQ b hb, rfl⟩⟩

theorem RdQ.int (Q : Nat → Prop) (w : World) (n : Int) (hn : Fit n) : RdQ Q w (tInt n) (.agg #[.int .i64 1, .int .i64 n, .string ⟨#[]⟩, .slice none 0 0]) :=
  ⟨none, 0, rfl, by unfold Fit; omega, hn, by unfold maxLen; simp [ByteArray.size], by unfold maxLen; omega, fun hl => absurd hl (by omega)⟩
theorem RdQ.text (Q : Nat → Prop) (w : World) (s : List UInt8) (hs : s.length ≤ maxLen) : RdQ Q w (tText s) (.agg #[.int .i64 2, .int .i64 0, .string ⟨s.toArray⟩, .slice none 0 0]) :=
  ⟨none, 0, rfl, by unfold Fit; omega, by unfold Fit; omega, hs, by unfold maxLen; omega, fun hl => absurd hl (by omega)⟩

theorem sgn_fit {u : Nat} (h : u < 18446744073709551616) : Fit (sgn u) := by
  unfold Fit sgn
  split <;> omega

/-- string(b) of what the reader took. -/
theorem conv_bs {h : Nat} {w : World} {A : Option Addr} {l : List UInt8} (c : Nat) (hb : Bs h w A l) :
    (convert 27 9 (.slice A l.length c)).run Try.prog w = .ok (.string ⟨l.toArray⟩) w := by
  cases l with
  | nil =>
    cases A with
    | none => exact run_convert_bytes_nil w _ _ Try.underlying27 Try.underlying5 0 c _ Try.underlying9
    | some a => exact run_convert_bytes_back w _ _ _ a c [] Try.underlying27 Try.underlying5 Try.underlying9 (fun j hj => absurd hj (by simp))
  | cons d l =>
    obtain ⟨b, off, rfl, _, hc⟩ := hb (by simp)
    refine run_convert_bytes_back w _ _ _ _ c (d :: l) Try.underlying27 Try.underlying5 Try.underlying9 fun j hj => ?_
    rw [add_off]
    exact hc j _ (List.getElem?_eq_getElem hj)

theorem val_info : (Try.prog.info? 24).map (fun i => (i.zero, i.size, i.bytes)) = some (some (.agg #[.int .i64 0, .int .i64 0, .string ⟨#[]⟩, .slice none 0 0]), 4, 56) := by kernel_rfl

/-- What value does. -/
def VPost (rd : Nat) (w : World) (o : Option (T × List UInt8)) (e : Ending) (w' : World) : Prop :=
  match o with
  | none => Bad rd w e w'
  | some x => ∃ v, e = .returned v ∧ RdQ (w.heap.size ≤ ·) w' x.1 v ∧ RS rd w' x.2 ∧ w.grownBy w' (some rd)
/-- What list does. -/
def LPost (rd : Nat) (w : World) (o : Option (List T × List UInt8)) (e : Ending) (w' : World) : Prop :=
  match o with
  | none => Bad rd w e w'
  | some x => ∃ A c xs, e = .returned (.slice A x.1.length c) ∧ w'.ownsRow w.heap.size 24 4 (.slice A x.1.length c) x.1.length xs ∧ RowT (w.heap.size ≤ ·) w' x.1 xs ∧ RS rd w' x.2 ∧ w.grownBy w' (some rd)

theorem grown_own {a b c : World} {r own : Option Nat} (h : a.grownBy b r) (k : b.grownBy c own) (ho : ∀ i, own = some i → a.heap.size ≤ i) : a.grownBy c r :=
  ⟨k.os.trans h.os, k.tape.trans h.tape, k.output.trans h.output, Nat.le_trans h.size k.size, fun i hi hne => (k.block i (Nat.lt_of_lt_of_le hi h.size) (fun e => by have := ho i e.symm; omega)).trans (h.block i hi hne)⟩
end Go.Proofs.Ytkihimafeonibaa
