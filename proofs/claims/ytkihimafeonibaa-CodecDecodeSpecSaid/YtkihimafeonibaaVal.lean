/- The data of the laws of layer 1, as plain Lean: a value of the codec, and what it is for memory to hold one. -/
import Derived.WalkKit
namespace Go.Proofs.Ytkihimafeonibaa
open Go.RowKit

/-- A value of the codec: kind, integer, text, number of elements, elements; 'nil' stands for no value (what lies behind the last element). -/
inductive T where
  | nil
  | mk (k n : Int) (s : ByteArray) (len : Nat) (f : Nat → T)

def Fit (n : Int) : Prop := -9223372036854775808 ≤ n ∧ n ≤ 9223372036854775807

/-- The world holds a value, in blocks below B. -/
def Rd (B : Nat) (w : World) : T → Value → Prop
  | .nil, _ => False
  | .mk k n s len f, v => ∃ a cap, v = .agg #[.int .i64 k, .int .i64 n, .string s, .slice a len cap] ∧ Fit k ∧ Fit n ∧ s.size ≤ maxLen ∧ len ≤ maxLen ∧
      (0 < len → ∃ b off, a = some ⟨b, off, none⟩ ∧ b < B ∧ ∀ i, i < len → ∃ c0 c1 c2 c3,
        w.cell? ⟨b, off + i * 4, none⟩ = some c0 ∧ w.cell? ⟨b, off + i * 4 + 1, none⟩ = some c1 ∧ w.cell? ⟨b, off + i * 4 + 2, none⟩ = some c2 ∧ w.cell? ⟨b, off + i * 4 + 3, none⟩ = some c3 ∧
        Rd B w (f i) (.agg #[c0, c1, c2, c3]))

/-- The world holds a slice of values. -/
def RdS (B : Nat) (w : World) (len : Nat) (f : Nat → T) (a : Option Addr) : Prop :=
  0 < len → ∃ b off, a = some ⟨b, off, none⟩ ∧ b < B ∧ ∀ i, i < len → ∃ c0 c1 c2 c3,
    w.cell? ⟨b, off + i * 4, none⟩ = some c0 ∧ w.cell? ⟨b, off + i * 4 + 1, none⟩ = some c1 ∧ w.cell? ⟨b, off + i * 4 + 2, none⟩ = some c2 ∧ w.cell? ⟨b, off + i * 4 + 3, none⟩ = some c3 ∧
    Rd B w (f i) (.agg #[c0, c1, c2, c3])

theorem Rd.keep {B B' : Nat} {w w' : World} (hB : B ≤ B') (hk : ∀ p : Addr, p.block < B → w'.cell? p = w.cell? p) {t : T} : ∀ {v : Value}, Rd B w t v → Rd B' w' t v := by
  induction t with
  | nil => first | (intros; exact False.elim (by assumption)) | (intro hw; cases hw)
  | mk k n s len f ih =>
    rintro v ⟨a, cap, rfl, h1, h2, h3, h4, h5⟩
    refine ⟨a, cap, rfl, h1, h2, h3, h4, fun hl => ?_⟩
    obtain ⟨b, off, rfl, hb, hc⟩ := h5 hl
    refine ⟨b, off, rfl, by omega, fun i hi => ?_⟩
    obtain ⟨c0, c1, c2, c3, e0, e1, e2, e3, hr⟩ := hc i hi
    exact ⟨c0, c1, c2, c3, by rw [hk _ hb]; exact e0, by rw [hk _ hb]; exact e1, by rw [hk _ hb]; exact e2, by rw [hk _ hb]; exact e3, ih i hr⟩

theorem Rd.below {B : Nat} {w w' : World} {t : T} {v : Value} (h : Rd B w t v) (hb : Below B w w') : Rd B w' t v :=
  h.keep (Nat.le_refl _) (fun _ hp => hb.cell hp)
theorem Rd.more {B B' : Nat} {w : World} {t : T} {v : Value} (h : Rd B w t v) (hB : B ≤ B') : Rd B' w t v :=
  h.keep hB (fun _ _ => rfl)

theorem Rd.drew {B : Nat} {w : World} {t : T} {v : Value} (h : Rd B w t v) : Rd B w.drew t v := Rd.keep (B := B) (B' := B) (w := w) (w' := w.drew) (Nat.le_refl _) (fun _ _ => rfl) h

theorem Rd.up {w w' : World} {t : T} {v : Value} (h : Rd w.heap.size w t v) (hb : Below w.heap.size w w') : Rd w'.heap.size w' t v := (h.below hb).more hb.size

theorem RdS.keep {B B' : Nat} {w w' : World} (hB : B ≤ B') (hk : ∀ p : Addr, p.block < B → w'.cell? p = w.cell? p) {len : Nat} {f : Nat → T} {a : Option Addr} (h : RdS B w len f a) : RdS B' w' len f a := by
  intro hl
  obtain ⟨b, off, rfl, hb, hc⟩ := h hl
  refine ⟨b, off, rfl, by omega, fun i hi => ?_⟩
  obtain ⟨c0, c1, c2, c3, e0, e1, e2, e3, hr⟩ := hc i hi
  exact ⟨c0, c1, c2, c3, by rw [hk _ hb]; exact e0, by rw [hk _ hb]; exact e1, by rw [hk _ hb]; exact e2, by rw [hk _ hb]; exact e3, hr.keep hB hk⟩
theorem RdS.below {B : Nat} {w w' : World} {len : Nat} {f : Nat → T} {a : Option Addr} (h : RdS B w len f a) (hb : Below B w w') : RdS B w' len f a :=
  h.keep (Nat.le_refl _) (fun _ hp => hb.cell hp)
theorem RdS.more {B B' : Nat} {w : World} {len : Nat} {f : Nat → T} {a : Option Addr} (h : RdS B w len f a) (hB : B ≤ B') : RdS B' w len f a :=
  h.keep hB (fun _ _ => rfl)
/-- Element i of a slice, in a later world. -/
theorem RdS.at_ {w wr : World} {len : Nat} {f : Nat → T} {a : Option Addr} (h : RdS w.heap.size w len f a) (hb : Below w.heap.size w wr) {i : Nat} (hi : i < len) :
    ∃ b off c0 c1 c2 c3, a = some ⟨b, off, none⟩ ∧ b < w.heap.size ∧ wr.cell? ⟨b, off + i * 4, none⟩ = some c0 ∧ wr.cell? ⟨b, off + i * 4 + 1, none⟩ = some c1 ∧
      wr.cell? ⟨b, off + i * 4 + 2, none⟩ = some c2 ∧ wr.cell? ⟨b, off + i * 4 + 3, none⟩ = some c3 ∧ Rd wr.heap.size wr (f i) (.agg #[c0, c1, c2, c3]) := by
  obtain ⟨b, off, rfl, hbl, hc⟩ := h (by omega)
  obtain ⟨c0, c1, c2, c3, e0, e1, e2, e3, hr⟩ := hc i hi
  exact ⟨b, off, c0, c1, c2, c3, rfl, hbl, by rw [hb.cell hbl]; exact e0, by rw [hb.cell hbl]; exact e1, by rw [hb.cell hbl]; exact e2, by rw [hb.cell hbl]; exact e3, (hr.below hb).more hb.size⟩

theorem Rd.ex {B : Nat} {w : World} {t : T} {v : Value} (h : Rd B w t v) : ∃ k n s len f, t = .mk k n s len f := by
  cases t with
  | nil => exact False.elim h
  | mk k n s len f => exact ⟨k, n, s, len, f, rfl⟩

theorem Rd.form {B : Nat} {w : World} {t : T} {c0 c1 c2 c3 : Value} (h : Rd B w t (.agg #[c0, c1, c2, c3])) : ∃ k n s a len cap, c0 = .int .i64 k ∧ c1 = .int .i64 n ∧ c2 = .string s ∧ c3 = .slice a len cap := by
  obtain ⟨k, n, s, len, f, rfl⟩ := h.ex
  obtain ⟨a, cap, hv, _⟩ := h
  injection hv with hv
  simp at hv
  exact ⟨k, n, s, a, len, cap, hv⟩

/-- Behind a box of four cells: what the box holds, and that old memory is as it was. -/
theorem box4 {w wr : World} {c0 c1 c2 c3 : Value} {t : TypeId} (hb : Below (w.heap.size + 1) (w.alloc (.cells #[c0, c1, c2, c3] t)) wr) :
    wr.cell? ⟨w.heap.size, 0, none⟩ = some c0 ∧ wr.cell? ⟨w.heap.size, 1, none⟩ = some c1 ∧ wr.cell? ⟨w.heap.size, 2, none⟩ = some c2 ∧ wr.cell? ⟨w.heap.size, 3, none⟩ = some c3 ∧ w.heap.size < wr.heap.size := by
  have hs := hb.size
  simp at hs
  refine ⟨?_, ?_, ?_, ?_, by omega⟩ <;> (rw [hb.cell (by simp)]; simp [go_sem])

theorem box4_below {w wr : World} {o : Obj} (hb : Below (w.heap.size + 1) (w.alloc o) wr) : Below w.heap.size w wr :=
  ((Below.refl _ _).alloc (Nat.le_refl _) o).trans (hb.mono (by omega))

/-- Behind two boxes of four cells. -/
theorem box44 {w wr : World} {c0 c1 c2 c3 d0 d1 d2 d3 : Value} {t u : TypeId} (hb : Below (w.heap.size + 2) ((w.alloc (.cells #[c0, c1, c2, c3] t)).alloc (.cells #[d0, d1, d2, d3] u)) wr) :
    wr.cell? ⟨w.heap.size, 0, none⟩ = some c0 ∧ wr.cell? ⟨w.heap.size, 1, none⟩ = some c1 ∧ wr.cell? ⟨w.heap.size, 2, none⟩ = some c2 ∧ wr.cell? ⟨w.heap.size, 3, none⟩ = some c3 ∧
    wr.cell? ⟨w.heap.size + 1, 0, none⟩ = some d0 ∧ wr.cell? ⟨w.heap.size + 1, 1, none⟩ = some d1 ∧ wr.cell? ⟨w.heap.size + 1, 2, none⟩ = some d2 ∧ wr.cell? ⟨w.heap.size + 1, 3, none⟩ = some d3 ∧ w.heap.size + 1 < wr.heap.size := by
  have hs := hb.size
  simp at hs
  refine ⟨?_, ?_, ?_, ?_, ?_, ?_, ?_, ?_, by omega⟩ <;> (rw [hb.cell (by simp)]; simp [go_sem])

theorem box44_below {w wr : World} {o p : Obj} (hb : Below (w.heap.size + 2) ((w.alloc o).alloc p) wr) : Below w.heap.size w wr :=
  (((Below.refl _ _).alloc (Nat.le_refl _) o).alloc (by simp) p).trans (hb.mono (by omega))

/-- Every text of a value is at most a slice long. -/
def Short : T → Prop
  | .nil => False
  | .mk _ _ s len f => s.size ≤ 9223372036854775807 ∧ ∀ i, i < len → Short (f i)

theorem Rd.short {B : Nat} {w : World} : ∀ (t : T) (v : Value), Rd B w t v → Short t := by
  intro t
  induction t with
  | nil => first | (intros; exact False.elim (by assumption)) | (intro hw; cases hw)
  | mk k n s len f ih =>
    rintro v ⟨a, cap, rfl, h1, h2, h3, h4, h5⟩
    refine ⟨by unfold maxLen at h3; omega, fun i hi => ?_⟩
    obtain ⟨b, off, rfl, hb, hc⟩ := h5 (by omega)
    obtain ⟨c0, c1, c2, c3, e0, e1, e2, e3, hr⟩ := hc i hi
    exact ih i _ hr

/-- Does p hold at 0, 1 .. up to j? -/
def allTo (p : Nat → Bool) : Nat → Bool
  | 0 => true
  | j + 1 => allTo p j && p j
theorem allTo_stop {p : Nat → Bool} {j n : Nat} (h : p j = false) (hn : j < n) : allTo p n = false := by
  induction n with
  | zero => omega
  | succ n ih =>
    by_cases e : j = n
    · subst e; simp [allTo, h]
    · simp [allTo, ih (by omega)]
theorem allTo_eq {p : Nat → Bool} {n : Nat} : allTo p n = true ↔ ∀ i, i < n → p i = true := by
  induction n with
  | zero => simp [allTo]
  | succ n ih =>
    simp only [allTo, Bool.and_eq_true, ih]
    constructor
    · rintro ⟨h1, h2⟩ i hi
      by_cases e : i = n
      · subst e; exact h2
      · exact h1 i (by omega)
    · exact fun h => ⟨fun i hi => h i (by omega), h n (by omega)⟩

/-- Are two values equal in all fields? -/
def same : T → T → Bool
  | .nil, .nil => true
  | .nil, .mk .. => false
  | .mk .., .nil => false
  | .mk k n s len f, .mk k' n' s' len' f' => k == k' && n == n' && s.toList == s'.toList && len == len' && allTo (fun i => same (f i) (f' i)) len

/-- Is a value well-formed? -/
def wfB : T → Bool
  | .nil => false
  | .mk k n s len f => if k = 1 then s.toList.isEmpty && len == 0 else if k = 2 then n == 0 && len == 0 else if k = 3 then n == 0 && s.toList.isEmpty && allTo (fun i => wfB (f i)) len else false

/-- The greatest of g 0, g 1 .. up to j, at least 0. -/
def maxTo (g : Nat → Nat) : Nat → Nat
  | 0 => 0
  | j + 1 => max (maxTo g j) (g j)
theorem maxTo_le {g : Nat → Nat} {n M : Nat} (h : ∀ i, i < n → g i ≤ M) : maxTo g n ≤ M := by
  induction n with
  | zero => simp [maxTo]
  | succ n ih =>
    have := ih (fun i hi => h i (by omega))
    have := h n (by omega)
    simp only [maxTo]
    omega
theorem le_maxTo {g : Nat → Nat} {n i : Nat} (h : i < n) : g i ≤ maxTo g n := by
  induction n with
  | zero => omega
  | succ n ih =>
    simp only [maxTo]
    by_cases e : i = n
    · subst e; omega
    · have := ih (by omega); omega

/-- The depth of a value. -/
def dep : T → Nat
  | .nil => 0
  | .mk k _ _ len f => if k = 3 then maxTo (fun i => dep (f i)) len + 1 else 0

/-- What Check answers. -/
def chk (t : T) : Int := if wfB t then (if 16 < dep t then 2 else 0) else 1

theorem ret_int {k : IntKind} {a b : Int} (h : a = b) : Ending.returned (.int k a) = .returned (.int k b) := by rw [h]
theorem ret_bool {a b : Bool} (h : a = b) : Ending.returned (.bool a) = .returned (.bool b) := by rw [h]

end Go.Proofs.Ytkihimafeonibaa
