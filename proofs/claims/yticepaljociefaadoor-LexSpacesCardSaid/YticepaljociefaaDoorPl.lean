/- Plain: classes of bytes, names, numbers, tokens of a source. -/
import Derived.Test.YticepaljociefaaDoorMem
namespace Go.Proofs.YticepaljociefaaDoor
set_option linter.unusedVariables false

def isL (b : UInt8) : Bool := (decide (97 ≤ b.toNat) && decide (b.toNat ≤ 122)) || (decide (65 ≤ b.toNat) && decide (b.toNat ≤ 90))
def isD (b : UInt8) : Bool := decide (48 ≤ b.toNat) && decide (b.toNat ≤ 57)
def isSp (b : UInt8) : Bool := b.toNat == 32 || b.toNat == 9 || b.toNat == 10 || b.toNat == 13
def sgs : List UInt8 := [123, 125, 40, 41, 59, 44, 61, 58, 46, 60, 62, 33, 43, 45, 42, 47]
def isSg (b : UInt8) : Bool := sgs.contains b
def isP (b : UInt8) : Bool := isL b || isD b || b.toNat == 95
def noLf (b : UInt8) : Bool := b.toNat != 10
/-- The class of a byte. -/
def cl (b : UInt8) : Nat := if isSp b then 1 else if isL b then 2 else if isD b then 3 else if b.toNat == 95 then 4 else if b.toNat == 47 then 6 else if isSg b then 5 else 0

theorem allN {p : Nat → Bool} (n : Nat) (h : (List.range n).all p = true) : ∀ i, i < n → p i = true := fun i hi => List.all_eq_true.1 h i (List.mem_range.2 hi)
theorem u8_all (f : UInt8 → Bool) (h : (List.range 256).all (fun i => f (UInt8.ofNat i)) = true) (a : UInt8) : f a = true := by
  have := allN 256 h a.toNat a.toNat_lt
  rwa [UInt8.ofNat_toNat] at this
theorem cl_lt (b : UInt8) : cl b < 7 := by
  have := u8_all (fun b => decide (cl b < 7)) (by decide +kernel) b
  simpa using this
theorem cl_big (b : UInt8) (h : 128 ≤ b.toNat) : cl b = 0 := by
  have := u8_all (fun b => decide (128 ≤ b.toNat → cl b = 0)) (by decide +kernel) b
  exact of_decide_eq_true this h
theorem cl_L (b : UInt8) : decide (cl b = 2) = isL b := by
  have := u8_all (fun b => decide (cl b = 2) == isL b) (by decide +kernel) b
  simpa using this
theorem cl_D (b : UInt8) : decide (cl b = 3) = isD b := by
  have := u8_all (fun b => decide (cl b = 3) == isD b) (by decide +kernel) b
  simpa using this
theorem cl_P (b : UInt8) : (decide (cl b = 2) || decide (cl b = 3) || decide (cl b = 4)) = isP b := by
  have := u8_all (fun b => (decide (cl b = 2) || decide (cl b = 3) || decide (cl b = 4)) == isP b) (by decide +kernel) b
  simpa using this
theorem cl_S (b : UInt8) : (decide (cl b = 5) || decide (cl b = 6)) = isSg b := by
  have := u8_all (fun b => (decide (cl b = 5) || decide (cl b = 6)) == isSg b) (by decide +kernel) b
  simpa using this

/-- A name. -/
def nm (s : List UInt8) : Bool := decide (0 < s.length) && decide (s.length ≤ 32) && isL (s.headD 0) && s.all isP
/-- The number with these digits. -/
def nv : Nat → List UInt8 → Option Nat
  | n, [] => some n
  | n, b :: l => if 1099511627776 < 10 * n + (b.toNat - 48) then none else nv (10 * n + (b.toNat - 48)) l
theorem nv_cons (n : Nat) (b : UInt8) (l : List UInt8) : nv n (b :: l) = if 1099511627776 < 10 * n + (b.toNat - 48) then none else nv (10 * n + (b.toNat - 48)) l := rfl
def num (ds : List UInt8) : Option Nat := if 1 < ds.length ∧ (ds.headD 0).toNat = 48 then none else nv 0 ds
theorem nv_le : ∀ (l : List UInt8) (n m : Nat), n ≤ 1099511627776 → nv n l = some m → m ≤ 1099511627776
  | [], n, m, hn, h => by cases h; exact hn
  | b :: l, n, m, hn, h => by
    unfold nv at h
    split at h
    · cases h
    · exact nv_le l _ m (by omega) h
theorem num_le {l : List UInt8} {m : Nat} (h : num l = some m) : m ≤ 1099511627776 := by
  unfold num at h
  split at h
  · cases h
  · exact nv_le l 0 m (by omega) h

/-- A token: its kind, text, number and place. -/
structure Tk where
  k : Int
  t : List UInt8
  n : Int
  p : Int
deriving DecidableEq
/-- What the rest of a source begins with. -/
inductive St where
  | bad
  | skip (m : Nat)
  | tok (k : Int) (t : List UInt8) (n : Int) (m : Nat)
def stc (c : Nat) (l : List UInt8) : St :=
  if c = 1 then .skip 1
  else if c = 2 then (if nm (l.takeWhile isP) then .tok 1 (l.takeWhile isP) 0 (l.takeWhile isP).length else .bad)
  else if c = 3 then (match num (l.takeWhile isD) with | some n => .tok 2 [] n (l.takeWhile isD).length | none => .bad)
  else if c = 5 then .tok 3 (l.take 1) 0 1
  else if c = 6 then (if l.take 2 = [47, 47] then .skip (l.takeWhile noLf).length else .tok 3 (l.take 1) 0 1)
  else .bad
def st (l : List UInt8) : St := stc (cl (l.headD 0)) l
/-- The tokens, or the place of an error. -/
inductive Rs where
  | ok (l : List Tk)
  | no (i : Nat)
def Rs.pre (out : List Tk) : Rs → Rs
  | ok l => ok (out ++ l)
  | no i => no i
theorem Rs.pre_pre (a b : List Tk) (r : Rs) : (r.pre b).pre a = r.pre (a ++ b) := by cases r <;> simp [Rs.pre]
theorem Rs.pre_nil (r : Rs) : r.pre [] = r := by cases r <;> simp [Rs.pre]
def lx : Nat → List UInt8 → Nat → Rs
  | 0, _, _ => .ok []
  | f + 1, l, i => if l = [] then .ok [] else match st l with
    | .bad => .no i
    | .skip m => lx f (l.drop m) (i + m)
    | .tok k t n m => (lx f (l.drop m) (i + m)).pre [⟨k, t, n, i⟩]
def lex (l : List UInt8) : Rs := lx l.length l 0

theorem tw_cons {p : UInt8 → Bool} {c : UInt8} {r : List UInt8} (h : p c = true) : (c :: r).takeWhile p = c :: r.takeWhile p := by simp [h]
theorem tw_len {p : UInt8 → Bool} (l : List UInt8) : (l.takeWhile p).length ≤ l.length := (List.takeWhile_sublist p).length_le
theorem nm_pos {s : List UInt8} (h : nm s = true) : 0 < s.length := by
  unfold nm at h
  simp only [Bool.and_eq_true, decide_eq_true_eq] at h
  exact h.1.1.1
theorem cl3 {c : UInt8} (h : cl c = 3) : isD c = true := by rw [← cl_D]; exact decide_eq_true h
theorem cl2 {c : UInt8} (h : cl c = 2) : isL c = true := by rw [← cl_L]; exact decide_eq_true h
theorem cl6 {c : UInt8} (h : cl c = 6) : c = 47 := by
  have := u8_all (fun b => decide (cl b = 6 → b = 47)) (by decide +kernel) c
  exact of_decide_eq_true this h
theorem stc2 (l : List UInt8) : stc 2 l = if nm (l.takeWhile isP) then .tok 1 (l.takeWhile isP) 0 (l.takeWhile isP).length else .bad := rfl
theorem stc3 (l : List UInt8) : stc 3 l = match num (l.takeWhile isD) with | some n => .tok 2 [] n (l.takeWhile isD).length | none => .bad := rfl
theorem stc6 (l : List UInt8) : stc 6 l = if l.take 2 = [47, 47] then .skip (l.takeWhile noLf).length else .tok 3 (l.take 1) 0 1 := rfl
theorem cl7 (c : UInt8) : cl c = 0 ∨ cl c = 1 ∨ cl c = 2 ∨ cl c = 3 ∨ cl c = 4 ∨ cl c = 5 ∨ cl c = 6 := by
  have := cl_lt c
  omega
/-- Every step takes a byte at least, and no more than there are. -/
theorem st_skip {l : List UInt8} {m : Nat} (hl : l ≠ []) (h : st l = .skip m) : 0 < m ∧ m ≤ l.length := by
  cases l with
  | nil => exact absurd rfl hl
  | cons c r =>
    have h1 : stc (cl c) (c :: r) = .skip m := h
    rcases cl7 c with e | e | e | e | e | e | e <;> rw [e] at h1
    · cases h1
    · cases h1; simp
    · rw [stc2] at h1; split at h1 <;> cases h1
    · rw [stc3] at h1; split at h1 <;> cases h1
    · cases h1
    · cases h1
    · rw [stc6] at h1
      split at h1
      · cases h1
        refine ⟨?_, tw_len _⟩
        rw [cl6 e, tw_cons rfl]
        simp
      · cases h1
theorem st_tok {l : List UInt8} {k n : Int} {t : List UInt8} {m : Nat} (hl : l ≠ []) (h : st l = .tok k t n m) : 0 < m ∧ m ≤ l.length := by
  cases l with
  | nil => exact absurd rfl hl
  | cons c r =>
    have h1 : stc (cl c) (c :: r) = .tok k t n m := h
    rcases cl7 c with e | e | e | e | e | e | e <;> rw [e] at h1
    · cases h1
    · cases h1
    · rw [stc2] at h1
      split at h1
      next hn => cases h1; exact ⟨nm_pos hn, tw_len _⟩
      · cases h1
    · rw [stc3] at h1
      split at h1
      · cases h1
        refine ⟨?_, tw_len _⟩
        rw [tw_cons (cl3 e)]
        simp
      · cases h1
    · cases h1
    · cases h1; simp
    · rw [stc6] at h1
      split at h1
      · cases h1
      · cases h1; simp
theorem lx_fuel : ∀ (f g : Nat) (l : List UInt8) (i : Nat), l.length ≤ f → l.length ≤ g → lx f l i = lx g l i
  | 0, 0, l, i, _, _ => rfl
  | 0, g + 1, l, i, hf, _ => by
    have : l = [] := List.eq_nil_of_length_eq_zero (by omega)
    subst this
    rfl
  | f + 1, 0, l, i, _, hg => by
    have : l = [] := List.eq_nil_of_length_eq_zero (by omega)
    subst this
    rfl
  | f + 1, g + 1, l, i, hf, hg => by
    unfold lx
    split
    · rfl
    next hl =>
      split
      · rfl
      next m h =>
        have := st_skip hl h
        exact lx_fuel f g _ _ (by rw [List.length_drop]; omega) (by rw [List.length_drop]; omega)
      next k t n m h =>
        have := st_tok hl h
        rw [lx_fuel f g _ _ (by rw [List.length_drop]; omega) (by rw [List.length_drop]; omega)]
/-- The rest of a source from place i on. -/
def lxr (s : List UInt8) (i : Nat) : Rs := lx (s.length - i) (s.drop i) i
theorem lxr_zero (s : List UInt8) : lxr s 0 = lex s := rfl
theorem lxr_end (s : List UInt8) (i : Nat) (h : s.length ≤ i) : lxr s i = .ok [] := by
  unfold lxr
  rw [show s.length - i = 0 by omega]
  rfl
theorem lxr_bad {s : List UInt8} {i : Nat} (hi : i < s.length) (h : st (s.drop i) = .bad) : lxr s i = .no i := by
  unfold lxr
  obtain ⟨f, hf⟩ : ∃ f, s.length - i = f + 1 := ⟨s.length - i - 1, by omega⟩
  rw [hf]
  unfold lx
  rw [if_neg (fun e => by have := congrArg List.length e; rw [List.length_drop] at this; simp at this; omega), h]
theorem lxr_skip {s : List UInt8} {i m : Nat} (hi : i < s.length) (h : st (s.drop i) = .skip m) : 0 < m ∧ i + m ≤ s.length ∧ lxr s i = lxr s (i + m) := by
  have hne : s.drop i ≠ [] := fun e => by have := congrArg List.length e; rw [List.length_drop] at this; simp at this; omega
  have hm := st_skip hne h
  rw [List.length_drop] at hm
  refine ⟨hm.1, by omega, ?_⟩
  unfold lxr
  obtain ⟨f, hf⟩ : ∃ f, s.length - i = f + 1 := ⟨s.length - i - 1, by omega⟩
  rw [hf]
  conv => lhs; unfold lx
  rw [if_neg hne, h]
  show lx f ((s.drop i).drop m) (i + m) = _
  rw [List.drop_drop]
  exact lx_fuel _ _ _ _ (by rw [List.length_drop]; omega) (by rw [List.length_drop]; omega)
theorem lxr_tok {s : List UInt8} {i m : Nat} {k n : Int} {t : List UInt8} (hi : i < s.length) (h : st (s.drop i) = .tok k t n m) : 0 < m ∧ i + m ≤ s.length ∧ lxr s i = (lxr s (i + m)).pre [⟨k, t, n, i⟩] := by
  have hne : s.drop i ≠ [] := fun e => by have := congrArg List.length e; rw [List.length_drop] at this; simp at this; omega
  have hm := st_tok hne h
  rw [List.length_drop] at hm
  refine ⟨hm.1, by omega, ?_⟩
  unfold lxr
  obtain ⟨f, hf⟩ : ∃ f, s.length - i = f + 1 := ⟨s.length - i - 1, by omega⟩
  rw [hf]
  conv => lhs; unfold lx
  rw [if_neg hne, h]
  show (lx f ((s.drop i).drop m) (i + m)).pre _ = _
  rw [List.drop_drop]
  rw [lx_fuel f (s.length - (i + m)) _ _ (by rw [List.length_drop]; omega) (by rw [List.length_drop]; omega)]
end Go.Proofs.YticepaljociefaaDoor
