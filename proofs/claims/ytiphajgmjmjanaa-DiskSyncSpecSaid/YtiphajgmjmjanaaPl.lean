/- Disks in plain words. (Nothing here speaks of the program.) -/
import Derived.Test.YtiphajgmjmjanaaMem
namespace Go.Proofs.Ytiphajgmjmjanaa
set_option linter.unusedVariables false

/-- A disk: its sectors, its pending writes, the writes that are left, and whether it has stopped. -/
structure Dk where
  secs : List (List UInt8)
  pend : List (Int × List UInt8)
  left : Int
  stop : Bool
/-- The zero disk. -/
def dk0 : Dk := ⟨[], [], 0, false⟩
/-- Each sector is whole. -/
def whole : List (List UInt8) → Bool
  | [] => true
  | s :: l => decide (s.length = 128) && whole l
/-- Each write has a sector, of n. -/
def fit (n : Nat) : List (Int × List UInt8) → Bool
  | [] => true
  | a :: l => decide (0 ≤ a.1 ∧ a.1 < (n : Int)) && decide (a.2.length = 128) && fit n l
def size1 (n : Int) : Bool := decide (1 ≤ n ∧ n ≤ 4096)
def left1 (n : Int) : Bool := decide (-1 ≤ n ∧ n ≤ 65536)
/-- A valid disk. -/
def vld (d : Dk) : Bool := size1 d.secs.length && decide (d.pend.length ≤ 4096) && left1 d.left && whole d.secs && fit d.secs.length d.pend
def chk (d : Dk) : Int := if vld d then 0 else 70
/-- A valid disk that has not stopped. -/
def rng (d : Dk) : Bool := vld d && !d.stop
def has (d : Dk) (at_ : Int) : Bool := decide (0 ≤ at_ ∧ at_ < (d.secs.length : Int))
/-- A sector that begins with b. -/
def sec (b : List UInt8) : List UInt8 := b.take 128 ++ List.replicate (128 - b.length) 0
theorem sec_length (b : List UInt8) : (sec b).length = 128 := by
  unfold sec
  rw [List.length_append, List.length_take, List.length_replicate]
  omega
theorem sec_whole {b : List UInt8} (h : b.length = 128) : sec b = b := by
  unfold sec
  rw [h, List.take_of_length_le (by omega)]
  simp
/-- The last write to a sector. -/
def lastw (at_ : Int) : List (Int × List UInt8) → Option (List UInt8)
  | [] => none
  | a :: l => match lastw at_ l with
    | some b => some b
    | none => if a.1 = at_ then some a.2 else none
def rde (d : Dk) (at_ : Int) : Int := if rng d && has d at_ then 0 else 70
def rd (d : Dk) (at_ : Int) : List UInt8 := if rde d at_ = 0 then (lastw at_ d.pend).getD (d.secs.getD at_.toNat []) else []
def wre (d : Dk) (at_ : Int) (b : List UInt8) : Int := if (rng d && has d at_) = false then 70 else if 128 < b.length then 1 else if d.pend.length = 4096 then 2 else 0
def wr (d : Dk) (at_ : Int) (b : List UInt8) : Dk := if wre d at_ b = 0 then { d with pend := d.pend ++ [(at_, sec b)] } else dk0
/-- Writes are performed. -/
def perf (s : List (List UInt8)) (l : List (Int × List UInt8)) : List (List UInt8) := l.foldl (fun s w => s.set w.1.toNat w.2) s
theorem perf_length (l : List (Int × List UInt8)) : ∀ s, (perf s l).length = s.length := by
  induction l with
  | nil => intro s; rfl
  | cons a l ih => intro s; show (perf (s.set a.1.toNat a.2) l).length = _; rw [ih, List.length_set]
theorem perf_snoc (s : List (List UInt8)) (l : List (Int × List UInt8)) (a : Int × List UInt8) : perf s (l ++ [a]) = (perf s l).set a.1.toNat a.2 := by
  unfold perf
  rw [List.foldl_append]
  rfl
/-- A torn sector. -/
def torn (old b : List UInt8) : List UInt8 := b.take 64 ++ old.drop 64
def stops (d : Dk) : Bool := decide (0 ≤ d.left ∧ d.left < (d.pend.length : Int))
def sye (d : Dk) : Int := if rng d && !stops d then 0 else 70
def sy (d : Dk) : Dk :=
  if rng d = false then dk0
  else if stops d then
    let s := perf d.secs (d.pend.take d.left.toNat)
    let a := d.pend.getD d.left.toNat (0, [])
    ⟨s.set a.1.toNat (torn (s.getD a.1.toNat []) a.2), [], 0, true⟩
  else ⟨perf d.secs d.pend, [], if d.left = -1 then -1 else d.left - d.pend.length, false⟩
def ste (d : Dk) (left : Int) : Int := if rng d = false then 70 else if 0 ≤ left ∧ left ≤ 65536 then 0 else 1
def st (d : Dk) (left : Int) : Dk := if ste d left = 0 then { d with left := left } else dk0
def rs (d : Dk) : Dk := ⟨d.secs, [], -1, false⟩
def nwe (n : Int) : Int := if size1 n then 0 else 1
def nw (n : Int) : Dk := if nwe n = 0 then ⟨List.replicate n.toNat (List.replicate 128 0), [], -1, false⟩ else dk0

theorem whole_mem {l : List (List UInt8)} : whole l = true ↔ ∀ s ∈ l, s.length = 128 := by
  induction l with
  | nil => simp [whole]
  | cons a l ih => simp [whole, ih]
theorem fit_mem {n : Nat} {l : List (Int × List UInt8)} : fit n l = true ↔ ∀ a ∈ l, (0 ≤ a.1 ∧ a.1 < (n : Int)) ∧ a.2.length = 128 := by
  induction l with
  | nil => simp [fit]
  | cons a l ih =>
    simp only [fit, Bool.and_eq_true, decide_eq_true_eq, ih, List.mem_cons, forall_eq_or_imp]
/-- What a valid disk is like. -/
theorem vld_facts {d : Dk} : vld d = true ↔ ((1 ≤ d.secs.length ∧ d.secs.length ≤ 4096) ∧ d.pend.length ≤ 4096 ∧ (-1 ≤ d.left ∧ d.left ≤ 65536) ∧ (∀ s ∈ d.secs, s.length = 128) ∧ ∀ a ∈ d.pend, (0 ≤ a.1 ∧ a.1 < (d.secs.length : Int)) ∧ a.2.length = 128) := by
  unfold vld size1 left1
  simp only [Bool.and_eq_true, decide_eq_true_eq, whole_mem, fit_mem]
  constructor
  · rintro ⟨⟨⟨⟨h1, h2⟩, h3⟩, h4⟩, h5⟩
    exact ⟨by omega, h2, h3, h4, h5⟩
  · rintro ⟨h1, h2, h3, h4, h5⟩
    exact ⟨⟨⟨⟨by omega, h2⟩, h3⟩, h4⟩, h5⟩
theorem lastw_snoc (at_ : Int) (a : Int × List UInt8) : ∀ l, lastw at_ (l ++ [a]) = if a.1 = at_ then some a.2 else lastw at_ l
  | [] => by simp [lastw]
  | x :: l => by
    show (match lastw at_ (l ++ [a]) with | some b => some b | none => if x.1 = at_ then some x.2 else none) = _
    rw [lastw_snoc at_ a l]
    by_cases h : a.1 = at_
    · rw [if_pos h, if_pos h]
    · rw [if_neg h, if_neg h]
      rfl
end Go.Proofs.Ytiphajgmjmjanaa
