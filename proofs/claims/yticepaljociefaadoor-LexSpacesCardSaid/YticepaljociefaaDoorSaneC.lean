/- The calls of sane. -/
import Derived.Test.YticepaljociefaaDoorText
import Derived.Test.YticepaljociefaaDoorSm2
import Derived.Test.YticepaljociefaaDoorRSm
namespace Go.Proofs.YticepaljociefaaDoor
open Go.RowKit Go.Shelf
set_option linter.unusedVariables false
set_option linter.unusedSimpArgs false

def T1 : List Tk := [⟨1, [115, 117, 109], 0, 0⟩, ⟨2, [], 30, 4⟩, ⟨3, [59], 0, 6⟩]
theorem lexv1 : lxo [115, 117, 109, 32, 51, 48, 59] = (T1, 0, 0) := by decide +kernel
theorem lexc1 (w : World) (hK : KT w) : Calls Tryd.prog 12 #[.string ⟨#[115, 117, 109, 32, 51, 48, 59]⟩] w (fun e w' => ∃ A c, e = .returned (.tuple #[.slice A 3 c, .int .i64 0, .int .i64 0]) ∧ TT w' A T1 c ∧ Below w.heap.size w w') := by
  have h := lex_any [115, 117, 109, 32, 51, 48, 59] w hK (by simp)
  rw [lexv1] at h
  exact h
def T2 : List Tk := []
theorem lexv2 : lxo [48, 48, 55] = (T2, 0, 100) := by decide +kernel
theorem lexc2 (w : World) (hK : KT w) : Calls Tryd.prog 12 #[.string ⟨#[48, 48, 55]⟩] w (fun e w' => ∃ A c, e = .returned (.tuple #[.slice A 0 c, .int .i64 0, .int .i64 100]) ∧ TT w' A T2 c ∧ Below w.heap.size w w') := by
  have h := lex_any [48, 48, 55] w hK (by simp)
  rw [lexv2] at h
  exact h
def T3 : List Tk := [⟨2, [], 1099511627776, 0⟩]
theorem lexv3 : lxo [49, 48, 57, 57, 53, 49, 49, 54, 50, 55, 55, 55, 54] = (T3, 0, 0) := by decide +kernel
theorem lexc3 (w : World) (hK : KT w) : Calls Tryd.prog 12 #[.string ⟨#[49, 48, 57, 57, 53, 49, 49, 54, 50, 55, 55, 55, 54]⟩] w (fun e w' => ∃ A c, e = .returned (.tuple #[.slice A 1 c, .int .i64 0, .int .i64 0]) ∧ TT w' A T3 c ∧ Below w.heap.size w w') := by
  have h := lex_any [49, 48, 57, 57, 53, 49, 49, 54, 50, 55, 55, 55, 54] w hK (by simp)
  rw [lexv3] at h
  exact h
def T4 : List Tk := [⟨1, [97], 0, 0⟩]
theorem lexv4 : lxo [97, 32, 47, 47, 32, 98] = (T4, 0, 0) := by decide +kernel
theorem lexc4 (w : World) (hK : KT w) : Calls Tryd.prog 12 #[.string ⟨#[97, 32, 47, 47, 32, 98]⟩] w (fun e w' => ∃ A c, e = .returned (.tuple #[.slice A 1 c, .int .i64 0, .int .i64 0]) ∧ TT w' A T4 c ∧ Below w.heap.size w w') := by
  have h := lex_any [97, 32, 47, 47, 32, 98] w hK (by simp)
  rw [lexv4] at h
  exact h
def T5 : List Tk := []
theorem lexv5 : lxo [97, 32, 36] = (T5, 2, 100) := by decide +kernel
theorem lexc5 (w : World) (hK : KT w) : Calls Tryd.prog 12 #[.string ⟨#[97, 32, 36]⟩] w (fun e w' => ∃ A c, e = .returned (.tuple #[.slice A 0 c, .int .i64 2, .int .i64 100]) ∧ TT w' A T5 c ∧ Below w.heap.size w w') := by
  have h := lex_any [97, 32, 36] w hK (by simp)
  rw [lexv5] at h
  exact h
def T6 : List Tk := [⟨1, [97], 0, 0⟩, ⟨3, [61], 0, 1⟩, ⟨2, [], 1, 2⟩]
theorem lexv6 : lxo [97, 61, 49] = (T6, 0, 0) := by decide +kernel
theorem lexc6 (w : World) (hK : KT w) : Calls Tryd.prog 12 #[.string ⟨#[97, 61, 49]⟩] w (fun e w' => ∃ A c, e = .returned (.tuple #[.slice A 3 c, .int .i64 0, .int .i64 0]) ∧ TT w' A T6 c ∧ Below w.heap.size w w') := by
  have h := lex_any [97, 61, 49] w hK (by simp)
  rw [lexv6] at h
  exact h
def T8 : List Tk := []
theorem lexv8 : lxo [] = (T8, 0, 0) := by decide +kernel
theorem lexc8 (w : World) (hK : KT w) : Calls Tryd.prog 12 #[.string ⟨#[]⟩] w (fun e w' => ∃ A c, e = .returned (.tuple #[.slice A 0 c, .int .i64 0, .int .i64 0]) ∧ TT w' A T8 c ∧ Below w.heap.size w w') := by
  have h := lex_any [] w hK (by simp)
  rw [lexv8] at h
  exact h
theorem txv6 : txo T6 = ([97, 32, 61, 32, 49], 0) := by
  have h : T6.all vtk = true := by decide +kernel
  have hi : Lib.itoa 1 = [49] := by
    have := Lib.itoa_nonneg 1
    rw [Lib.decDigits_one (by omega)] at this
    exact this
  unfold txo
  rw [if_pos h]
  unfold T6
  simp [txk, hi, Lib.join, List.intercalate, List.intersperse]
theorem txc6 (A : Option Addr) (c : Nat) (w : World) (hA : TT w A T6 c) (hK : KT w) (hP : PT w) : Calls Tryd.prog 16 #[.slice A 3 c] w (fun e w' => e = .returned (.tuple #[.string ⟨#[97, 32, 61, 32, 49]⟩, .int .i64 0]) ∧ Below w.heap.size w w') := by
  have h := text_any T6 A c w hA hK hP (by simp [T6]) (by intro t ht; unfold T6 at ht; simp at ht; rcases ht with rfl | rfl | rfl <;> simp)
  rw [txv6] at h
  exact h
def Z9 : List Tk := [⟨0, [], 0, 0⟩]
theorem txv9 : txo Z9 = ([], 100) := by
  unfold txo
  rw [if_neg (by decide +kernel)]
theorem txc9 (A : Option Addr) (c : Nat) (w : World) (hA : TT w A Z9 c) (hK : KT w) (hP : PT w) : Calls Tryd.prog 16 #[.slice A 1 c] w (fun e w' => e = .returned (.tuple #[.string ⟨#[]⟩, .int .i64 100]) ∧ Below w.heap.size w w') := by
  have h := text_any Z9 A c w hA hK hP (by simp [Z9]) (by intro t ht; unfold Z9 at ht; simp at ht; subst ht; simp)
  rw [txv9] at h
  exact h
theorem TT.of_box {w : World} {g : Nat} {l : List Tk} {t : TypeId} (h : Box w g (tkcs l).toArray t) (hl : l.length ≤ 1000000) : TT w (some ⟨g, 0, none⟩) l l.length :=
  ⟨fun _ => ⟨g, 0, rfl, h.lt, fun j u hu => by rw [Nat.zero_add, h.cell j]; simpa using hu⟩, Nat.le_refl _, le_maxLen (by omega), fun e => by cases e⟩
theorem nmc1 (w : World) (hK : KT w) : Calls Tryd.prog 20 #[.string ⟨#[66, 95, 49, 50]⟩] w (QBool true w) := by
  have h := name_any [66, 95, 49, 50] w hK (by simp)
  rw [show nm [66, 95, 49, 50] = true by decide +kernel] at h
  exact h
theorem nmc2 (w : World) (hK : KT w) : Calls Tryd.prog 20 #[.string ⟨#[95, 49, 50]⟩] w (QBool false w) := by
  have h := name_any [95, 49, 50] w hK (by simp)
  rw [show nm [95, 49, 50] = false by decide +kernel] at h
  exact h
theorem eqc (A : Option Addr) (c : Nat) (B : Option Addr) (d : Nat) (w : World) (hA : TT w A T1 c) (hB : TT w B T1 d) : Calls Tryd.prog 14 #[.slice A 3 c, .slice B 3 d] w (BoolPost true w) := by
  have h := requal_any T1 T1 A B c d w hA hB
  rw [eqt_refl] at h
  exact h
theorem smc1 (A : Option Addr) (c : Nat) (B : Option Addr) (d : Nat) (w : World) (hA : TT w A T4 c) (hB : TT w B T6 d) : Calls Tryd.prog 18 #[.slice A 1 c, .slice B 3 d] w (BoolPost false w) := by
  have h := same_any T4 T6 A B c d w hA hB
  rw [show smt T4 T6 = false by decide +kernel] at h
  exact h
def Y4 : List Tk := [⟨1, [97], 0, 9⟩]
theorem smc2 (A : Option Addr) (c : Nat) (B : Option Addr) (d : Nat) (w : World) (hA : TT w A T4 c) (hB : TT w B Y4 d) : Calls Tryd.prog 18 #[.slice A 1 c, .slice B 1 d] w (BoolPost true w) := by
  have h := same_any T4 Y4 A B c d w hA hB
  rw [show smt T4 Y4 = true by decide +kernel] at h
  exact h
end Go.Proofs.YticepaljociefaaDoor
