/- Numerals as plain lists of bytes; rows of bytes in memory. -/
import Derived.Test.YtkihimafeonibaaProg
import Derived.Test.YtkihimafeonibaaVal
import Derived.WalkKit
import Derived.WalkSpells
import Derived.WalkLawsBesides
import Derived.Outline
import Derived.Lib.Hide
import Derived.Lib.AppendStr
namespace Go.Proofs.Ytkihimafeonibaa
open Go.RowKit
set_option linter.unusedVariables false

/-- The digits of u to the base 128, with room for k more. -/
def numF : Nat → Nat → List UInt8
  | 0, u => [UInt8.ofNat u]
  | k + 1, u => if u < 128 then [UInt8.ofNat u] else UInt8.ofNat (u % 128 + 128) :: numF k (u / 128)
/-- The numeral of a number below 2^64. -/
def num (u : Nat) : List UInt8 := numF 9 u
/-- The unsigned form. -/
def uns (n : Int) : Nat := if 0 ≤ n then (2 * n).toNat else (-2 * n - 1).toNat

/-- A byte as a cell. -/
def bv (b : UInt8) : Value := .int .u8 (b.toNat : Int)

theorem numF_small (k u : Nat) (h : u < 128) : numF k u = [UInt8.ofNat u] := by
  cases k <;> simp [numF, h]
theorem numF_big (k u : Nat) (h : 128 ≤ u) : numF (k + 1) u = UInt8.ofNat (u % 128 + 128) :: numF k (u / 128) := by
  simp only [numF]
  rw [if_neg (by omega)]
theorem numF_length (k : Nat) : ∀ u, 1 ≤ (numF k u).length ∧ (numF k u).length ≤ k + 1 := by
  induction k with
  | zero => simp [numF]
  | succ k ih =>
    intro u
    have := ih (u / 128)
    simp only [numF]
    split <;> simp <;> omega
theorem num_length (u : Nat) : 1 ≤ (num u).length ∧ (num u).length ≤ 10 := numF_length 9 u
theorem uns_lt (n : Int) (h : Fit n) : uns n < 18446744073709551616 := by
  unfold Fit at h
  unfold uns
  split <;> omega

theorem bv_of (n : Nat) (h : n < 256) : bv (UInt8.ofNat n) = .int .u8 (n : Int) := by
  unfold bv
  rw [UInt8.toNat_ofNat_of_lt' (by simpa [UInt8.size] using h)]

theorem bv_one : ∀ (l : List UInt8), ∀ u ∈ l.map bv, u.oneCell' = true := by
  intro l u hu
  obtain ⟨b, _, rfl⟩ := List.mem_map.1 hu
  rfl

theorem one_int (k : IntKind) (n : Int) : ∀ u ∈ [Value.int k n], u.oneCell' = true := by
  intro u hu
  simp at hu
  subst hu
  rfl
theorem le_maxLen {n : Nat} (h : n ≤ 9223372036854775807) : n ≤ maxLen := by
  unfold maxLen
  omega

theorem u8_info : (Try.prog.info? 5).map (fun i => (i.zero, i.size, i.bytes)) = some (some (.int .u8 0), 1, 1) := by kernel_rfl

/-- string(b) of a row of the call's own. -/
theorem run_str_own {w : World} {base n : Nat} {v : Value} {l : List UInt8} (h : w.ownsRow base 5 1 v n (l.map bv)) :
    (convert 27 9 v).run Try.prog w = .ok (.string ⟨l.toArray⟩) w := by
  have hl := h.1
  rcases h.2 with ⟨rfl, rfl⟩ | ⟨g, cap, cur, rfl, _, _, _⟩
  · have : l = [] := by simpa using hl
    subst this
    exact run_convert_bytes_nil w _ _ Try.underlying27 Try.underlying5 0 0 _ Try.underlying9
  · have hn : n = l.length := by simpa using hl.symm
    subst hn
    refine run_convert_bytes_back w _ _ _ _ cap l Try.underlying27 Try.underlying5 Try.underlying9 fun j hj => ?_
    have := h.cells (g := g) rfl j (bv l[j]) (by simp [List.getElem?_eq_getElem hj])
    exact this

end Go.Proofs.Ytkihimafeonibaa
