import Derived.Test.YtkihimafeonibaaBytes
namespace Go.Proofs.Ytkihimafeonibaa
open Go.RowKit
set_option linter.unusedVariables false

theorem uns_pos (n : Int) (h : 0 ≤ n) : (uns n : Int) = 2 * n := by unfold uns; rw [if_pos h]; omega
theorem uns_neg (n : Int) (h : ¬ 0 ≤ n) : (uns n : Int) = 2 * (-n - 1) + 1 := by unfold uns; rw [if_neg h]; omega

theorem xor_i64 (n : Int) (h : Fit n) : bits .xor .i64 (-1) n = -n - 1 := by
  unfold Fit at h
  have e1 : BitVec.ofInt 64 (-1) = BitVec.allOnes 64 := by decide
  show IntKind.i64.wrap ((BitVec.ofInt 64 (-1) ^^^ BitVec.ofInt 64 n).toNat : Int) = _
  rw [e1, BitVec.allOnes_xor, BitVec.toNat_not, BitVec.toNat_ofInt, IntKind.wrap_i64]
  omega

set_option maxRecDepth 100000 in
theorem unsigned_any (n : Int) (w : World) (h : Fit n) :
    Calls Try.prog 53 #[.int .i64 n] w fun e w' => e = .returned (.int .u64 (uns n)) ∧ w = w' := by
  unfold Fit at h
  by_cases h0 : 0 ≤ n
  · have HU := Lib.hid (uns_pos n h0)
    go_enter Try.func53, Try.ntmps53
    go_wp2_with fail
    go_ret
    exact ⟨ret_int (by rw [HU.out]), rfl⟩
  · have HU := Lib.hid (uns_neg n h0)
    have hx := xor_i64 n h
    have hw : IntKind.u64.wrap (IntKind.u64.wrap (2 * IntKind.u64.wrap (-n - 1)) + 1) = 2 * (-n - 1) + 1 := by
      rw [IntKind.wrap_u64, IntKind.wrap_u64, IntKind.wrap_u64]
      omega
    have HW := Lib.hid hw
    clear hw
    go_enter Try.func53, Try.ntmps53
    go_wp2_with fail
    go_ret
    exact ⟨ret_int (by rw [HU.out]; exact HW.out), rfl⟩

set_option maxRecDepth 100000 in
theorem refUnsigned_any (n : Int) (w : World) (h : Fit n) :
    Calls Try.prog 43 #[.int .i64 n] w fun e w' => e = .returned (.int .u64 (uns n)) ∧ w = w' := by
  unfold Fit at h
  by_cases h0 : 0 ≤ n
  · have HU := Lib.hid (uns_pos n h0)
    go_enter Try.func43, Try.ntmps43
    go_wp2_with fail
    go_ret
    exact ⟨ret_int (by rw [HU.out]), rfl⟩
  · have HU := Lib.hid (uns_neg n h0)
    go_enter Try.func43, Try.ntmps43
    go_wp2_with fail
    go_ret
    exact ⟨ret_int (by rw [HU.out]; omega), rfl⟩

theorem Int_any (n : Int) (w : World) :
    Calls Try.prog 23 #[.int .i64 n] w fun e w' => e = .returned (.agg #[.int .i64 1, .int .i64 n, .string ⟨#[]⟩, .slice none 0 0]) ∧ Below w.heap.size w w' := by
  go_enter Try.func23, Try.ntmps23
  go_wp2_with fail
  exact bodyPost_ret (v := .agg #[.int .i64 1, .int .i64 n, .string ⟨#[]⟩, .slice none 0 0]) (by simp [results, Try.results23, go_sem]) rfl ⟨rfl, (Below.refl _ _).alloc (Nat.le_refl _) _⟩

theorem Text_any (s : ByteArray) (w : World) :
    Calls Try.prog 24 #[.string s] w fun e w' => e = .returned (.agg #[.int .i64 2, .int .i64 0, .string s, .slice none 0 0]) ∧ Below w.heap.size w w' := by
  go_enter Try.func24, Try.ntmps24
  go_wp2_with fail
  exact bodyPost_ret (v := .agg #[.int .i64 2, .int .i64 0, .string s, .slice none 0 0]) (by simp [results, Try.results24, go_sem]) rfl ⟨rfl, (Below.refl _ _).alloc (Nat.le_refl _) _⟩

theorem List_any (a : Option Addr) (len cap : Nat) (w : World) :
    Calls Try.prog 22 #[.slice a len cap] w fun e w' => e = .returned (.agg #[.int .i64 3, .int .i64 0, .string ⟨#[]⟩, .slice a len cap]) ∧ Below w.heap.size w w' := by
  go_enter Try.func22, Try.ntmps22
  go_wp2_with fail
  exact bodyPost_ret (v := .agg #[.int .i64 3, .int .i64 0, .string ⟨#[]⟩, .slice a len cap]) (by simp [results, Try.results22, go_sem]) rfl ⟨rfl, (Below.refl _ _).alloc (Nat.le_refl _) _⟩

/-- The number whose unsigned form is u. -/
def sgn (u : Nat) : Int := if u % 2 = 0 then (u / 2 : Nat) else -((u / 2 : Nat) : Int) - 1

set_option maxRecDepth 100000 in
theorem signed_any (u : Nat) (w : World) (h : (u : Int) ≤ 18446744073709551615) :
    Calls Try.prog 46 #[.int .u64 u] w fun e w' => e = .returned (.int .i64 (sgn u)) ∧ w = w' := by
  have hx := xor_i64 ((u : Int) / 2) (by unfold Fit; omega)
  by_cases h0 : u % 2 = 0
  · have hs : sgn u = (u : Int) / 2 := by unfold sgn; rw [if_pos h0]; omega
    have HS := Lib.hid hs
    have ht : ((u : Int) % 2 == 0) = true := by simp; omega
    clear hs h0
    go_enter Try.func46, Try.ntmps46
    go_wp2_with fail
    go_ret
    exact ⟨ret_int (by rw [HS.out]), rfl⟩
  · have hs : sgn u = -((u : Int) / 2) - 1 := by unfold sgn; rw [if_neg h0]; omega
    have HS := Lib.hid hs
    have ht : ((u : Int) % 2 == 0) = false := by simp; omega
    clear hs h0
    go_enter Try.func46, Try.ntmps46
    go_wp2_with fail
    go_ret
    exact ⟨ret_int (by rw [HS.out]), rfl⟩
end Go.Proofs.Ytkihimafeonibaa
