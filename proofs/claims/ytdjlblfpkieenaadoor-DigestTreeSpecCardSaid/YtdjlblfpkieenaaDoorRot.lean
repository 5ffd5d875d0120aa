/- Words of 32 bits in memory; rotations. -/
import Derived.Test.YtdjlblfpkieenaaDoorMem
import Derived.Test.YtdjlblfpkieenaaDoorSha
import Derived.IntWalk
import Derived.Deep.QuietTactic
import Derived.BigQuiet
namespace Go.Proofs.YtdjlblfpkieenaaDoor
open Go.RowKit
set_option linter.unusedVariables false

/-- A word as the number in a cell. -/
def u (x : U) : Int := (x.toNat : Int)
def uv (x : U) : Value := .int .u32 (u x)
theorem u_pos (x : U) : 0 ≤ u x := by unfold u; omega
theorem u_lt (x : U) : u x < 4294967296 := by unfold u; have := x.isLt; omega
theorem ofInt_u (x : U) : BitVec.ofInt 32 (u x) = x := by
  unfold u
  rw [BitVec.ofInt_natCast, BitVec.ofNat_toNat, BitVec.setWidth_eq]
theorem wrap_nat (n : Nat) (h : n < 4294967296) : IntKind.u32.wrap (n : Int) = (n : Int) := by
  rw [IntKind.wrap_u32]
  omega
theorem xor_u (x y : U) : bits .xor .u32 (u x) (u y) = u (x ^^^ y) := by
  show IntKind.u32.wrap ((BitVec.ofInt 32 (u x) ^^^ BitVec.ofInt 32 (u y)).toNat : Int) = _
  rw [ofInt_u, ofInt_u, wrap_nat _ (x ^^^ y).isLt]
  rfl
theorem and_u (x y : U) : bits .and .u32 (u x) (u y) = u (x &&& y) := by
  show IntKind.u32.wrap ((BitVec.ofInt 32 (u x) &&& BitVec.ofInt 32 (u y)).toNat : Int) = _
  rw [ofInt_u, ofInt_u, wrap_nat _ (x &&& y).isLt]
  rfl
theorem or_u (x y : U) : bits .or .u32 (u x) (u y) = u (x ||| y) := by
  show IntKind.u32.wrap ((BitVec.ofInt 32 (u x) ||| BitVec.ofInt 32 (u y)).toNat : Int) = _
  rw [ofInt_u, ofInt_u, wrap_nat _ (x ||| y).isLt]
  rfl
theorem not_u (x : U) : bits .xor .u32 4294967295 (u x) = u (~~~x) := by
  have e1 : BitVec.ofInt 32 4294967295 = BitVec.allOnes 32 := by decide
  show IntKind.u32.wrap ((BitVec.ofInt 32 4294967295 ^^^ BitVec.ofInt 32 (u x)).toNat : Int) = _
  rw [e1, ofInt_u, BitVec.allOnes_xor, wrap_nat _ (~~~x).isLt]
  rfl
theorem notm_u (x : U) : bits .xor .u32 IntKind.u32.max (u x) = u (~~~x) := not_u x
theorem add_u (x y : U) : IntKind.u32.wrap (u x + u y) = u (x + y) := by
  rw [IntKind.wrap_u32]
  unfold u
  rw [BitVec.toNat_add]
  omega
theorem shl_u (x : U) (n : Nat) : IntKind.u32.wrap (u x * 2 ^ n) = u (x <<< n) := by
  rw [IntKind.wrap_u32]
  unfold u
  rw [BitVec.toNat_shiftLeft, Nat.shiftLeft_eq]
  have : ((x.toNat * 2 ^ n : Nat) : Int) = (x.toNat : Int) * 2 ^ n := by simp
  rw [← this]
  omega
theorem shr_u (x : U) (n : Nat) : u x / 2 ^ n = u (x >>> n) := by
  unfold u
  rw [BitVec.toNat_ushiftRight, Nat.shiftRight_eq_div_pow]
  simp

theorem addm_u (x y : U) : (u x + u y) % 4294967296 = u (x + y) := by rw [← add_u, IntKind.wrap_u32]
theorem add3_u (a b c : U) : (u a + u b + u c) % (4294967296 : Int) = u (a + b + c) := by
  have h1 := addm_u a b
  have h2 := addm_u (a + b) c
  omega
theorem add4_u (a b c d : U) : (u a + u b + u c + u d) % (4294967296 : Int) = u (a + b + c + d) := by
  have h1 := add3_u a b c
  have h2 := addm_u (a + b + c) d
  omega
theorem add5_u (a b c d e : U) : (u a + u b + u c + u d + u e) % (4294967296 : Int) = u (a + b + c + d + e) := by
  have h1 := add4_u a b c d
  have h2 := addm_u (a + b + c + d) e
  omega
theorem shr3_u (x : U) : u x / (8 : Int) = u (x >>> 3) := shr_u x 3
theorem shr10_u (x : U) : u x / (1024 : Int) = u (x >>> 10) := shr_u x 10
theorem shlm_u (x : U) (n : Nat) : u x * 2 ^ n % 4294967296 = u (x <<< n) := by rw [← shl_u, IntKind.wrap_u32]
theorem and31 : ∀ n : Nat, n < 32 → 0 < n → bits .and .u64 (IntKind.u64.wrap (-(n : Int))) 31 = 32 - (n : Int) := by decide

set_option maxRecDepth 100000 in
theorem rotl_any (x : U) (n : Nat) (w : World) (h0 : 0 < n) (h1 : n < 32) :
    Calls Tryd.prog 56 #[.int .u32 (u x), .int .i64 (-(n : Int))] w fun e w' => e = .returned (.int .u32 (u (rr x n))) ∧ w = w' := by
  have ha := and31 n h1 h0
  go_enter Tryd.func56, Tryd.ntmps56
  go_wp2_with fail
  go_ret
  refine ⟨ret_int ?_, rfl⟩
  rw [shlm_u, shr_u, or_u, show 32 - (32 - n) = n by omega]
  unfold rr
  congr 1
  exact BitVec.or_comm _ _

set_option maxRecDepth 100000 in
theorem ror_any (x : U) (n : Int) (w : World) (h0 : 0 < n) (h1 : n < 32) :
    Calls Tryd.prog 52 #[.int .u32 (u x), .int .i64 n] w fun e w' => e = .returned (.int .u32 (u (rr x n.toNat))) ∧ w = w' := by
  obtain ⟨m, rfl⟩ := Int.eq_ofNat_of_zero_le (Int.le_of_lt h0)
  rw [Int.toNat_natCast]
  have HC := Lib.hid (rotl_any x m w (by omega) (by omega))
  go_enter Tryd.func52, Tryd.ntmps52
  go_wp2_with fail
  refine HC.out.mono ?_
  rintro e w' ⟨rfl, rfl⟩
  go_wp2_with fail
  go_ret
  exact ⟨rfl, rfl⟩

set_option maxRecDepth 100000 in
theorem refRor_any (x : U) (n : Int) (w : World) (h0 : 0 < n) (h1 : n < 32) :
    Calls Tryd.prog 47 #[.int .u32 (u x), .int .i64 n] w fun e w' => e = .returned (.int .u32 (u (rr x n.toNat))) ∧ ∃ m, w' = w.drewN m := by
  obtain ⟨m, rfl⟩ := Int.eq_ofNat_of_zero_le (Int.le_of_lt h0)
  rw [Int.toNat_natCast]
  have h2 : (32 : Int) - (m : Int) = ((32 - m : Nat) : Int) := by omega
  have h3 : (0 : Int) ≤ (m : Int) := by omega
  have h4 : (0 : Int) ≤ ((32 - m : Nat) : Int) := by omega
  go_enter Tryd.func47, Tryd.ntmps47
  go_wp2_with fail
  go_quiet (fail)
  go_wp2_with fail
  go_ret
  refine ⟨ret_int ?_, nq, rfl⟩
  rw [shlm_u, shr_u, or_u]
  rfl

theorem bw_u (d : UInt8) : (d.toNat : Int) = u (bw d) := by
  unfold u bw
  have := d.toNat_lt
  rw [BitVec.toNat_ofNat]
  omega
theorem shl8m_u (x : U) : u x * (256 : Int) % (4294967296 : Int) = u (x <<< 8) := shlm_u x 8
theorem shl8b_u (d : UInt8) : (d.toNat : Int) * (256 : Int) = u (bw d <<< 8) := by
  have e := shlm_u (bw d) 8
  have := d.toNat_lt
  rw [← bw_u] at e
  omega
theorem shl16b_u (d : UInt8) : (d.toNat : Int) * (65536 : Int) = u (bw d <<< 16) := by
  have e := shlm_u (bw d) 16
  have := d.toNat_lt
  rw [← bw_u] at e
  omega
theorem shl24b_u (d : UInt8) : (d.toNat : Int) * (16777216 : Int) = u (bw d <<< 24) := by
  have e := shlm_u (bw d) 24
  have := d.toNat_lt
  rw [← bw_u] at e
  omega

set_option maxRecDepth 100000 in
theorem word_any (h c : Nat) (A : Option Addr) (l : List UInt8) (w : World) (hB : Bs h w A l) (hl : l.length = 4) :
    Calls Tryd.prog 55 #[.slice A 4 c] w fun e w' => e = .returned (.int .u32 (u (wordAt l 0))) ∧ w = w' := by
  obtain ⟨b, off, rfl, _, hc⟩ := hB (by omega)
  have hcell : ∀ k, k < 4 → w.cell? ⟨b, off + k, none⟩ = some (.int .u8 ((l.getD k 0).toNat : Int)) := fun k hk => hc k _ (by rw [List.getD_eq_getElem?_getD, List.getElem?_eq_getElem (by omega)]; rfl)
  have HCELL := Lib.hid hcell
  have hpw : ∀ k, pw l 0 (k + 1) = pw l 0 k <<< 8 ||| bw (l.getD k 0) := fun k => by simp only [pw, Nat.zero_add]
  have HPW := Lib.hid hpw
  clear hc hl hcell hpw hB
  unfold wordAt
  generalize hF : pw l 0 = F at *
  go_enter Tryd.func55, Tryd.ntmps55
  go_wp2_with fail
  go_loop [2, 4] (fun v i => ∃ k : Nat, k ≤ 4 ∧ i = .int .i64 k ∧ v = .int .u32 (u (F k))) (fun _ i => 4 - (intOf i).toNat)
  case atStart => exact ⟨0, by omega, rfl, by rw [← hF]; rfl⟩
  case round =>
    clear hF
    obtain ⟨k, hk, rfl, rfl⟩ := hrel
    by_cases hlt : k < 4
    · have hcell := HCELL.out k hlt
      have hd := (l.getD k 0).toNat_lt
      have hp := HPW.out k
      generalize l.getD k 0 = d at *
      have HP := Lib.hid hp
      have hd' : (d.toNat : Int) < 256 := by omega
      clear hp hd
      go_wp2_with fail
      go_round
      case rel => exact ⟨k + 1, by omega, by go_num, by rw [HP.out, bw_u, shl8m_u, or_u]⟩
      case measure => simp [intOf]; omega
    · obtain rfl : k = 4 := by omega
      go_wp2_with fail
      go_ret
      exact ⟨rfl, rfl⟩

set_option maxRecDepth 100000 in
theorem refWord_any (h c : Nat) (A : Option Addr) (l : List UInt8) (w : World) (hB : Bs h w A l) (hl : l.length = 4) :
    Calls Tryd.prog 46 #[.slice A 4 c] w fun e w' => e = .returned (.int .u32 (u (wordAt l 0))) ∧ ∃ m, w' = w.drewN m := by
  obtain ⟨b, off, rfl, _, hc⟩ := hB (by omega)
  match l, hl with
  | [d0, d1, d2, d3], _ =>
    have c0 : w.cell? ⟨b, off, none⟩ = some (.int .u8 (d0.toNat : Int)) := hc 0 d0 rfl
    have c1 : w.cell? ⟨b, off + 1, none⟩ = some (.int .u8 (d1.toNat : Int)) := hc 1 d1 rfl
    have c2 : w.cell? ⟨b, off + 2, none⟩ = some (.int .u8 (d2.toNat : Int)) := hc 2 d2 rfl
    have c3 : w.cell? ⟨b, off + 3, none⟩ = some (.int .u8 (d3.toNat : Int)) := hc 3 d3 rfl
    have e0 : (d0.toNat : Int) < 256 := by have := d0.toNat_lt; omega
    have e1 : (d1.toNat : Int) < 256 := by have := d1.toNat_lt; omega
    have e2 : (d2.toNat : Int) < 256 := by have := d2.toNat_lt; omega
    have e3 : (d3.toNat : Int) < 256 := by have := d3.toNat_lt; omega
    clear hc hB
    go_enter Tryd.func46, Tryd.ntmps46
    go_wp2_with fail
    go_quiet (fail)
    go_wp2_with fail
    go_ret
    refine ⟨ret_int ?_, nq, rfl⟩
    rw [shl8b_u, shl16b_u, shl24b_u, bw_u d3, or_u, or_u, or_u]
    congr 1
    show _ = ((((0 : U) <<< 8 ||| bw d0) <<< 8 ||| bw d1) <<< 8 ||| bw d2) <<< 8 ||| bw d3
    generalize bw d0 = b0
    generalize bw d1 = b1
    generalize bw d2 = b2
    generalize bw d3 = b3
    have s16 : ∀ x : U, x <<< 16 = (x <<< 8) <<< 8 := fun x => BitVec.shiftLeft_add x 8 8
    have s24 : ∀ x : U, x <<< 24 = ((x <<< 8) <<< 8) <<< 8 := fun x => by rw [← BitVec.shiftLeft_add, ← BitVec.shiftLeft_add]
    have z : (0 : U) <<< 8 = 0 := rfl
    have z' : (0 : U) ||| b0 = b0 := BitVec.zero_or
    rw [s16, s24, z, z', BitVec.shiftLeft_or_distrib, BitVec.shiftLeft_or_distrib, BitVec.shiftLeft_or_distrib]
end Go.Proofs.YtdjlblfpkieenaaDoor
