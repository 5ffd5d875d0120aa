import Derived.Test.YtkihimafeonibaaTake
namespace Go.Proofs.Ytkihimafeonibaa
open Go.RowKit
set_option linter.unusedVariables false

/-- Reads a numeral: its value, and what is left. -/
def pn (i u : Nat) : List UInt8 → Option (Nat × List UInt8)
  | [] => none
  | d :: r => if i = 9 ∧ 1 < d.toNat then none else if 128 ≤ d.toNat then pn (i + 1) (u + d.toNat % 128 * 2 ^ (7 * i)) r else if 0 < i ∧ d.toNat = 0 then none else some (u + d.toNat % 128 * 2 ^ (7 * i), r)

def NumPost (rd : Nat) (w : World) (o : Option (Nat × List UInt8)) (e : Ending) (w' : World) : Prop :=
  match o with
  | none => Bad rd w e w'
  | some x => e = .returned (.int .u64 x.1) ∧ RS rd w' x.2 ∧ w.grownBy w' (some rd)

theorem grown_trans {a b c : World} {r : Option Nat} (h : a.grownBy b r) (k : b.grownBy c r) : a.grownBy c r :=
  ⟨k.os.trans h.os, k.tape.trans h.tape, k.output.trans h.output, Nat.le_trans h.size k.size, fun i hi hne => (k.block i (Nat.lt_of_lt_of_le hi h.size) hne).trans (h.block i hi hne)⟩

theorem shl_ok (u d i : Nat) (h : u + d % 128 * 2 ^ (7 * i) < 18446744073709551616) :
    IntKind.u64.wrap ((u : Int) + IntKind.u64.wrap ((d : Int) % 128 * 2 ^ (7 * i))) = ((u + d % 128 * 2 ^ (7 * i) : Nat) : Int) := by
  have e : ((d : Int) % 128 * 2 ^ (7 * i)) = ((d % 128 * 2 ^ (7 * i) : Nat) : Int) := by
    rw [Int.natCast_mul, Int.natCast_pow, Int.natCast_emod]; rfl
  rw [e, IntKind.wrap_u64, IntKind.wrap_u64]
  generalize d % 128 * 2 ^ (7 * i) = y at *
  omega
theorem shl_lt (u d i : Nat) (h : u < 2 ^ (7 * i)) : u + d % 128 * 2 ^ (7 * i) < 2 ^ (7 * (i + 1)) := by
  have e : 2 ^ (7 * (i + 1)) = 128 * 2 ^ (7 * i) := by rw [show 7 * (i + 1) = 7 + 7 * i by omega, Nat.pow_add]
  have h2 : d % 128 * 2 ^ (7 * i) ≤ 127 * 2 ^ (7 * i) := Nat.mul_le_mul_right _ (by omega)
  omega
theorem shl_64 (u d i : Nat) (h : u < 2 ^ (7 * i)) (hi : i ≤ 8 ∨ (i = 9 ∧ d ≤ 1)) : u + d % 128 * 2 ^ (7 * i) < 18446744073709551616 := by
  rcases hi with hi | ⟨rfl, hd⟩
  · have h1 := shl_lt u d i h
    have h2 : 2 ^ (7 * (i + 1)) ≤ 2 ^ 63 := Nat.pow_le_pow_right (by omega) (by omega)
    omega
  · have h1 : d % 128 * 2 ^ (7 * 9) ≤ 1 * 2 ^ (7 * 9) := Nat.mul_le_mul_right _ (by omega)
    omega

set_option maxHeartbeats 400000 in
set_option maxRecDepth 100000 in
theorem rnum_any (rd : Nat) (l : List UInt8) (w : World) (hR : RS rd w l) :
    Calls Try.prog 47 #[.pointer (some ⟨rd, 0, none⟩)] w (NumPost rd w (pn 0 0 l)) := by
  generalize hO : pn 0 0 l = O
  have HO := Lib.hid hO
  clear hO
  go_enter Try.func47, Try.ntmps47
  go_wp2_with fail
  go_loopw [2, 3] (fun x s wr => ∃ (i u : Nat) (r : List UInt8), x = .int .u64 u ∧ s = .int .i64 (7 * (i : Int)) ∧ i ≤ 9 ∧ u < 2 ^ (7 * i) ∧ O = pn i u r ∧ RS rd wr r ∧ w.grownBy wr (some rd)) (fun _ s _ => 70 - (intOf s).toNat)
  case atStart => exact ⟨0, 0, l, rfl, rfl, by omega, by simp, HO.out.symm, hR, World.grownBy.refl w _⟩
  case round =>
    clear HO hR
    obtain ⟨i, u, r, rfl, rfl, hi, hu, hO, hR, hg⟩ := hrel
    have HO := Lib.hid hO
    have HU := Lib.hid hu
    clear hO hu
    cases r with
    | nil =>
      have hx : O = none := by rw [HO.out]; rfl
      have HX := Lib.hid hx
      have HC := Lib.hid (next_bad rd wr hR)
      clear hx hR HO
      go_wp2_with fail
      refine HC.out.mono ?_
      rintro e w1 ⟨rfl, hg1⟩
      go_wp2_with fail
      exact ⟨rfl, by rw [HX.out]; exact ⟨rfl, grown_trans hg hg1⟩⟩
    | cons d r =>
      have HC := Lib.hid (next_good rd d r wr hR)
      clear hR
      have hd : (d.toNat : Int) < 256 := by have := d.toNat_lt; omega
      go_wp2_with fail
      refine HC.out.mono ?_
      rintro e w1 ⟨rfl, hR1, hg1⟩
      unfold bv
      clear HC
      have hgg := grown_trans hg hg1
      clear hg hg1
      by_cases h9 : i = 9
      · have t9 : (7 * (i : Int) == 63) = true := by simp; omega
        have t10 : (0 : Int) < 7 * (i : Int) := by omega
        by_cases h1 : 1 < d.toNat
        · have hx : O = none := by rw [HO.out, pn, if_pos ⟨h9, h1⟩]
          have HX := Lib.hid hx
          have h1' : (1 : Int) < (d.toNat : Int) := by omega
          clear hx HO h9 h1
          go_wp2_with fail
          exact ⟨rfl, by rw [HX.out]; exact ⟨rfl, hgg⟩⟩
        · have hl := Lib.hid (shl_ok u d.toNat i (shl_64 u d.toNat i HU.out (.inr ⟨h9, by omega⟩)))
          by_cases h0 : d.toNat = 0
          · have hx : O = none := by rw [HO.out, pn, if_neg (by omega), if_neg (by omega), if_pos (by omega)]
            have HX := Lib.hid hx
            have t0 : ((d.toNat : Int) == 0) = true := by simp; omega
            have h1' : (d.toNat : Int) ≤ 1 := by omega
            clear hx HO h9 h1 h0
            go_wp2_with fail
            exact ⟨rfl, by rw [HX.out]; exact ⟨rfl, hgg⟩⟩
          · have hx : O = some (u + d.toNat % 128 * 2 ^ (7 * i), r) := by rw [HO.out, pn, if_neg (by omega), if_neg (by omega), if_neg (by omega)]
            have HX := Lib.hid hx
            have t0 : ((d.toNat : Int) == 0) = false := by simp; omega
            have h1' : (d.toNat : Int) ≤ 1 := by omega
            clear hx HO h9 h1 h0
            go_wp2_with fail
            go_ret
            rw [HX.out]
            exact ⟨ret_int hl.out, hR1, hgg⟩
      · have t9 : (7 * (i : Int) == 63) = false := by simp; omega
        have hl := Lib.hid (shl_ok u d.toNat i (shl_64 u d.toNat i HU.out (.inl (by omega))))
        by_cases h128 : 128 ≤ d.toNat
        · have hx : O = pn (i + 1) (u + d.toNat % 128 * 2 ^ (7 * i)) r := by rw [HO.out, pn, if_neg (by omega), if_pos h128]
          have HX := Lib.hid hx
          have h128' : (128 : Int) ≤ (d.toNat : Int) := by omega
          have hi8 : (i : Int) ≤ 8 := by omega
          clear hx HO h9 h128
          go_wp2_with fail
          go_roundw
          case rel => exact ⟨i + 1, _, r, by rw [hl.out], by go_num, by omega, shl_lt u d.toNat i HU.out, HX.out, hR1, hgg⟩
          case measure => simp [intOf]; omega
        · have h128' : (d.toNat : Int) < 128 := by omega
          by_cases h0 : d.toNat = 0
          · have t0 : ((d.toNat : Int) == 0) = true := by simp; omega
            by_cases hi0 : 0 < i
            · have hx : O = none := by rw [HO.out, pn, if_neg (by omega), if_neg (by omega), if_pos (by omega)]
              have HX := Lib.hid hx
              have hi0' : (0 : Int) < 7 * (i : Int) := by omega
              clear hx HO h9 h128 h0
              go_wp2_with fail
              exact ⟨rfl, by rw [HX.out]; exact ⟨rfl, hgg⟩⟩
            · have hx : O = some (u + d.toNat % 128 * 2 ^ (7 * i), r) := by rw [HO.out, pn, if_neg (by omega), if_neg (by omega), if_neg (by omega)]
              have HX := Lib.hid hx
              have hi0' : ¬ (0 : Int) < 7 * (i : Int) := by omega
              clear hx HO h9 h128 h0
              go_wp2_with fail
              go_ret
              rw [HX.out]
              exact ⟨ret_int hl.out, hR1, hgg⟩
          · have t0 : ((d.toNat : Int) == 0) = false := by simp; omega
            have hx : O = some (u + d.toNat % 128 * 2 ^ (7 * i), r) := by rw [HO.out, pn, if_neg (by omega), if_neg (by omega), if_neg (by omega)]
            have HX := Lib.hid hx
            clear hx HO h9 h128 h0
            by_cases hi0 : (0 : Int) < 7 * (i : Int)
            · go_wp2_with fail
              go_ret
              rw [HX.out]
              exact ⟨ret_int hl.out, hR1, hgg⟩
            · go_wp2_with fail
              go_ret
              rw [HX.out]
              exact ⟨ret_int hl.out, hR1, hgg⟩
end Go.Proofs.Ytkihimafeonibaa
