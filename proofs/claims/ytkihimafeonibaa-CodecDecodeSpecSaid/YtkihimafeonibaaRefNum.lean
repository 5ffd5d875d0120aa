import Derived.Test.YtkihimafeonibaaNumeral
import Derived.Test.YtkihimafeonibaaSink
import Derived.Deep.AppendLies
import Derived.Deep.Onto
namespace Go.Proofs.Ytkihimafeonibaa
open Go.RowKit
set_option linter.unusedVariables false

/-- A call that hands back a row of bytes of its own. -/
def Row (B : Nat) (bs : List UInt8) (w : World) (e : Ending) (w' : World) : Prop :=
  ∃ (A : Option Addr) (c : Nat), e = .returned (.slice A bs.length c) ∧ w'.ownsRow B 5 1 (.slice A bs.length c) bs.length (bs.map bv) ∧ Below w.heap.size w w'

/-- The source of an append: where a row of at least one byte lies. -/
theorem own_src {w : World} {B n c : Nat} {A : Option Addr} {xs : List Value} (h : w.ownsRow B 5 1 (.slice A n c) n xs) (hn : 0 < n) :
    ∃ g, A = some ⟨g, 0, none⟩ ∧ ∀ j u, xs[j]? = some u → w.cell? ((⟨g, 0, none⟩ : Addr).add j) = some u := by
  obtain ⟨g, cap, hv, _⟩ := h.form hn
  injection hv with hA
  subst hA
  exact ⟨g, rfl, h.cells (g := g) rfl⟩

theorem own_one (W : World) (b : UInt8) (c : Value) (hc : c = bv b) : (W.alloc (.cells #[c] 5)).ownsRow W.heap.size 5 1 (.slice (some ⟨W.heap.size, 0, none⟩) 1 1) 1 [bv b] := by
  subst hc
  exact World.ownsRow_lit W #[bv b] 1 (Nat.le_refl _) (by unfold maxLen; omega) rfl

set_option maxRecDepth 100000 in
theorem refNumF_any (k : Nat) : ∀ (u : Nat) (w : World), u < 128 ^ (k + 1) → k ≤ 9 → u < 18446744073709551616 →
    Calls Try.prog 42 #[.int .u64 u] w (Row w.heap.size (numF k u) w) := by
  induction k with
  | zero =>
    intro u w hu _ h64
    have hl : u < 128 := by simpa using hu
    have hx := numF_small 0 u hl
    have HX := Lib.hid hx
    have ho := own_one w (UInt8.ofNat u) (.int .u8 u) (bv_of u (by omega)).symm
    have HO := Lib.hid ho
    clear hx ho hu
    go_enter Try.func42, Try.ntmps42
    go_wp2_with fail
    go_ret
    exact ⟨some ⟨w.heap.size, 0, none⟩, 1, by rw [HX.out]; rfl, by rw [HX.out]; exact HO.out, (Below.refl _ _).alloc (Nat.le_refl _) _⟩
  | succ k ih =>
    intro u w hu hk h64
    by_cases hl : u < 128
    · have hx := numF_small (k + 1) u hl
      have HX := Lib.hid hx
      have ho := own_one w (UInt8.ofNat u) (.int .u8 u) (bv_of u (by omega)).symm
      have HO := Lib.hid ho
      clear hx ho hu
      go_enter Try.func42, Try.ntmps42
      go_wp2_with fail
      go_ret
      exact ⟨some ⟨w.heap.size, 0, none⟩, 1, by rw [HX.out]; rfl, by rw [HX.out]; exact HO.out, (Below.refl _ _).alloc (Nat.le_refl _) _⟩
    · obtain ⟨i0, hi0, hz0, hz1, hz2⟩ := info_parts u8_info
      have hx := numF_big k u (by omega)
      have HX := Lib.hid hx
      have hln := numF_length k (u / 128)
      have hd : ((u : Int) / 128) = ((u / 128 : Nat) : Int) := by omega
      have hd' : IntKind.u64.wrap ((u : Int) / 128) = ((u / 128 : Nat) : Int) := by rw [IntKind.wrap_u64]; omega
      have hcl : (Value.int .u8 ((u : Int) % 128 + 128)) = bv (UInt8.ofNat (u % 128 + 128)) := by rw [bv_of _ (by omega)]; first | rfl | (congr 1; omega)
      have ho := own_one w (UInt8.ofNat (u % 128 + 128)) (.int .u8 ((u : Int) % 128 + 128)) hcl
      have hb1 := (Below.refl w.heap.size w).alloc (Nat.le_refl _) (.cells #[.int .u8 ((u : Int) % 128 + 128)] 5)
      have hc := ih (u / 128) (w.alloc (.cells #[.int .u8 ((u : Int) % 128 + 128)] 5)) (by rw [Nat.pow_succ] at hu; exact Nat.div_lt_of_lt_mul (by omega)) (by omega) (by omega)
      have HD := Lib.hid hd
      have HD' := Lib.hid hd'
      have HC := Lib.hid hc
      have HO := Lib.hid ho
      clear hx hd hd' hc ho hcl hu ih
      have hu64 : (u : Int) ≤ 18446744073709551615 := by omega
      clear h64
      generalize hN : numF k (u / 128) = N at *
      have HN := Lib.hid hN
      clear hN
      go_enter Try.func42, Try.ntmps42
      go_wp2_with fail
      first | rw [HD.out] | rw [HD'.out]
      refine HC.out.mono ?_
      rintro e w1 ⟨A, c, rfl, ho1, hb2⟩
      obtain ⟨g, rfl, hsrc⟩ := own_src ho1 (by omega)
      have ho2 := own_below HO.out hb2
      have hbw := hb1.trans (hb2.mono hb1.size)
      have hz1' := hbw.size
      clear HO HC
      have hol := ho2.lt
      go_wp2_with (at_builtin; refine wpList_append_own _ rfl (.tmp 12) (.tmp 15) 27 rfl w.heap.size 5 i0 (.int .u8 0) 1 1 Try.underlying27 hi0 hz0 hz1 hz2 rfl (by decide) _ 1 [bv (UInt8.ofNat (u % 128 + 128))] rfl ho2 ⟨g, 0, none⟩ N.length c (N.map bv) rfl (by simp) hsrc (bv_one _) (le_maxLen (by omega)) (by omega) hz1' ?_; intro v1 w2 hown1 hg1 _; obtain ⟨A1, k1, hv1⟩ := own_form hown1; subst hv1)
      go_ret
      have hb3 := hbw.grown hg1 hz1' (fun k hk => (hol k hk).1)
      refine ⟨A1, k1, ?_, ?_, hb3⟩
      · rw [HX.out, List.length_cons, Nat.add_comm N.length 1]; rfl
      · rw [HX.out, List.length_cons, List.map_cons, Nat.add_comm N.length 1]; exact hown1

theorem refNum_any (u : Nat) (w : World) (h : u < 18446744073709551616) :
    Calls Try.prog 42 #[.int .u64 u] w (Row w.heap.size (num u) w) :=
  refNumF_any 9 u w (by omega) (by omega) h
end Go.Proofs.Ytkihimafeonibaa
