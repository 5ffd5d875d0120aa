/- The law of numbers. -/
import Derived.Test.YtemlkklcjemjcaaSane2
import Derived.Test.YtemlkklcjemjcaaPlain2
namespace Go.Proofs.Ytemlkklcjemjcaa
open Go.RowKit
set_option linter.unusedVariables false

theorem numF_mono : ∀ (k x y : Nat), x ≤ y → (numF k x).length ≤ (numF k y).length := by
  intro k
  induction k with
  | zero => intro x y h; simp [numF]
  | succ k ih =>
    intro x y h
    by_cases hx : x < 128
    · have := (numF_length (k + 1) y).1
      rw [numF_small _ _ hx]
      simpa using this
    · rw [numF_big _ _ (by omega), numF_big _ _ (by omega)]
      simpa using ih (x / 128) (y / 128) (by omega)

theorem int_len (n : Int) : (enc (tInt n)).length = 1 + (num (uns n)).length := by simp [enc, tInt]; omega
theorem int_len_bound (n : Int) : 2 ≤ (enc (tInt n)).length ∧ (enc (tInt n)).length ≤ 11 := by
  have := num_length (uns n)
  have := int_len n
  omega
theorem int_len_mono {a b : Int} (h : (0 ≤ a ∧ a ≤ b) ∨ (a < 0 ∧ b ≤ a)) : (enc (tInt a)).length ≤ (enc (tInt b)).length := by
  rw [int_len, int_len]
  have := numF_mono 9 (uns a) (uns b) (by unfold uns; split <;> split <;> omega)
  unfold num
  omega
theorem int_chk (n : Int) : chk (tInt n) = 0 := by simp [chk, wfB, tInt, dep]
theorem int_dec (n : Int) (h : Fit n) : decode (enc (tInt n)) = some (tInt n) := by
  have e : enc (tInt n) = 1 :: (num (uns n) ++ []) := by simp [enc, tInt]
  unfold decode
  rw [e, pval_one, pn_of _ _ (uns_lt n h)]
  simp only [pint, if_true]
  rw [sgn_uns]

set_option maxHeartbeats 1000000 in
set_option maxRecDepth 100000 in
theorem lawNum_any (a b : Int) (w : World) (ha : Fit a) (hb : Fit b) :
    Calls Try.prog 9 #[.int .i64 a, .int .i64 b] w fun e w' => e = .returned (.bool true) ∧ Below w.heap.size w w' := by
  have H1 := Lib.hid (fun w1 => size_good (tInt a) _ w1 (tInt_rd w1 a ha) (by simp [dep, tInt]) (int_chk a) (by have := int_len_bound a; omega))
  have H2 := Lib.hid (fun w1 => size_good (tInt b) _ w1 (tInt_rd w1 b hb) (by simp [dep, tInt]) (int_chk b) (by have := int_len_bound b; omega))
  have H3 := Lib.hid (fun w1 => encode_good (tInt a) _ w1 (tInt_rd w1 a ha) (by simp [dep, tInt]) (int_chk a) (by have := int_len_bound a; omega))
  have hM := int_len_bound a
  have hN := int_len_bound b
  have hD := Lib.hid (int_dec a ha)
  have hcase : (0 ≤ a ∧ a ≤ b ∧ (enc (tInt a)).length ≤ (enc (tInt b)).length) ∨ (0 ≤ a ∧ b < a) ∨ (a < 0 ∧ b ≤ a ∧ (enc (tInt a)).length ≤ (enc (tInt b)).length) ∨ (a < 0 ∧ a < b) := by
    by_cases h0 : 0 ≤ a
    · by_cases h1 : a ≤ b
      · exact .inl ⟨h0, h1, int_len_mono (.inl ⟨h0, h1⟩)⟩
      · exact .inr (.inl ⟨h0, by omega⟩)
    · by_cases h1 : b ≤ a
      · exact .inr (.inr (.inl ⟨by omega, h1, int_len_mono (.inr ⟨by omega, h1⟩)⟩))
      · exact .inr (.inr (.inr ⟨by omega, by omega⟩))
  generalize enc (tInt a) = E at *
  generalize (enc (tInt b)).length = N at *
  have hbw := Below.refl w.heap.size w
  unfold Fit at ha hb
  go_enter Try.func9, Try.ntmps9
  go_wp2_with fail
  refine (sane_any _).mono ?_
  rintro e w1 ⟨rfl, hb1⟩
  have hbw := hbw.trans (hb1.mono hbw.size)
  clear hb1
  go_wp2_with fail
  refine (Int_any a _).mono ?_
  rintro e w2 ⟨rfl, hb1⟩
  have hbw := hbw.trans (hb1.mono hbw.size)
  clear hb1
  go_wp2_with fail
  refine (H1.out _).mono ?_
  rintro e w3 ⟨rfl, hb1⟩
  have hbw := hbw.trans (hb1.mono hbw.size)
  clear hb1
  go_wp2_with fail
  refine (Int_any b _).mono ?_
  rintro e w4 ⟨rfl, hb1⟩
  have hbw := hbw.trans (hb1.mono hbw.size)
  clear hb1
  go_wp2_with fail
  refine (H2.out _).mono ?_
  rintro e w5 ⟨rfl, hb1⟩
  have hbw := hbw.trans (hb1.mono hbw.size)
  clear hb1
  rcases hcase with ⟨k1, k2, k3⟩ | ⟨k1, k2⟩ | ⟨k1, k2, k3⟩ | ⟨k1, k2⟩
  all_goals
    go_wp2_with fail
    refine (Int_any a _).mono ?_
    rintro e w6 ⟨rfl, hb1⟩
    have hbw := hbw.trans (hb1.mono hbw.size)
    clear hb1
    go_wp2_with fail
    refine (H3.out _).mono ?_
    rintro e w7 ⟨u, rfl, ho1, hb1⟩
    obtain ⟨A1, c1, rfl⟩ := own_form ho1
    have hbw := hbw.trans (hb1.mono hbw.size)
    clear hb1
    obtain ⟨hB2, hc21, hc22⟩ := Bs.of_own ho1
    have HC := Lib.hid (decode_any _ _ _ _ hB2 hc21 hc22 (by omega))
    rw [hD.out] at HC
    clear hB2 ho1
    go_wp2_with fail
    refine HC.out.mono ?_
    rintro e w8 ⟨v, rfl, hrq, hb1⟩
    have hbw := hbw.trans (hb1.mono hbw.size)
    obtain ⟨a9, c9, rfl, _⟩ := hrq
    clear hb1 HC
    have hb9 := (Below.refl w8.heap.size w8).alloc (Nat.le_refl _) (.cells #[.int .i64 1, .int .i64 a, .string ⟨#[]⟩, .slice a9 0 c9] 24)
    have hbw := hbw.trans (hb9.mono hbw.size)
    clear hb9
    go_wp2_with fail
    go_ret
    exact ⟨rfl, hbw⟩
end Go.Proofs.Ytemlkklcjemjcaa
