import Derived.Test.YtkihimafeonibaaRefNum
import Derived.Test.YtkihimafeonibaaWrite3
import Derived.Test.YtkihimafeonibaaDepth
import Derived.Deep.RegionHeld3
import Derived.Deep.RegionWith
namespace Go.Proofs.Ytkihimafeonibaa
open Go.RowKit
set_option linter.unusedVariables false

set_option maxHeartbeats 400000 in
set_option maxRecDepth 100000 in
theorem refEncInt (n : Int) (s : ByteArray) (len cap : Nat) (a : Option Addr) (w : World) (h2 : Fit n) :
    Calls Try.prog 28 #[.agg #[.int .i64 1, .int .i64 n, .string s, .slice a len cap]] w (Row w.heap.size (1 :: num (uns n)) w) := by
  obtain ⟨i0, hi0, hz0, hz1, hz2⟩ := info_parts u8_info
  have hnl := num_length (uns n)
  have hu := uns_lt n h2
  have ho := own_one (w.alloc (.cells #[.int .i64 1, .int .i64 n, .string s, .slice a len cap] 24)) 1 (.int .u8 1) rfl
  simp only [World.size_alloc] at ho
  have hb1 := ((Below.refl w.heap.size w).alloc (Nat.le_refl _) (.cells #[.int .i64 1, .int .i64 n, .string s, .slice a len cap] 24)).alloc (by simp) (.cells #[.int .u8 1] 5)
  have HO := Lib.hid ho
  have HU := Lib.hid hu
  have H2 := Lib.hid h2
  unfold Fit at h2
  clear ho hu
  generalize hN : num (uns n) = N at *
  have HN := Lib.hid hN
  clear hN
  go_enter Try.func28, Try.ntmps28
  go_wp2_with fail
  refine (refUnsigned_any n _ H2.out).mono ?_
  rintro e w' ⟨rfl, rfl⟩
  go_wp2_with fail
  refine (refNum_any (uns n) _ HU.out).mono ?_
  rintro e w1 ⟨A, c, rfl, ho1, hb2⟩
  rw [HN.out] at ho1 ⊢
  obtain ⟨g, rfl, hsrc⟩ := own_src ho1 (by omega)
  have ho2 := (own_below HO.out hb2).mono (base' := w.heap.size) (by omega)
  have hbw := hb1.trans (hb2.mono hb1.size)
  have hz1' := hbw.size
  clear HO
  have hol := ho2.lt
  go_wp2_with (at_builtin; refine wpList_append_own _ rfl (.tmp 9) (.tmp 13) 27 rfl w.heap.size 5 i0 (.int .u8 0) 1 1 Try.underlying27 hi0 hz0 hz1 hz2 rfl (by decide) _ 1 [bv 1] rfl ho2 ⟨g, 0, none⟩ N.length c (N.map bv) rfl (by simp) hsrc (bv_one _) (le_maxLen (by omega)) (by omega) hz1' ?_; intro v1 w2 hown1 hg1 _; obtain ⟨A1, k1, hv1⟩ := own_form hown1; subst hv1)
  go_ret
  have hb3 := hbw.grown hg1 hz1' (fun k hk => (hol k hk).1)
  refine ⟨A1, k1, ?_, ?_, hb3⟩
  · rw [List.length_cons, Nat.add_comm N.length 1]; rfl
  · rw [List.length_cons, List.map_cons, Nat.add_comm N.length 1]; exact hown1

set_option maxHeartbeats 400000 in
set_option maxRecDepth 100000 in
theorem refEncList (n : Int) (s : ByteArray) (len cap : Nat) (a : Option Addr) (f : Nat → T) (p : Nat → List UInt8) (w : World) (h4 : len ≤ 9223372036854775807) (h5 : RdS w.heap.size w len f a)
    (hl : (num len ++ catTo p len).length ≤ 80000000) (hV : ∀ i, i < len → ∀ (v : Value) (w : World), Rd w.heap.size w (f i) v → Calls Try.prog 28 #[v] w (Row w.heap.size (p i) w)) (hp : ∀ i, i < len → 0 < (p i).length) :
    Calls Try.prog 28 #[.agg #[.int .i64 3, .int .i64 n, .string s, .slice a len cap]] w (Row w.heap.size (3 :: (num len ++ catTo p len)) w) := by
  obtain ⟨i0, hi0, hz0, hz1, hz2⟩ := info_parts u8_info
  have hnl := num_length len
  rw [List.length_append] at hl
  have hu : len < 18446744073709551616 := by omega
  have ho := own_one (w.alloc (.cells #[.int .i64 3, .int .i64 n, .string s, .slice a len cap] 24)) 3 (.int .u8 3) rfl
  simp only [World.size_alloc] at ho
  have hb0 := (Below.refl (w.heap.size + 1) (w.alloc (.cells #[.int .i64 3, .int .i64 n, .string s, .slice a len cap] 24))).alloc (by simp) (.cells #[.int .u8 3] 5)
  have HO := Lib.hid ho
  have HU := Lib.hid hu
  have HV := Lib.hid hV
  clear ho hu hV
  generalize hN : num len = N at *
  have HN := Lib.hid hN
  clear hN
  go_enter Try.func28, Try.ntmps28
  go_wp2_with fail
  refine (refNum_any len _ HU.out).mono ?_
  rintro e w1 ⟨A, c, rfl, ho1, hb2⟩
  rw [HN.out] at ho1 ⊢
  obtain ⟨g, rfl, hsrc⟩ := own_src ho1 (by omega)
  have ho2 := own_below HO.out hb2
  have hbw := hb0.trans (hb2.mono (by simp))
  have hz1' := hbw.size
  simp at hz1'
  clear HO hb0 hb2
  have hol := ho2.lt
  go_wp2_with (at_builtin; refine wpList_append_own _ rfl (.tmp 27) (.tmp 32) 27 rfl (w.heap.size + 1) 5 i0 (.int .u8 0) 1 1 Try.underlying27 hi0 hz0 hz1 hz2 rfl (by decide) _ 1 [bv 3] rfl ho2 ⟨g, 0, none⟩ N.length c (N.map bv) rfl (by simp) hsrc (bv_one _) (le_maxLen (by omega)) (by omega) (by omega) ?_; intro v1 w2 hown1 hg1 _; have hb3 := hbw.grown hg1 (by omega) (fun k hk => (hol k hk).1); clear ho1 hsrc ho2 hg1 hol hbw)
  have hown2 : w2.ownsRow (w.heap.size + 1) 5 1 v1 (3 :: (N ++ catTo p 0)).length ((3 :: (N ++ catTo p 0)).map bv) := by
    simp only [catTo, List.append_nil, List.length_cons, List.map_cons, Nat.add_comm N.length 1]
    exact hown1
  clear hown1
  go_loopw [3, 4] (fun o i wr => ∃ j : Nat, j ≤ len ∧ i = .int .i64 j ∧ wr.ownsRow (w.heap.size + 1) 5 1 o (3 :: (N ++ catTo p j)).length ((3 :: (N ++ catTo p j)).map bv) ∧ Below (w.heap.size + 1) (w.alloc (.cells #[.int .i64 3, .int .i64 n, .string s, .slice a len cap] 24)) wr) (fun _ i _ => len - (intOf i).toNat)
  case atStart => exact ⟨0, Nat.zero_le _, rfl, hown2, hb3⟩
  case round =>
    clear hown2 hb3
    obtain ⟨j, hj, rfl, hown, hb⟩ := hrel
    obtain ⟨b0, b1, b2, b3, hsz⟩ := box4 hb
    have hbw := box4_below hb
    obtain ⟨A0, k0, rfl⟩ := own_form hown
    by_cases hlt : j < len
    · obtain ⟨b, off, c0, c1, c2, c3, rfl, hbl, e0, e1, e2, e3, hr⟩ := h5.at_ hbw hlt
      clear h5
      have hcl := catTo_len (p := p) hlt
      have hpj := hp j hlt
      have hx : (3 :: (N ++ catTo p (j + 1)) : List UInt8) = (3 :: (N ++ catTo p j)) ++ p j := by simp [catTo]
      have HX := Lib.hid hx
      have hll : (3 :: (N ++ catTo p j) : List UInt8).length + (p j).length ≤ 80000001 := by simp only [List.length_cons, List.length_append]; omega
      clear hx hcl
      generalize (3 :: (N ++ catTo p j) : List UInt8) = acc at *
      go_wp2_with fail
      refine (HV.out j hlt _ _ hr).mono ?_
      rintro e w3 ⟨A, c, rfl, ho3, hb4⟩
      obtain ⟨g, rfl, hsrc⟩ := own_src ho3 (by omega)
      have ho4 := own_below hown hb4
      have hb5 := hb.trans (hb4.mono (by omega))
      have hol := ho4.lt
      have hz3 := hb4.size
      clear b0 b1 b2 b3 e0 e1 e2 e3 hr
      go_wp2_with (at_builtin; refine wpList_append_own _ rfl (.tmp 41) (.tmp 47) 27 rfl (w.heap.size + 1) 5 i0 (.int .u8 0) 1 1 Try.underlying27 hi0 hz0 hz1 hz2 rfl (by decide) _ acc.length (acc.map bv) rfl ho4 ⟨g, 0, none⟩ (p j).length c ((p j).map bv) rfl (by simp) hsrc (bv_one _) (le_maxLen (by omega)) (by omega) (by omega) ?_; intro v3 w4 hown3 hg3 _; have hb6 := hb5.grown hg3 (by omega) (fun k hk => (hol k hk).1); clear hsrc ho3 ho4 hg3 hol hb4 hb5 hown)
      go_roundw
      case rel => exact ⟨j + 1, by omega, by go_num, by rw [HX.out, List.length_append, List.map_append]; exact hown3, hb6⟩
      case measure => simp [intOf]; omega
    · have hjl : j = len := by omega
      have HJ := Lib.hid hjl
      clear hjl
      go_wp2_with fail
      go_ret
      rw [HJ.out] at hown
      exact ⟨A0, k0, by rw [HJ.out]; rfl, by rw [HJ.out] at *; exact hown.mono (by omega), hbw⟩
end Go.Proofs.Ytkihimafeonibaa
