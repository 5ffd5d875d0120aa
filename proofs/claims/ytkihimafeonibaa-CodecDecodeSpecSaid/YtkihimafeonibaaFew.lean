import Derived.Test.YtkihimafeonibaaCount
namespace Go.Proofs.Ytkihimafeonibaa
open Go.RowKit
set_option linter.unusedVariables false

def few1 (t : T) (d : Int) : Bool := decide (cnt t d ≤ 200)

set_option maxHeartbeats 400000 in
theorem Few_any (t : T) (v : Value) (d : Int) (w : World) (hrd : Rd w.heap.size w t v) (hd1 : -30 ≤ d) (hd2 : d ≤ 30) :
    Calls Try.prog 25 #[v, .int .i64 d] w fun e w' => e = .returned (.bool (few1 t d)) ∧ Below w.heap.size w w' := by
  obtain ⟨k, n, s, len, f, rfl⟩ := hrd.ex
  have hrd1 := hrd
  obtain ⟨a, cap, rfl, h1, h2, h3, h4, h5⟩ := hrd1
  clear h5
  unfold Fit maxLen at *
  have hb := (Below.refl w.heap.size w).alloc (Nat.le_refl _) (.cells #[.int .i64 k, .int .i64 n, .string s, .slice a len cap] 24)
  go_enter Try.func25, Try.ntmps25
  go_wp2_with fail
  refine (count_any _ _ _ _ (hrd.up hb) hd1 hd2).mono ?_
  rintro e w1 ⟨rfl, hb1⟩
  generalize hC : cnt (.mk k n s len f) d = C
  have HC := Lib.hid hC
  clear hC
  have hb2 := hb.trans (hb1.mono (by simp))
  clear hrd hb1 hb
  go_wp2_with fail
  go_ret
  exact ⟨ret_bool (by unfold few1; rw [HC.out]), hb2⟩

set_option maxHeartbeats 400000 in
theorem few_any (len cap : Nat) (f : Nat → T) (a : Option Addr) (w : World) (h4 : len ≤ maxLen) (h5 : RdS w.heap.size w len f a) :
    Calls Try.prog 11 #[.slice a len cap] w fun e w' => e = .returned (.bool (allTo (fun i => few1 (f i) 20) len)) ∧ Below w.heap.size w w' := by
  unfold maxLen at *
  go_enter Try.func11, Try.ntmps11
  go_wp2_with fail
  go_loopw [7] (fun i wr => ∃ j : Nat, j ≤ len ∧ i = .int .i64 j ∧ allTo (fun i => few1 (f i) 20) j = true ∧ Below w.heap.size w wr) (fun i _ => len - (intOf i).toNat)
  case atStart => exact ⟨0, Nat.zero_le _, rfl, rfl, Below.refl _ _⟩
  case round =>
    obtain ⟨j, hj, rfl, hall, hbw⟩ := hrel
    have HA := Lib.hid hall
    clear hall
    by_cases hlt : j < len
    · obtain ⟨b, off, c0, c1, c2, c3, rfl, hbl, e0, e1, e2, e3, hr⟩ := h5.at_ hbw hlt
      clear h5
      obtain ⟨k1, n1, s1, a1, l1, m1, rfl, rfl, rfl, rfl⟩ := hr.form
      have hbl1 : b < wr.heap.size := by have := hbw.size; omega
      go_wp2_with fail
      have hb2 := (Below.refl wr.heap.size wr).alloc (Nat.le_refl _) (.cells #[.int .i64 k1, .int .i64 n1, .string s1, .slice a1 l1 m1] 24)
      refine (Few_any _ _ _ _ (hr.up hb2) (by omega) (by omega)).mono ?_
      rintro e w3 ⟨rfl, hb3⟩
      have hb4 : Below w.heap.size w w3 := hbw.trans ((hb2.trans (hb3.mono (by simp))).mono hbw.size)
      cases hp : few1 (f j) 20
      · have HP := Lib.hid hp
        clear hp
        go_wp2_with fail
        go_ret
        exact ⟨ret_bool (allTo_stop (j := j) HP.out hlt).symm, hb4⟩
      · have HP := Lib.hid hp
        clear hp
        go_wp2_with fail
        go_roundw
        case rel => exact ⟨j + 1, by omega, by go_num, by simp only [allTo]; rw [HA.out, HP.out]; rfl, hb4⟩
        case measure => simp [intOf]; omega
    · go_wp2_with fail
      go_ret
      obtain rfl : j = len := by omega
      exact ⟨ret_bool (by rw [HA.out]), hbw⟩
end Go.Proofs.Ytkihimafeonibaa
