import Derived.Test.YtkihimafeonibaaForm
namespace Go.Proofs.Ytkihimafeonibaa
open Go.RowKit
set_option linter.unusedVariables false

theorem max_if (M D : Nat) : Value.int .i64 (if M < D then (D : Int) else (M : Int)) = .int .i64 ((max M D : Nat) : Int) := by
  by_cases h : M < D
  · rw [if_pos h, Nat.max_eq_right (by omega)]
  · rw [if_neg h, Nat.max_eq_left (by omega)]

set_option maxHeartbeats 400000 in
theorem depth_any (t : T) : ∀ (v : Value) (w : World), Rd w.heap.size w t v → dep t ≤ 1000000 →
    Calls Try.prog 31 #[v] w fun e w' => e = .returned (.int .i64 (dep t)) ∧ Below w.heap.size w w' := by
  induction t with
  | nil => first | (intros; exact False.elim (by assumption)) | (intro hw; cases hw)
  | mk k n s len f ih =>
    rintro v w ⟨a, cap, rfl, h1, h2, h3, h4, h5⟩ hdep
    change RdS w.heap.size w len f a at h5
    have HI := Lib.hid ih
    clear ih
    have hb1 := (Below.refl w.heap.size w).alloc (Nat.le_refl _) (.cells #[.int .i64 k, .int .i64 n, .string s, .slice a len cap] 24)
    unfold Fit maxLen at *
    by_cases k3 : k = 3
    · subst k3
      have hx : dep (.mk 3 n s len f) = maxTo (fun i => dep (f i)) len + 1 := by simp [dep]
      have HX := Lib.hid hx
      have hle : ∀ i, i < len → dep (f i) ≤ 1000000 := fun i hi => by have : dep (f i) ≤ _ := le_maxTo (g := fun i => dep (f i)) hi; omega
      have hmx : ∀ j, j ≤ len → maxTo (fun i => dep (f i)) j ≤ 1000000 := fun j hj => maxTo_le fun i hi => hle i (by omega)
      clear hx
      go_enter Try.func31, Try.ntmps31
      go_wp2_with fail
      go_loopw [3, 12] (fun d i wr => ∃ j : Nat, j ≤ len ∧ i = .int .i64 j ∧ d = .int .i64 (maxTo (fun i => dep (f i)) j : Nat) ∧ Below w.heap.size w wr) (fun _ i _ => len - (intOf i).toNat)
      case atStart => exact ⟨0, Nat.zero_le _, rfl, rfl, hb1⟩
      case round =>
        obtain ⟨j, hj, rfl, rfl, hbw⟩ := hrel
        have hmj := hmx j hj
        by_cases hlt : j < len
        · obtain ⟨b, off, c0, c1, c2, c3, rfl, hbl, e0, e1, e2, e3, hr⟩ := h5.at_ hbw hlt
          clear h5
          obtain ⟨k1, n1, s1, a1, l1, m1, rfl, rfl, rfl, rfl⟩ := hr.form
          have hbl1 : b < wr.heap.size := by have := hbw.size; omega
          have hj1 := hle j hlt
          have hms : maxTo (fun i => dep (f i)) (j + 1) = max (maxTo (fun i => dep (f i)) j) (dep (f j)) := rfl
          have HMS := Lib.hid hms
          clear hms hle hmx
          generalize maxTo (fun i => dep (f i)) j = M at *
          go_wp2_with fail
          have hb2 := (Below.refl wr.heap.size wr).alloc (Nat.le_refl _) (.cells #[.int .i64 k1, .int .i64 n1, .string s1, .slice a1 l1 m1] 24)
          refine (HI.out j _ _ (hr.up hb2) hj1).mono ?_
          rintro e w3 ⟨rfl, hb3⟩
          have hb4 : Below w.heap.size w w3 := hbw.trans ((hb2.trans (hb3.mono (by simp))).mono hbw.size)
          generalize dep (f j) = D at *
          go_wp2_with fail
          go_roundw
          case rel => exact ⟨j + 1, by omega, by go_num, by rw [HMS.out]; exact max_if M D, hb4⟩
          case measure => simp [intOf]; omega
        · clear hle hmx
          have hjl : j = len := by omega
          have HJ := Lib.hid hjl
          clear hjl
          go_wp2_with fail
          go_ret
          exact ⟨ret_int (by rw [HX.out, HJ.out]; omega), hbw⟩
    · have hx : dep (.mk k n s len f) = 0 := by simp [dep, k3]
      have HX := Lib.hid hx
      have m3 : (k != 3 : Bool) = true := by simpa using k3
      clear hx
      go_enter Try.func31, Try.ntmps31
      go_wp2_with fail
      go_ret
      exact ⟨ret_int (by rw [HX.out]; rfl), hb1⟩

set_option maxHeartbeats 400000 in
theorem refDepth_any (t : T) : ∀ (v : Value) (w : World), Rd w.heap.size w t v → dep t ≤ 1000000 →
    Calls Try.prog 33 #[v] w fun e w' => e = .returned (.int .i64 (dep t)) ∧ Below w.heap.size w w' := by
  induction t with
  | nil => first | (intros; exact False.elim (by assumption)) | (intro hw; cases hw)
  | mk k n s len f ih =>
    rintro v w ⟨a, cap, rfl, h1, h2, h3, h4, h5⟩ hdep
    change RdS w.heap.size w len f a at h5
    have HI := Lib.hid ih
    clear ih
    have hb1 := (Below.refl w.heap.size w).alloc (Nat.le_refl _) (.cells #[.int .i64 k, .int .i64 n, .string s, .slice a len cap] 24)
    unfold Fit maxLen at *
    by_cases k3 : k = 3
    · subst k3
      have hx : dep (.mk 3 n s len f) = maxTo (fun i => dep (f i)) len + 1 := by simp [dep]
      have HX := Lib.hid hx
      have hle : ∀ i, i < len → dep (f i) ≤ 1000000 := fun i hi => by have : dep (f i) ≤ _ := le_maxTo (g := fun i => dep (f i)) hi; omega
      have hmx : ∀ j, j ≤ len → maxTo (fun i => dep (f i)) j ≤ 1000000 := fun j hj => maxTo_le fun i hi => hle i (by omega)
      clear hx
      go_enter Try.func33, Try.ntmps33
      go_wp2_with fail
      go_loopw [3, 4] (fun d i wr => ∃ j : Nat, j ≤ len ∧ i = .int .i64 j ∧ d = .int .i64 (maxTo (fun i => dep (f i)) j : Nat) ∧ Below (w.heap.size + 1) (w.alloc (.cells #[.int .i64 3, .int .i64 n, .string s, .slice a len cap] 24)) wr) (fun _ i _ => len - (intOf i).toNat)
      case atStart => exact ⟨0, Nat.zero_le _, rfl, rfl, Below.refl _ _⟩
      case round =>
        obtain ⟨j, hj, rfl, rfl, hb⟩ := hrel
        obtain ⟨b0, b1, b2, b3, hsz⟩ := box4 hb
        have hbw := box4_below hb
        have hmj := hmx j hj
        by_cases hlt : j < len
        · obtain ⟨b, off, c0, c1, c2, c3, rfl, hbl, e0, e1, e2, e3, hr⟩ := h5.at_ hbw hlt
          clear h5
          have hj1 := hle j hlt
          have hms : maxTo (fun i => dep (f i)) (j + 1) = max (maxTo (fun i => dep (f i)) j) (dep (f j)) := rfl
          have HMS := Lib.hid hms
          clear hms hle hmx
          generalize maxTo (fun i => dep (f i)) j = M at *
          go_wp2_with fail
          refine (HI.out j _ _ hr hj1).mono ?_
          rintro e w3 ⟨rfl, hb3⟩
          generalize dep (f j) = D at *
          go_wp2_with fail
          go_roundw
          case rel => exact ⟨j + 1, by omega, by go_num, by rw [HMS.out]; exact max_if M D, hb.trans (hb3.mono (by omega))⟩
          case measure => simp [intOf]; omega
        · clear hle hmx
          have hjl : j = len := by omega
          have HJ := Lib.hid hjl
          clear hjl
          go_wp2_with fail
          go_ret
          exact ⟨ret_int (by rw [HX.out, HJ.out]; omega), hbw⟩
    · have hx : dep (.mk k n s len f) = 0 := by simp [dep, k3]
      have HX := Lib.hid hx
      have m3 : (k != 3 : Bool) = true := by simpa using k3
      clear hx
      go_enter Try.func33, Try.ntmps33
      go_wp2_with fail
      go_ret
      exact ⟨ret_int (by rw [HX.out]; rfl), hb1⟩

set_option maxHeartbeats 400000 in
theorem check_any (t : T) (v : Value) (w : World) (hrd : Rd w.heap.size w t v) (hd : dep t ≤ 1000000) :
    Calls Try.prog 16 #[v] w fun e w' => e = .returned (.int .i64 (chk t)) ∧ Below w.heap.size w w' := by
  obtain ⟨k, n, s, len, f, rfl⟩ := hrd.ex
  have hrd1 := hrd
  obtain ⟨a, cap, rfl, h1, h2, h3, h4, h5⟩ := hrd1
  clear h5
  unfold Fit maxLen at *
  have hb := (Below.refl w.heap.size w).alloc (Nat.le_refl _) (.cells #[.int .i64 k, .int .i64 n, .string s, .slice a len cap] 24)
  have hrd2 := hrd.up hb
  clear hrd
  generalize hT : T.mk k n s len f = t at *
  have HT := Lib.hid hT
  clear hT
  go_enter Try.func16, Try.ntmps16
  go_wp2_with fail
  refine (wf_any _ _ _ hrd2).mono ?_
  rintro e w1 ⟨rfl, hb1⟩
  have hcell := box4 (w := w) (wr := w1) (t := 24) (c0 := .int .i64 k) (c1 := .int .i64 n) (c2 := .string s) (c3 := .slice a len cap) (by simpa using hb1)
  obtain ⟨b0, b1, b2, b3, hsz⟩ := hcell
  have hbw := box4_below (w := w) (wr := w1) (by simpa using hb1)
  have hrd3 := hrd2.up hb1
  clear hrd2 hb1 hb
  cases hw : wfB t
  · have hx : chk t = 1 := by simp [chk, hw]
    have HX := Lib.hid hx
    clear hx hw
    go_wp2_with fail
    go_ret
    exact ⟨ret_int HX.out.symm, hbw⟩
  · have hx : chk t = if 16 < dep t then 2 else 0 := by simp [chk, hw]
    have HX := Lib.hid hx
    clear hx hw
    go_wp2_with fail
    refine (depth_any _ _ _ hrd3 hd).mono ?_
    rintro e w2 ⟨rfl, hb2⟩
    have hb3 := hbw.trans (hb2.mono hbw.size)
    generalize dep t = D at *
    by_cases hD : 16 < D
    · go_wp2_with fail
      go_ret
      exact ⟨ret_int (by rw [HX.out, if_pos (by omega)]), hb3⟩
    · go_wp2_with fail
      go_ret
      exact ⟨ret_int (by rw [HX.out, if_neg (by omega)]), hb3⟩

set_option maxHeartbeats 400000 in
theorem refCheck_any (t : T) (v : Value) (w : World) (hrd : Rd w.heap.size w t v) (hd : dep t ≤ 1000000) :
    Calls Try.prog 17 #[v] w fun e w' => e = .returned (.int .i64 (chk t)) ∧ Below w.heap.size w w' := by
  obtain ⟨k, n, s, len, f, rfl⟩ := hrd.ex
  have hrd1 := hrd
  obtain ⟨a, cap, rfl, h1, h2, h3, h4, h5⟩ := hrd1
  clear h5
  unfold Fit maxLen at *
  have hb := (Below.refl w.heap.size w).alloc (Nat.le_refl _) (.cells #[.int .i64 k, .int .i64 n, .string s, .slice a len cap] 24)
  have hrd2 := hrd.up hb
  clear hrd
  generalize hT : T.mk k n s len f = t at *
  have HT := Lib.hid hT
  clear hT
  go_enter Try.func17, Try.ntmps17
  go_wp2_with fail
  refine (formed_any _ _ _ hrd2).mono ?_
  rintro e w1 ⟨rfl, hb1⟩
  have hcell := box4 (w := w) (wr := w1) (t := 24) (c0 := .int .i64 k) (c1 := .int .i64 n) (c2 := .string s) (c3 := .slice a len cap) (by simpa using hb1)
  obtain ⟨b0, b1, b2, b3, hsz⟩ := hcell
  have hbw := box4_below (w := w) (wr := w1) (by simpa using hb1)
  have hrd3 := hrd2.up hb1
  clear hrd2 hb1 hb
  cases hw : wfB t
  · have hx : chk t = 1 := by simp [chk, hw]
    have HX := Lib.hid hx
    clear hx hw
    go_wp2_with fail
    go_ret
    exact ⟨ret_int HX.out.symm, hbw⟩
  · have hx : chk t = if 16 < dep t then 2 else 0 := by simp [chk, hw]
    have HX := Lib.hid hx
    clear hx hw
    go_wp2_with fail
    refine (refDepth_any _ _ _ hrd3 hd).mono ?_
    rintro e w2 ⟨rfl, hb2⟩
    have hb3 := hbw.trans (hb2.mono hbw.size)
    generalize dep t = D at *
    by_cases hD : 16 < D
    · go_wp2_with fail
      go_ret
      exact ⟨ret_int (by rw [HX.out, if_pos (by omega)]), hb3⟩
    · go_wp2_with fail
      go_ret
      exact ⟨ret_int (by rw [HX.out, if_neg (by omega)]), hb3⟩
end Go.Proofs.Ytkihimafeonibaa
