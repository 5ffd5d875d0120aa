import Derived.Test.YtkihimafeonibaaSame
namespace Go.Proofs.Ytkihimafeonibaa
open Go.RowKit
set_option linter.unusedVariables false

set_option maxHeartbeats 400000 in
theorem eqFunc_any (len cap len' cap' : Nat) (f f' : Nat → T) (a a' : Option Addr) (w : World) (p : Nat → Bool) (h4 : len ≤ maxLen) (h4' : len' ≤ maxLen)
    (h5 : RdS w.heap.size w len f a) (h5' : RdS w.heap.size w len' f' a')
    (hS : ∀ i, i < len → ∀ (v v' : Value) (w : World), Rd w.heap.size w (f i) v → Rd w.heap.size w (f' i) v' →
      Calls Try.prog 21 #[v, v'] w fun e w' => e = .returned (.bool (p i)) ∧ Below w.heap.size w w') :
    Calls Try.prog 37
      #[.slice a len cap, .slice a' len' cap', .func (.func 21) #[] #[]] w fun e w' => e = .returned (.bool (len == len' && allTo p len)) ∧ Below w.heap.size w w' := by
  have HS := Lib.hid hS
  clear hS
  unfold maxLen at *
  by_cases hl : len = len'
  · subst hl
    go_enter Try.func37, Try.ntmps37
    go_wp2_with fail
    go_loopw [17] (fun i wr => ∃ j : Nat, j ≤ len ∧ i = .int .i64 j ∧ allTo p j = true ∧ Below w.heap.size w wr) (fun i _ => len - (intOf i).toNat)
    case atStart => exact ⟨0, Nat.zero_le _, rfl, rfl, Below.refl _ _⟩
    case round =>
      obtain ⟨j, hj, rfl, hall, hbw⟩ := hrel
      have HA := Lib.hid hall
      clear hall
      by_cases hlt : j < len
      · obtain ⟨b, off, c0, c1, c2, c3, rfl, hbl, e0, e1, e2, e3, hr⟩ := h5.at_ hbw hlt
        obtain ⟨b', off', c0', c1', c2', c3', rfl, hbl', e0', e1', e2', e3', hr'⟩ := h5'.at_ hbw hlt
        clear h5 h5'
        obtain ⟨k1, n1, s1, a1, l1, m1, rfl, rfl, rfl, rfl⟩ := hr.form
        obtain ⟨k2, n2, s2, a2, l2, m2, rfl, rfl, rfl, rfl⟩ := hr'.form
        have hbl1 : b < wr.heap.size := by have := hbw.size; omega
        have hbl1' : b' < wr.heap.size := by have := hbw.size; omega
        go_wp2_with fail
        have hb2 := ((Below.refl wr.heap.size wr).alloc (Nat.le_refl _) (.cells #[.int .i64 k1, .int .i64 n1, .string s1, .slice a1 l1 m1] 24)).alloc (by simp) (.cells #[.int .i64 k2, .int .i64 n2, .string s2, .slice a2 l2 m2] 24)
        refine (HS.out j hlt _ _ _ (hr.up hb2) (hr'.up hb2)).mono ?_
        rintro e w3 ⟨rfl, hb3⟩
        have hb4 : Below w.heap.size w w3 := hbw.trans ((hb2.trans (hb3.mono (by simp; omega))).mono hbw.size)
        cases hp : p j
        · have HP := Lib.hid hp
          clear hp
          go_wp2_with fail
          go_ret
          exact ⟨ret_bool (by rw [allTo_stop HP.out hlt]; simp), hb4⟩
        · have HP := Lib.hid hp
          clear hp
          go_wp2_with fail
          go_roundw
          case rel => exact ⟨j + 1, by omega, by go_num, by simp only [allTo]; rw [HA.out, HP.out]; rfl, hb4⟩
          case measure => simp [intOf]; omega
      · go_wp2_with fail
        go_ret
        obtain rfl : j = len := by omega
        exact ⟨ret_bool (by rw [HA.out]; simp), hbw⟩
  · have hn : (((len : Int) != (len' : Int)) : Bool) = true := by simp; omega
    go_enter Try.func37, Try.ntmps37
    go_wp2_with fail
    go_ret
    exact ⟨ret_bool (by rw [beq_eq_false_iff_ne.2 hl]; rfl), Below.refl _ _⟩

set_option maxHeartbeats 400000 in
theorem same_any (t : T) : ∀ (t' : T) (v v' : Value) (w : World), Rd w.heap.size w t v → Rd w.heap.size w t' v' →
    Calls Try.prog 21 #[v, v'] w fun e w' => e = .returned (.bool (same t t')) ∧ Below w.heap.size w w' := by
  induction t with
  | nil => first | (intros; exact False.elim (by assumption)) | (intro hw; cases hw)
  | mk k n s len f ih =>
    rintro t' v v' w hrd hrd'
    obtain ⟨k', n', s', len', f', rfl⟩ := hrd'.ex
    obtain ⟨a, cap, rfl, h1, h2, h3, h4, h5⟩ := hrd
    obtain ⟨a', cap', rfl, h1', h2', h3', h4', h5'⟩ := hrd'
    change RdS w.heap.size w len f a at h5
    change RdS w.heap.size w len' f' a' at h5'
    have hq := fun W A A' hh hh' => eqFunc_any len cap len' cap' f f' A A' W (fun i => same (f i) (f' i)) h4 h4' hh hh' (fun i _ v v' w => ih i (f' i) v v' w)
    have HQ := Lib.hid hq
    clear hq ih
    unfold Fit maxLen at *
    have fin : ∀ b : Bool, (k == k' && n == n' && s.toList == s'.toList && (len == len' && allTo (fun i => same (f i) (f' i)) len)) = b → same (.mk k n s len f) (.mk k' n' s' len' f') = b := by
      intro b hb
      rw [← hb]
      simp only [same, Bool.and_assoc]
    have FIN := Lib.hid fin
    clear fin
    by_cases hk : k = k'
    · by_cases hn : n = n'
      · by_cases hs : s.toList = s'.toList
        · go_enter Try.func21, Try.ntmps21
          go_wp2_with fail
          have hb2 := ((Below.refl w.heap.size w).alloc (Nat.le_refl _) (.cells #[.int .i64 k', .int .i64 n', .string s, .slice a len cap] 24)).alloc (by simp) (.cells #[.int .i64 k', .int .i64 n', .string s', .slice a' len' cap'] 24)
          refine (HQ.out _ a a' ((h5.below hb2).more hb2.size) ((h5'.below hb2).more hb2.size)).mono ?_
          rintro e w3 ⟨rfl, hb3⟩
          have hb4 : Below w.heap.size w w3 := hb2.trans (hb3.mono (by simp; omega))
          generalize hX : (len == len' && allTo (fun i => same (f i) (f' i)) len) = X at *
          have HX := Lib.hid hX
          clear hX
          go_wp2_with fail
          go_ret
          exact ⟨ret_bool (FIN.out _ (by rw [hk, hn, hs]; simp)).symm, hb4⟩
        · go_enter Try.func21, Try.ntmps21
          go_wp2_with fail
          go_ret
          exact ⟨ret_bool (FIN.out _ (by rw [beq_eq_false_iff_ne.2 hs]; simp)).symm, ((Below.refl _ _).alloc (Nat.le_refl _) _).alloc (by simp) _⟩
      · go_enter Try.func21, Try.ntmps21
        go_wp2_with fail
        go_ret
        exact ⟨ret_bool (FIN.out _ (by rw [beq_eq_false_iff_ne.2 hn]; simp)).symm, ((Below.refl _ _).alloc (Nat.le_refl _) _).alloc (by simp) _⟩
    · go_enter Try.func21, Try.ntmps21
      go_wp2_with fail
      go_ret
      exact ⟨ret_bool (FIN.out _ (by rw [beq_eq_false_iff_ne.2 hk]; simp)).symm, ((Below.refl _ _).alloc (Nat.le_refl _) _).alloc (by simp) _⟩
end Go.Proofs.Ytkihimafeonibaa
