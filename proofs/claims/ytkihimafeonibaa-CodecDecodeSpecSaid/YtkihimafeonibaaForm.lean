import Derived.Test.YtkihimafeonibaaSmall
import Derived.Test.YtkihimafeonibaaSame
namespace Go.Proofs.Ytkihimafeonibaa
open Go.RowKit
set_option linter.unusedVariables false

set_option maxHeartbeats 400000 in
theorem allWf_any (len cap : Nat) (f : Nat → T) (a : Option Addr) (w : World) (p : Nat → Bool) (h4 : len ≤ maxLen) (h5 : RdS w.heap.size w len f a)
    (hS : ∀ i, i < len → ∀ (v : Value) (w : World), Rd w.heap.size w (f i) v → Calls Try.prog 30 #[v] w fun e w' => e = .returned (.bool (p i)) ∧ Below w.heap.size w w') :
    Calls Try.prog 44 #[.slice a len cap] w fun e w' => e = .returned (.bool (allTo p len)) ∧ Below w.heap.size w w' := by
  have HS := Lib.hid hS
  clear hS
  unfold maxLen at *
  go_enter Try.func44, Try.ntmps44
  go_wp2_with fail
  go_loopw [7] (fun i wr => ∃ j : Nat, j ≤ len ∧ i = .int .i64 j ∧ allTo p j = true ∧ Below w.heap.size w wr) (fun i _ => len - (intOf i).toNat)
  case atStart => exact ⟨0, Nat.zero_le _, rfl, rfl, Below.refl _ _⟩
  case round =>
    obtain ⟨j, hj, rfl, hall, hbw⟩ := hrel
    have HA := Lib.hid hall
    clear hall
    by_cases hlt : j < len
    · obtain ⟨b, off, c0, c1, c2, c3, rfl, hbl, e0, e1, e2, e3, hr⟩ := h5.at_ hbw hlt
      clear h5
      obtain ⟨k1, n1, s1, a1, l1, m1, rfl, rfl, rfl, rfl⟩ := hr.form
      have hbl1 : b < wr.heap.size := by have := hbw.size; omega
      go_wp2_with fail
      have hb2 := (Below.refl wr.heap.size wr).alloc (Nat.le_refl _) (.cells #[.int .i64 k1, .int .i64 n1, .string s1, .slice a1 l1 m1] 24)
      refine (HS.out j hlt _ _ (hr.up hb2)).mono ?_
      rintro e w3 ⟨rfl, hb3⟩
      have hb4 : Below w.heap.size w w3 := hbw.trans ((hb2.trans (hb3.mono (by simp))).mono hbw.size)
      cases hp : p j
      · have HP := Lib.hid hp
        clear hp
        go_wp2_with fail
        go_ret
        exact ⟨ret_bool (allTo_stop (j := j) HP.out hlt).symm, hb4⟩
      · have HP := Lib.hid hp
        clear hp
        go_wp2_with fail
        go_roundw
        case rel => exact ⟨j + 1, by omega, by go_num, by simp only [allTo]; rw [HA.out, HP.out]; rfl, hb4⟩
        case measure => simp [intOf]; omega
    · go_wp2_with fail
      go_ret
      obtain rfl : j = len := by omega
      exact ⟨ret_bool (by rw [HA.out]), hbw⟩

set_option maxHeartbeats 400000 in
theorem wf_any (t : T) : ∀ (v : Value) (w : World), Rd w.heap.size w t v →
    Calls Try.prog 30 #[v] w fun e w' => e = .returned (.bool (wfB t)) ∧ Below w.heap.size w w' := by
  induction t with
  | nil => first | (intros; exact False.elim (by assumption)) | (intro hw; cases hw)
  | mk k n s len f ih =>
    rintro v w ⟨a, cap, rfl, h1, h2, h3, h4, h5⟩
    change RdS w.heap.size w len f a at h5
    have hq := fun W A hh => allWf_any len cap f A W (fun i => wfB (f i)) h4 hh (fun i _ v w => ih i v w)
    have HQ := Lib.hid hq
    clear hq ih
    have hb1 := (Below.refl w.heap.size w).alloc (Nat.le_refl _) (.cells #[.int .i64 k, .int .i64 n, .string s, .slice a len cap] 24)
    unfold Fit maxLen at *
    have z0 : ∀ x : Nat, (((x : Int) == 0) : Bool) = (x == 0) := fun x => beq_cast x 0
    have Z0 := Lib.hid z0
    clear z0
    by_cases k1 : k = 1
    · subst k1
      have hx : wfB (.mk 1 n s len f) = (s.toList.isEmpty && len == 0) := by simp [wfB]
      have HX := Lib.hid hx
      clear hx
      cases hs : s.toList.isEmpty
      · have Hs := Lib.hid hs
        go_enter Try.func30, Try.ntmps30
        go_wp2_with fail
        go_ret
        exact ⟨ret_bool (by rw [HX.out, Hs.out]; rfl), hb1⟩
      · have Hs := Lib.hid hs
        go_enter Try.func30, Try.ntmps30
        go_wp2_with fail
        go_ret
        exact ⟨ret_bool (by rw [HX.out, Hs.out, Z0.out]; rfl), hb1⟩
    by_cases k2 : k = 2
    · subst k2
      have hx : wfB (.mk 2 n s len f) = (n == 0 && len == 0) := by simp [wfB]
      have HX := Lib.hid hx
      clear hx
      cases hn : (n == 0 : Bool)
      · have Hn := Lib.hid hn
        go_enter Try.func30, Try.ntmps30
        go_wp2_with fail
        go_ret
        exact ⟨ret_bool (by rw [HX.out, Hn.out]; rfl), hb1⟩
      · have Hn := Lib.hid hn
        go_enter Try.func30, Try.ntmps30
        go_wp2_with fail
        go_ret
        exact ⟨ret_bool (by rw [HX.out, Hn.out, Z0.out]; rfl), hb1⟩
    by_cases k3 : k = 3
    · subst k3
      have hx : wfB (.mk 3 n s len f) = (n == 0 && s.toList.isEmpty && allTo (fun i => wfB (f i)) len) := by simp [wfB]
      have HX := Lib.hid hx
      clear hx
      cases hn : (n == 0 : Bool)
      · have Hn := Lib.hid hn
        go_enter Try.func30, Try.ntmps30
        go_wp2_with fail
        go_ret
        exact ⟨ret_bool (by rw [HX.out, Hn.out]; rfl), hb1⟩
      cases hs : s.toList.isEmpty
      · have Hn := Lib.hid hn
        have Hs := Lib.hid hs
        go_enter Try.func30, Try.ntmps30
        go_wp2_with fail
        go_ret
        exact ⟨ret_bool (by rw [HX.out, Hn.out, Hs.out]; rfl), hb1⟩
      · have Hn := Lib.hid hn
        have Hs := Lib.hid hs
        generalize hX : allTo (fun i => wfB (f i)) len = X at *
        clear hX
        go_enter Try.func30, Try.ntmps30
        go_wp2_with fail
        refine (HQ.out _ a ((h5.below hb1).more hb1.size)).mono ?_
        rintro e w3 ⟨rfl, hb3⟩
        have hb4 : Below w.heap.size w w3 := hb1.trans (hb3.mono (by simp))
        go_wp2_with fail
        go_ret
        exact ⟨ret_bool (by rw [HX.out, Hn.out, Hs.out]; rfl), hb4⟩
    · have hx : wfB (.mk k n s len f) = false := by simp [wfB, k1, k2, k3]
      have HX := Lib.hid hx
      have m1 : (k == 1 : Bool) = false := by simpa using k1
      have m2 : (k == 2 : Bool) = false := by simpa using k2
      have m3 : (k == 3 : Bool) = false := by simpa using k3
      clear hx
      go_enter Try.func30, Try.ntmps30
      go_wp2_with fail
      go_ret
      exact ⟨ret_bool HX.out.symm, hb1⟩

set_option maxHeartbeats 400000 in
theorem formed_any (t : T) : ∀ (v : Value) (w : World), Rd w.heap.size w t v →
    Calls Try.prog 32 #[v] w fun e w' => e = .returned (.bool (wfB t)) ∧ Below w.heap.size w w' := by
  induction t with
  | nil => first | (intros; exact False.elim (by assumption)) | (intro hw; cases hw)
  | mk k n s len f ih =>
    rintro v w ⟨a, cap, rfl, h1, h2, h3, h4, h5⟩
    change RdS w.heap.size w len f a at h5
    have HI := Lib.hid ih
    clear ih
    have hb1 := (Below.refl w.heap.size w).alloc (Nat.le_refl _) (.cells #[.int .i64 k, .int .i64 n, .string s, .slice a len cap] 24)
    unfold Fit maxLen at *
    have z0 : ∀ x : Nat, (((x : Int) == 0) : Bool) = (x == 0) := fun x => beq_cast x 0
    have Z0 := Lib.hid z0
    clear z0
    by_cases k1 : k = 1
    · subst k1
      have hx : wfB (.mk 1 n s len f) = (s.toList.isEmpty && len == 0) := by simp [wfB]
      have HX := Lib.hid hx
      clear hx
      cases hs : s.toList.isEmpty
      · have Hs := Lib.hid hs
        go_enter Try.func32, Try.ntmps32
        go_wp2_with fail
        go_ret
        exact ⟨ret_bool (by rw [HX.out, Hs.out]; rfl), hb1⟩
      · have Hs := Lib.hid hs
        go_enter Try.func32, Try.ntmps32
        go_wp2_with fail
        go_ret
        exact ⟨ret_bool (by rw [HX.out, Hs.out, Z0.out]; rfl), hb1⟩
    by_cases k2 : k = 2
    · subst k2
      have hx : wfB (.mk 2 n s len f) = (n == 0 && len == 0) := by simp [wfB]
      have HX := Lib.hid hx
      clear hx
      cases hn : (n == 0 : Bool)
      · have Hn := Lib.hid hn
        go_enter Try.func32, Try.ntmps32
        go_wp2_with fail
        go_ret
        exact ⟨ret_bool (by rw [HX.out, Hn.out]; rfl), hb1⟩
      · have Hn := Lib.hid hn
        go_enter Try.func32, Try.ntmps32
        go_wp2_with fail
        go_ret
        exact ⟨ret_bool (by rw [HX.out, Hn.out, Z0.out]; rfl), hb1⟩
    by_cases k3 : k = 3
    · subst k3
      have hx : wfB (.mk 3 n s len f) = (n == 0 && s.toList.isEmpty && allTo (fun i => wfB (f i)) len) := by simp [wfB]
      have HX := Lib.hid hx
      clear hx
      go_enter Try.func32, Try.ntmps32
      go_wp2_with fail
      go_loopw [3] (fun i wr => ∃ j : Nat, j ≤ len ∧ i = .int .i64 j ∧ allTo (fun i => wfB (f i)) j = true ∧ Below (w.heap.size + 1) (w.alloc (.cells #[.int .i64 3, .int .i64 n, .string s, .slice a len cap] 24)) wr) (fun i _ => len - (intOf i).toNat)
      case atStart => exact ⟨0, Nat.zero_le _, rfl, rfl, Below.refl _ _⟩
      case round =>
        obtain ⟨j, hj, rfl, hall, hb⟩ := hrel
        have HA := Lib.hid hall
        clear hall
        obtain ⟨b0, b1, b2, b3, hsz⟩ := box4 hb
        have hbw := box4_below hb
        by_cases hlt : j < len
        · obtain ⟨b, off, c0, c1, c2, c3, rfl, hbl, e0, e1, e2, e3, hr⟩ := h5.at_ hbw hlt
          clear h5
          go_wp2_with fail
          refine (HI.out j _ _ hr).mono ?_
          rintro e w3 ⟨rfl, hb3⟩
          cases hp : wfB (f j)
          · have hy : allTo (fun i => wfB (f i)) len = false := allTo_stop (j := j) hp hlt
            have HY := Lib.hid hy
            clear hp hy
            go_wp2_with fail
            go_ret
            exact ⟨ret_bool (by rw [HX.out, HY.out]; simp), hbw.trans (hb3.mono (by omega))⟩
          · have HP := Lib.hid hp
            clear hp
            go_wp2_with fail
            go_roundw
            case rel => exact ⟨j + 1, by omega, by go_num, by simp only [allTo]; rw [HA.out, HP.out]; rfl, hb.trans (hb3.mono (by omega))⟩
            case measure => simp [intOf]; omega
        · cases hn : (n == 0 : Bool)
          · have Hn := Lib.hid hn
            go_wp2_with fail
            go_ret
            exact ⟨ret_bool (by rw [HX.out, Hn.out]; rfl), hbw⟩
          cases hs : s.toList.isEmpty
          · have Hn := Lib.hid hn
            have Hs := Lib.hid hs
            go_wp2_with fail
            go_ret
            exact ⟨ret_bool (by rw [HX.out, Hn.out, Hs.out]; rfl), hbw⟩
          · have Hn := Lib.hid hn
            have Hs := Lib.hid hs
            go_wp2_with fail
            go_ret
            obtain rfl : j = len := by omega
            exact ⟨ret_bool (by rw [HX.out, Hn.out, Hs.out, HA.out]; rfl), hbw⟩
    · have hx : wfB (.mk k n s len f) = false := by simp [wfB, k1, k2, k3]
      have HX := Lib.hid hx
      have m1 : (k == 1 : Bool) = false := by simpa using k1
      have m2 : (k == 2 : Bool) = false := by simpa using k2
      have m3 : (k == 3 : Bool) = false := by simpa using k3
      clear hx
      go_enter Try.func32, Try.ntmps32
      go_wp2_with fail
      go_ret
      exact ⟨ret_bool HX.out.symm, hb1⟩
end Go.Proofs.Ytkihimafeonibaa
