import Derived.Test.YtkihimafeonibaaCount
import Derived.StillTailTactics
import Derived.Deep.RegionHeld3
import Derived.Deep.RegionWith
namespace Go.Proofs.Ytkihimafeonibaa
open Go.RowKit
set_option linter.unusedVariables false

theorem beq_cast (a b : Nat) : (((a : Int) == (b : Int)) : Bool) = (a == b) := by
  rw [Bool.eq_iff_iff]; simp; omega

set_option maxHeartbeats 400000 in
theorem refSame_no (k n k' n' : Int) (s s' : ByteArray) (len cap len' cap' : Nat) (a a' : Option Addr) (w : World) (h4 : len ≤ maxLen) (h4' : len' ≤ maxLen)
    (hno : (k == k' && n == n' && s.toList == s'.toList && len == len') = false) :
    Calls Try.prog 20 #[.agg #[.int .i64 k, .int .i64 n, .string s, .slice a len cap], .agg #[.int .i64 k', .int .i64 n', .string s', .slice a' len' cap']] w fun e w' =>
      e = .returned (.bool false) ∧ Below w.heap.size w w' := by
  have HNO := Lib.hid hno
  clear hno
  unfold maxLen at *
  go_enter Try.func20, Try.ntmps20
  go_wp2_with fail
  all_goals first
    | (go_ret; exact ⟨rfl, ((Below.refl _ _).alloc (Nat.le_refl _) _).alloc (by simp) _⟩)
    | (exfalso
       have hh := HNO.out
       have e4 : ((len : Int) != (len' : Int)) = false := by assumption
       have e5 : len = len' := by
         have e6 := e4
         simp at e6
         omega
       have f1 : k = k' := by assumption
       have f2 : n = n' := by assumption
       have f3 : s.toList = s'.toList := by assumption
       rw [f1, f2, f3, e5] at hh
       simp at hh)

set_option maxHeartbeats 400000 in
theorem refSame_any (t : T) : ∀ (t' : T) (v v' : Value) (w : World), Rd w.heap.size w t v → Rd w.heap.size w t' v' →
    Calls Try.prog 20 #[v, v'] w fun e w' => e = .returned (.bool (same t t')) ∧ Below w.heap.size w w' := by
  induction t with
  | nil => first | (intros; exact False.elim (by assumption)) | (intro hw; cases hw)
  | mk k n s len f ih =>
    rintro t' v v' w hrd hrd'
    obtain ⟨k', n', s', len', f', rfl⟩ := hrd'.ex
    obtain ⟨a, cap, rfl, h1, h2, h3, h4, h5⟩ := hrd
    obtain ⟨a', cap', rfl, h1', h2', h3', h4', h5'⟩ := hrd'
    by_cases hno : (k == k' && n == n' && s.toList == s'.toList && len == len') = false
    · refine (refSame_no k n k' n' s s' len cap len' cap' a a' w h4 h4' hno).mono ?_
      rintro e w' ⟨rfl, hb⟩
      exact ⟨ret_bool (by simp only [same]; rw [hno]; rfl), hb⟩
    · simp only [Bool.not_eq_false, Bool.and_eq_true, beq_iff_eq] at hno
      obtain ⟨⟨⟨rfl, rfl⟩, hs⟩, rfl⟩ := hno
      have hx : same (.mk k n s len f) (.mk k n s' len f') = allTo (fun i => same (f i) (f' i)) len := by simp only [same]; simp [hs]
      have HX := Lib.hid hx
      clear hx
      generalize hG : (fun i => same (f i) (f' i)) = G at *
      have HG := Lib.hid hG
      clear hG
      unfold Fit maxLen at *
      change RdS w.heap.size w len f a at h5
      change RdS w.heap.size w len f' a' at h5'
      go_enter Try.func20, Try.ntmps20
      go_wp2_with fail
      go_loopw [5] (fun i wr => ∃ j : Nat, j ≤ len ∧ i = .int .i64 j ∧ allTo G j = true ∧ Below (w.heap.size + 2) ((w.alloc (.cells #[.int .i64 k, .int .i64 n, .string s, .slice a len cap] 24)).alloc (.cells #[.int .i64 k, .int .i64 n, .string s', .slice a' len cap'] 24)) wr) (fun i _ => len - (intOf i).toNat)
      case atStart => exact ⟨0, Nat.zero_le _, rfl, rfl, Below.refl _ _⟩
      case round =>
        obtain ⟨j, hj, rfl, hall, hb⟩ := hrel
        have HA := Lib.hid hall
        clear hall
        obtain ⟨b0, b1, b2, b3, d0, d1, d2, d3, hsz⟩ := box44 hb
        have hbw := box44_below hb
        by_cases hlt : j < len
        · obtain ⟨b, off, c0, c1, c2, c3, rfl, hbl, e0, e1, e2, e3, hr⟩ := h5.at_ hbw hlt
          obtain ⟨b', off', c0', c1', c2', c3', rfl, hbl', e0', e1', e2', e3', hr'⟩ := h5'.at_ hbw hlt
          clear h5 h5'
          go_wp2_with fail
          go_still_tail 10, (by kernel_rfl)
          change wpList _ _ _ _ _ wr.drew
          have hr1 := hr.drew
          have hr1' := hr'.drew
          have hbd : Below (w.heap.size + 2) _ wr.drew := hb.drew
          have hs1 : wr.drew.heap.size = wr.heap.size := rfl
          rw [← hs1] at hr1 hr1'
          have hbd' : Below w.heap.size w wr.drew := hbw.drew
          generalize wr.drew = w2 at *
          clear hs1
          go_wp2_with fail
          refine (ih j _ _ _ _ hr1 hr1').mono ?_
          rintro e w3 ⟨rfl, hb3⟩
          have hD : same (f j) (f' j) = G j := by rw [← HG.out]
          have hGs := @allTo_stop G j len
          have HGS := Lib.hid hGs
          clear hGs
          have HD := Lib.hid hD
          clear hD
          generalize same (f j) (f' j) = D at *
          have hbz := hb3.size
          have hbx := hbd.size
          simp at hbx
          cases D
          · go_wp2_with fail
            go_ret
            exact ⟨ret_bool (by rw [HX.out, HGS.out HD.out.symm hlt]), hbd'.trans (hb3.mono (by omega))⟩
          · go_wp2_with fail
            go_roundw
            case rel => exact ⟨j + 1, by omega, by go_num, by simp only [allTo]; rw [HA.out, ← HD.out]; rfl, hbd.trans (hb3.mono (by omega))⟩
            case measure => simp [intOf]; omega
        · go_wp2_with fail
          go_ret
          obtain rfl : j = len := by omega
          exact ⟨ret_bool (by rw [HX.out, HA.out]), hbw⟩
end Go.Proofs.Ytkihimafeonibaa
