import Derived.Test.YtkihimafeonibaaProg
import Derived.Test.YtkihimafeonibaaVal
import Derived.WalkKit
import Derived.WalkSpells
import Derived.Outline
import Derived.Lib.Hide
namespace Go.Proofs.Ytkihimafeonibaa
open Go.RowKit
set_option linter.unusedVariables false

/-- The sum of g 0, g 1 .. up to j, on top of a, that stops beyond 1000. -/
def cntTo (g : Nat → Int) (a : Int) : Nat → Int
  | 0 => a
  | j + 1 => if cntTo g a j ≤ 1000 then cntTo g a j + g j else cntTo g a j

def cnt : T → Int → Int
  | .nil, _ => 1
  | .mk _ _ s len f, d => if d < 0 ∨ 150 < len then 1000 else cntTo (fun i => cnt (f i) (d - 1)) (1 + s.size / 200) len

theorem cntTo_bound {g : Nat → Int} {a M : Int} (ha : 1 ≤ a) (hM : a ≤ 1000 + M) {n : Nat} (h : ∀ i, i < n → 1 ≤ g i ∧ g i ≤ M) : ∀ j, j ≤ n → 1 ≤ cntTo g a j ∧ cntTo g a j ≤ 1000 + M := by
  intro j
  induction j with
  | zero => exact fun _ => ⟨ha, hM⟩
  | succ j ih =>
    intro hj
    have := h j hj
    have := ih (by omega)
    simp only [cntTo]
    split <;> omega

/-- Beyond 1000 the sum stays. -/
theorem cntTo_stop {g : Nat → Int} {a : Int} {j : Nat} (h : 1000 < cntTo g a j) : ∀ {n : Nat}, j ≤ n → cntTo g a n = cntTo g a j := by
  intro n hn
  induction n with
  | zero => have : j = 0 := by omega
            subst this; rfl
  | succ n ih =>
    by_cases e : j = n + 1
    · subst e; rfl
    · have := ih (by omega)
      simp only [cntTo]
      rw [this, if_neg (by omega)]

theorem cntTo_step (g : Nat → Int) (a : Int) (j : Nat) : cntTo g a j ≤ 1000 → cntTo g a (j + 1) = cntTo g a j + g j := by
  intro h
  simp only [cntTo]
  rw [if_pos h]

theorem cnt_bound (t : T) : ∀ (d : Int), Short t → 1 ≤ cnt t d ∧ cnt t d ≤ 92233720368547759 + 1000 * ((d + 1).toNat + 1) := by
  induction t with
  | nil => first | (intros; exact False.elim (by assumption)) | (intro hw; cases hw)
  | mk k n s len f ih =>
    rintro d ⟨hs, hf⟩
    simp only [cnt]
    split
    · omega
    · have := cntTo_bound (g := fun i => cnt (f i) (d - 1)) (a := 1 + s.size / 200) (M := 92233720368547759 + 1000 * ((d - 1 + 1).toNat + 1)) (n := len) (by omega) (by omega) (fun i hi => ih i (d - 1) (hf i hi)) len (Nat.le_refl _)
      omega

set_option maxHeartbeats 400000 in
theorem count_any (t : T) : ∀ (v : Value) (d : Int) (w : World), Rd w.heap.size w t v → -30 ≤ d → d ≤ 30 →
    Calls Try.prog 38 #[v, .int .i64 d] w fun e w' => e = .returned (.int .i64 (cnt t d)) ∧ Below w.heap.size w w' := by
  induction t with
  | nil => first | (intros; exact False.elim (by assumption)) | (intro hw; cases hw)
  | mk k n s len f ih =>
    rintro v d w hrd hd1 hd2
    have hsh := hrd.short
    obtain ⟨a, cap, rfl, h1, h2, h3, h4, h5⟩ := hrd
    unfold Fit maxLen at *
    by_cases hd : d < 0
    · have hx : cnt (.mk k n s len f) d = 1000 := by simp [cnt, hd]
      have HX := Lib.hid hx
      clear hx
      go_enter Try.func38, Try.ntmps38
      go_wp2_with fail
      go_ret
      exact ⟨ret_int HX.out.symm, (Below.refl _ _).alloc (Nat.le_refl _) _⟩
    by_cases hl : 150 < len
    · have hx : cnt (.mk k n s len f) d = 1000 := by simp [cnt, hl]
      have HX := Lib.hid hx
      clear hx
      go_enter Try.func38, Try.ntmps38
      go_wp2_with fail
      go_ret
      exact ⟨ret_int HX.out.symm, (Below.refl _ _).alloc (Nat.le_refl _) _⟩
    · have hx : cnt (.mk k n s len f) d = cntTo (fun i => cnt (f i) (d - 1)) (1 + s.size / 200) len := by simp only [cnt]; rw [if_neg (by omega)]
      have HX := Lib.hid hx
      have hbnd := cntTo_bound (g := fun i => cnt (f i) (d - 1)) (a := 1 + s.size / 200) (M := 92233720368547759 + 1000 * (d.toNat + 1)) (n := len) (by omega) (by omega) (fun i hi => by have := cnt_bound (f i) (d - 1) (hsh.2 i hi); omega)
      clear hx
      generalize hG : (fun i => cnt (f i) (d - 1)) = G at *
      have HG := Lib.hid hG
      clear hG
      go_enter Try.func38, Try.ntmps38
      go_wp2_with fail
      go_loopw [5, 6] (fun c i wr => ∃ j : Nat, j ≤ len ∧ i = .int .i64 j ∧ c = .int .i64 (cntTo G (1 + s.size / 200) j) ∧ Below (w.heap.size + 1) (w.alloc (.cells #[.int .i64 k, .int .i64 n, .string s, .slice a len cap] 24)) wr) (fun _ i _ => len - (intOf i).toNat)
      case atStart => exact ⟨0, Nat.zero_le _, rfl, rfl, Below.refl _ _⟩
      case round =>
        obtain ⟨j, hj, rfl, rfl, hb⟩ := hrel
        have hbj := hbnd j hj
        obtain ⟨b0, b1, b2, b3, hsz⟩ := box4 hb
        have hbw := box4_below hb
        by_cases hlt : j < len
        · obtain ⟨b, off, rfl, hbl, hc⟩ := h5 (by omega)
          obtain ⟨c0, c1, c2, c3, e0, e1, e2, e3, hr⟩ := hc j hlt
          have hr' := (hr.below hbw).more hbw.size
          rw [← hbw.cell (by exact hbl)] at e0 e1 e2 e3
          clear h5 hc
          have hst := cntTo_step G (1 + s.size / 200) j
          have hsp := @cntTo_stop G (1 + s.size / 200) j
          have HST := Lib.hid hst
          have HSP := Lib.hid hsp
          clear hst hsp
          generalize cntTo G (1 + s.size / 200) j = C at *
          by_cases hC : C ≤ 1000
          · go_wp2_with fail
            refine (ih j _ _ _ hr' (by omega) (by omega)).mono ?_
            rintro e w' ⟨rfl, hb'⟩
            have hbn := cnt_bound (f j) (d - 1) (hsh.2 j hlt)
            have hD : cnt (f j) (d - 1) = G j := by rw [← HG.out]
            have HD := Lib.hid hD
            clear hD
            generalize cnt (f j) (d - 1) = D at *
            go_wp2_with fail
            go_roundw
            case rel => exact ⟨j + 1, by omega, by go_num, by rw [HST.out hC, HD.out], hb.trans (hb'.mono (by omega))⟩
            case measure => simp [intOf]; omega
          · go_wp2_with fail
            go_ret
            exact ⟨ret_int (by rw [HX.out, HSP.out (by omega) (by omega)]), hbw⟩
        · go_wp2_with fail
          go_ret
          obtain rfl : j = len := by omega
          exact ⟨ret_int (by rw [HX.out]), hbw⟩
end Go.Proofs.Ytkihimafeonibaa
