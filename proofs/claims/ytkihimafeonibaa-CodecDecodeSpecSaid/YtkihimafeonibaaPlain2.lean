/- The plain parser and the plain encoding undo each other. -/
import Derived.Test.YtkihimafeonibaaPlain
import Derived.Test.YtkihimafeonibaaParse
namespace Go.Proofs.Ytkihimafeonibaa
open Go.RowKit
set_option linter.unusedVariables false

theorem uns_sgn (u : Nat) : uns (sgn u) = u := by
  unfold uns sgn
  split <;> split <;> omega
theorem sgn_uns (n : Int) : sgn (uns n) = n := by
  unfold uns sgn
  split <;> split <;> omega

theorem byte_of (d : UInt8) : UInt8.ofNat d.toNat = d := by simp
theorem of_byte (n : Nat) (h : n < 256) : (UInt8.ofNat n).toNat = n := UInt8.toNat_ofNat_of_lt' (by simpa [UInt8.size] using h)

theorem pn_end (i u x : Nat) (r : List UInt8) (h : x < 128) (h9 : i = 9 → x ≤ 1) (h0 : 0 < i → 0 < x) : pn i u (UInt8.ofNat x :: r) = some (u + x * 2 ^ (7 * i), r) := by
  simp only [pn]
  rw [of_byte x (by omega), if_neg (by omega), if_neg (by omega), if_neg (by omega), Nat.mod_eq_of_lt h]

theorem pn_num : ∀ (k i x u : Nat) (r : List UInt8), i + k = 9 → x < 2 ^ (64 - 7 * i) → (0 < i → 0 < x) → pn i u (numF k x ++ r) = some (u + x * 2 ^ (7 * i), r) := by
  intro k
  induction k with
  | zero =>
    intro i x u r hi hx h0
    obtain rfl : i = 9 := by omega
    have hx : x < 2 := by simpa using hx
    exact pn_end 9 u x r (by omega) (by omega) h0
  | succ k ih =>
    intro i x u r hi hx h0
    by_cases h : x < 128
    · rw [numF_small _ _ h]
      exact pn_end i u x r h (by omega) h0
    · rw [numF_big _ _ (by omega)]
      simp only [List.cons_append, pn]
      rw [of_byte _ (by omega), if_neg (by omega), if_pos (by omega)]
      have e1 : 2 ^ (64 - 7 * i) = 128 * 2 ^ (64 - 7 * (i + 1)) := by rw [show 64 - 7 * i = 7 + (64 - 7 * (i + 1)) by omega, Nat.pow_add]
      have e2 : 2 ^ (7 * (i + 1)) = 128 * 2 ^ (7 * i) := by rw [show 7 * (i + 1) = 7 + 7 * i by omega, Nat.pow_add]
      rw [ih (i + 1) (x / 128) _ r (by omega) (by omega) (by omega)]
      congr 2
      rw [e2]
      have e3 : (x % 128 + 128) % 128 = x % 128 := by omega
      rw [e3, Nat.add_assoc]
      congr 1
      have e4 : x / 128 * (128 * 2 ^ (7 * i)) = x / 128 * 128 * 2 ^ (7 * i) := by rw [Nat.mul_assoc]
      rw [e4, ← Nat.add_mul]
      congr 1
      omega

theorem pn_of (x : Nat) (r : List UInt8) (h : x < 18446744073709551616) : pn 0 0 (num x ++ r) = some (x, r) := by
  have := pn_num 9 0 x 0 r (by omega) (by simpa using h) (by omega)
  unfold num
  rw [this]
  simp

theorem pn_back : ∀ (l : List UInt8) (i u y : Nat) (r : List UInt8), pn i u l = some (y, r) → i ≤ 9 → ∃ x, y = u + x * 2 ^ (7 * i) ∧ l = numF (9 - i) x ++ r ∧ (0 < i → 0 < x) := by
  intro l
  induction l with
  | nil => intro i u y r h; simp [pn] at h
  | cons d l ih =>
    intro i u y r h hi
    have hd := d.toNat_lt
    simp only [pn] at h
    split at h
    · cases h
    · rename_i hn
      split at h
      · rename_i h128
        have hi8 : i ≤ 8 := by omega
        obtain ⟨x, hy, hl, h0⟩ := ih (i + 1) _ y r h (by omega)
        have h0 := h0 (by omega)
        refine ⟨d.toNat % 128 + 128 * x, ?_, ?_, by omega⟩
        · rw [hy, show 7 * (i + 1) = 7 + 7 * i by omega, Nat.pow_add, Nat.add_mul, Nat.add_assoc]
          congr 2
          rw [Nat.mul_comm 128 x, Nat.mul_assoc]
        · rw [show 9 - i = 9 - (i + 1) + 1 by omega, numF_big _ _ (by omega), show (d.toNat % 128 + 128 * x) % 128 + 128 = d.toNat by omega, show (d.toNat % 128 + 128 * x) / 128 = x by omega, byte_of, hl]
          rfl
      · rename_i h128
        split at h
        · cases h
        · injection h with h
          injection h with h1 h2
          subst h1 h2
          refine ⟨d.toNat, by rw [Nat.mod_eq_of_lt (by omega)], ?_, by omega⟩
          rw [numF_small _ _ (by omega), byte_of]
          rfl

theorem pn_to {l r : List UInt8} {x : Nat} (h : pn 0 0 l = some (x, r)) : l = num x ++ r := by
  obtain ⟨y, hy, hl, _⟩ := pn_back l 0 0 x r h (by omega)
  obtain rfl : x = y := by simpa using hy
  exact hl

theorem catTo_cons (g : Nat → List UInt8) (n : Nat) : catTo g (n + 1) = g 0 ++ catTo (fun i => g (i + 1)) n := by
  induction n with
  | zero => simp [catTo]
  | succ n ih =>
    have e : catTo g (n + 1 + 1) = catTo g (n + 1) ++ g (n + 1) := rfl
    rw [e, ih]
    simp [catTo]
theorem catTo_congr {g h : Nat → List UInt8} {n : Nat} (e : ∀ i, i < n → g i = h i) : catTo g n = catTo h n := by
  induction n with
  | zero => rfl
  | succ n ih => simp only [catTo]; rw [ih (fun i hi => e i (by omega)), e n (by omega)]

theorem pval_one (room : Nat) (l : List UInt8) : pval room (1 :: l) = pint (pn 0 0 l) := by cases room <;> rfl
theorem pval_two (room : Nat) (l : List UInt8) : pval room (2 :: l) = ptext (pn 0 0 l) := by cases room <;> rfl
theorem pval_three (room : Nat) (l : List UInt8) : pval (room + 1) (3 :: l) = tlist (plist (pval room) (pn 0 0 l)) := rfl

/-- The limits of what memory can hold. -/
def Lim : T → Prop
  | .nil => True
  | .mk _ n s len f => Fit n ∧ s.size ≤ maxLen ∧ len ≤ maxLen ∧ ∀ i, i < len → Lim (f i)
theorem Rd.lim {B : Nat} {w : World} : ∀ (t : T) (v : Value), Rd B w t v → Lim t := by
  intro t
  induction t with
  | nil => intro v _; exact True.intro
  | mk k n s len f ih =>
    rintro v ⟨a, cap, rfl, h1, h2, h3, h4, h5⟩
    refine ⟨h2, h3, h4, fun i hi => ?_⟩
    obtain ⟨b, off, rfl, hb, hc⟩ := h5 (by omega)
    obtain ⟨c0, c1, c2, c3, e0, e1, e2, e3, hr⟩ := hc i hi
    exact ih i _ hr

theorem ploop_cat (p : List UInt8 → Option (T × List UInt8)) : ∀ (n : Nat) (f : Nat → T), (∀ i, i < n → ∀ r, ∃ t', p (enc (f i) ++ r) = some (t', r) ∧ same (f i) t' = true) → ∀ r,
    ∃ ts, ploop p n (catTo (fun i => enc (f i)) n ++ r) = some (ts, r) ∧ ts.length = n ∧ ∀ i, i < n → same (f i) (ts.getD i .nil) = true := by
  intro n
  induction n with
  | zero => intro f h r; exact ⟨[], rfl, rfl, fun i hi => by omega⟩
  | succ n ih =>
    intro f h r
    obtain ⟨ts, h1, h2, h3⟩ := ih (fun i => f (i + 1)) (fun i hi => h (i + 1) (by omega)) r
    obtain ⟨t', h4, h5⟩ := h 0 (by omega) (catTo (fun i => enc (f (i + 1))) n ++ r)
    refine ⟨t' :: ts, ?_, by simp [h2], fun i hi => ?_⟩
    · rw [catTo_cons, List.append_assoc]
      simp only [ploop]
      rw [h4]
      simp only [h1]
    · cases i with
      | zero => exact h5
      | succ i => simpa using h3 i (by omega)

theorem toList_loop (bs : ByteArray) : ∀ (k i : Nat) (r : List UInt8), bs.size - i = k → ByteArray.toList.loop bs i r = r.reverse ++ bs.data.toList.drop i := by
  intro k
  induction k with
  | zero =>
    intro i r h
    unfold ByteArray.toList.loop
    rw [if_neg (by omega), List.drop_eq_nil_of_le (by rw [Array.length_toList]; show bs.size ≤ i; omega)]
    simp
  | succ k ih =>
    intro i r h
    unfold ByteArray.toList.loop
    rw [if_pos (by omega), ih (i + 1) _ (by omega)]
    have hi : i < bs.data.toList.length := by rw [Array.length_toList]; show i < bs.size; omega
    rw [List.drop_eq_getElem_cons hi]
    simp
    have hi' : i < bs.data.size := by simpa using hi
    cases bs with
    | mk d =>
      simp [ByteArray.get!, hi']
theorem toList_eq (bs : ByteArray) : bs.toList = bs.data.toList := by
  unfold ByteArray.toList
  rw [toList_loop bs _ 0 [] rfl]
  simp
theorem toList_of (l : List UInt8) : (⟨l.toArray⟩ : ByteArray).toList = l := by rw [toList_eq]

theorem enc_pval (t : T) : ∀ (room : Nat) (r : List UInt8), Lim t → wfB t = true → dep t ≤ room → ∃ t', pval room (enc t ++ r) = some (t', r) ∧ same t t' = true := by
  induction t with
  | nil => intro room r hl hw; cases hw
  | mk k n s len f ih =>
    rintro room r ⟨hn, hs, hlen, hf⟩ hw hd
    unfold maxLen at hs hlen
    by_cases k1 : k = 1
    · subst k1
      simp [wfB] at hw
      obtain ⟨hw1, rfl⟩ := hw
      refine ⟨tInt n, ?_, ?_⟩
      · simp only [enc, if_true, List.cons_append]
        rw [pval_one, pn_of _ _ (uns_lt n hn)]
        simp only [pint]
        rw [sgn_uns]
      · simp [same, tInt, allTo, hw1]
    by_cases k2 : k = 2
    · subst k2
      simp [wfB] at hw
      obtain ⟨rfl, rfl⟩ := hw
      have hsz : s.data.toList.length = s.size := Array.length_toList
      refine ⟨tText s.data.toList, ?_, ?_⟩
      · simp only [enc]
        rw [if_neg (by omega), if_pos True.intro, List.cons_append, pval_two, List.append_assoc, pn_of _ _ (by omega)]
        simp only [ptext]
        rw [if_neg (by rw [List.length_append]; omega), ← hsz, List.take_left, List.drop_left]
      · simp [same, tText, allTo]
    by_cases k3 : k = 3
    · subst k3
      simp [wfB] at hw
      obtain ⟨⟨rfl, hs0⟩, hall⟩ := hw
      simp only [dep, if_true] at hd
      obtain ⟨room, rfl⟩ : ∃ m, room = m + 1 := ⟨room - 1, by omega⟩
      obtain ⟨ts, h1, h2, h3⟩ := ploop_cat (pval room) len f (fun i hi r => ih i room r (hf i hi) (allTo_eq.1 hall i hi) (by have : dep (f i) ≤ _ := le_maxTo (g := fun i => dep (f i)) hi; omega)) r
      refine ⟨tList ts, ?_, ?_⟩
      · simp only [enc]
        rw [if_neg (by omega), if_neg (by omega), List.cons_append, pval_three, List.append_assoc, pn_of _ _ (by omega)]
        simp only [plist]
        rw [h1]
        rfl
      · simp only [same, tList, Bool.and_eq_true]
        refine ⟨⟨⟨⟨by simp, by simp⟩, by simp [hs0]⟩, by simp [h2]⟩, allTo_eq.2 h3⟩
    · simp [wfB, k1, k2, k3] at hw

theorem ploop_back (p : List UInt8 → Option (T × List UInt8)) (P : T → Prop) (hp : ∀ l t r, p l = some (t, r) → l = enc t ++ r ∧ P t) : ∀ (n : Nat) (l : List UInt8) (ts : List T) (r : List UInt8), ploop p n l = some (ts, r) →
    l = catTo (fun i => enc (ts.getD i .nil)) ts.length ++ r ∧ ∀ i, i < ts.length → P (ts.getD i .nil) := by
  intro n
  induction n with
  | zero =>
    intro l ts r h
    simp [ploop] at h
    obtain ⟨rfl, rfl⟩ := h
    exact ⟨by simp [catTo], fun i hi => by simp at hi⟩
  | succ n ih =>
    intro l ts r h
    simp only [ploop] at h
    split at h
    · cases h
    · rename_i x hx
      split at h
      · cases h
      · rename_i y hy
        injection h with h
        injection h with h1 h2
        subst h1 h2
        obtain ⟨hl, hP⟩ := hp l x.1 x.2 hx
        obtain ⟨hl2, hP2⟩ := ih _ _ _ hy
        refine ⟨?_, fun i hi => ?_⟩
        · rw [List.length_cons, catTo_cons, List.append_assoc]
          simp only [List.getD_cons_zero, List.getD_cons_succ]
          rw [← hl2]
          exact hl
        · cases i with
          | zero => exact hP
          | succ i => simpa using hP2 i (by simpa using hi)

theorem pval_enc : ∀ (room : Nat) (l : List UInt8) (t : T) (r : List UInt8), pval room l = some (t, r) → l = enc t ++ r ∧ wfB t = true ∧ dep t ≤ room := by
  have hint : ∀ (l : List UInt8) t r room, pint (pn 0 0 l) = some (t, r) → 1 :: l = enc t ++ r ∧ wfB t = true ∧ dep t ≤ room := by
    intro l t r room h
    cases hx : pn 0 0 l with
    | none => rw [hx] at h; cases h
    | some x =>
      rw [hx] at h
      simp [pint] at h
      obtain ⟨rfl, rfl⟩ := h
      refine ⟨?_, by simp [wfB, tInt], by simp [dep, tInt]⟩
      simp only [enc, tInt, if_true, List.cons_append]
      rw [uns_sgn, ← pn_to hx]
  have htext : ∀ (l : List UInt8) t r room, ptext (pn 0 0 l) = some (t, r) → 2 :: l = enc t ++ r ∧ wfB t = true ∧ dep t ≤ room := by
    intro l t r room h
    cases hx : pn 0 0 l with
    | none => rw [hx] at h; cases h
    | some x =>
      rw [hx] at h
      simp only [ptext] at h
      split at h
      · cases h
      · rename_i hlen
        injection h with h
        injection h with h1 h2
        subst h1 h2
        refine ⟨?_, by simp [wfB, tText], by simp [dep, tText]⟩
        have hsz : (⟨(x.2.take x.1).toArray⟩ : ByteArray).size = x.1 := by simp [ByteArray.size]; omega
        simp only [enc, tText]
        rw [if_neg (by omega), if_pos True.intro, hsz, List.cons_append, List.append_assoc]
        simp only [List.take_append_drop]
        rw [← pn_to hx]
  intro room
  induction room with
  | zero =>
    intro l t r h
    cases l with
    | nil => simp [pval] at h
    | cons b l =>
      simp only [pval] at h
      split at h
      · rename_i hb
        obtain rfl : b = 1 := UInt8.toNat_inj.1 hb
        exact hint l t r 0 h
      · split at h
        · rename_i _ hb
          obtain rfl : b = 2 := UInt8.toNat_inj.1 hb
          exact htext l t r 0 h
        · cases h
  | succ room ih =>
    intro l t r h
    cases l with
    | nil => simp [pval] at h
    | cons b l =>
      simp only [pval] at h
      split at h
      · rename_i hb
        obtain rfl : b = 1 := UInt8.toNat_inj.1 hb
        exact hint l t r _ h
      · split at h
        · rename_i _ hb
          obtain rfl : b = 2 := UInt8.toNat_inj.1 hb
          exact htext l t r _ h
        · split at h
          · rename_i _ _ hb
            obtain rfl : b = 3 := UInt8.toNat_inj.1 hb
            cases hx : pn 0 0 l with
            | none => rw [hx] at h; cases h
            | some x =>
              rw [hx] at h
              simp only [plist] at h
              cases hy : ploop (pval room) x.1 x.2 with
              | none => rw [hy] at h; cases h
              | some y =>
                rw [hy] at h
                simp [tlist] at h
                obtain ⟨rfl, rfl⟩ := h
                obtain ⟨h1, h2⟩ := ploop_back (pval room) (fun t => wfB t = true ∧ dep t ≤ room) (fun l t r h => ih l t r h) _ _ _ _ hy
                have h3 := (ploop_len (pval_len room) _ _ _ _ hy).1
                refine ⟨?_, ?_, ?_⟩
                · simp only [enc, tList]
                  rw [if_neg (by omega), if_neg (by omega), List.cons_append, List.append_assoc, ← h1, h3, ← pn_to hx]
                · simp [wfB, tList]
                  exact allTo_eq.2 fun i hi => (h2 i hi).1
                · simp only [dep, tList, if_true]
                  have := maxTo_le (g := fun i => dep (y.1.getD i .nil)) (n := y.1.length) (M := room) (fun i hi => (h2 i hi).2)
                  omega
          · cases h

theorem same_enc (t : T) : ∀ (t' : T), same t t' = true → enc t = enc t' := by
  induction t with
  | nil => intro t' h; cases t' with
    | nil => rfl
    | mk => cases h
  | mk k n s len f ih =>
    intro t' h
    cases t' with
    | nil => cases h
    | mk k' n' s' len' f' =>
      simp only [same, Bool.and_eq_true] at h
      obtain ⟨⟨⟨⟨h1, h2⟩, h3⟩, h4⟩, h5⟩ := h
      obtain rfl : k = k' := by simpa using h1
      obtain rfl : n = n' := by simpa using h2
      obtain rfl : len = len' := by simpa using h4
      have h3 : s.toList = s'.toList := by simpa using h3
      rw [toList_eq, toList_eq] at h3
      have h6 : s.size = s'.size := by
        have e1 : s.data.toList.length = s.size := Array.length_toList
        have e2 : s'.data.toList.length = s'.size := Array.length_toList
        have e3 := congrArg List.length h3
        omega
      simp only [enc]
      rw [h3, h6, catTo_congr (fun i hi => ih i _ (allTo_eq.1 h5 i hi))]

theorem same_euclid (t : T) : ∀ (t' u : T), same t u = true → same t' u = true → same t t' = true := by
  induction t with
  | nil => intro t' u h h'; cases u with
    | nil => cases t' with
      | nil => rfl
      | mk => cases h'
    | mk => cases h
  | mk k n s len f ih =>
    intro t' u h h'
    cases u with
    | nil => cases h
    | mk k1 n1 s1 len1 f1 =>
      cases t' with
      | nil => cases h'
      | mk k2 n2 s2 len2 f2 =>
        simp only [same, Bool.and_eq_true, beq_iff_eq] at *
        obtain ⟨⟨⟨⟨h1, h2⟩, h3⟩, h4⟩, h5⟩ := h
        obtain ⟨⟨⟨⟨g1, g2⟩, g3⟩, g4⟩, g5⟩ := h'
        subst h1 h2 h4 g1 g2 g4
        exact ⟨⟨⟨⟨rfl, rfl⟩, h3.trans g3.symm⟩, rfl⟩, allTo_eq.2 fun i hi => ih i _ _ (allTo_eq.1 h5 i hi) (allTo_eq.1 g5 i hi)⟩

theorem chk_zero {t : T} (h : chk t = 0) : wfB t = true ∧ dep t ≤ 16 := by
  unfold chk at h
  split at h
  · rename_i hw
    split at h
    · cases h
    · exact ⟨hw, by omega⟩
  · cases h
theorem chk_ok {t : T} (h1 : wfB t = true) (h2 : dep t ≤ 16) : chk t = 0 := by
  unfold chk
  rw [if_pos h1, if_neg (by omega)]

/-- No encoding begins another. -/
theorem enc_prefix {t t' : T} (hl : Lim t) (hl' : Lim t') (hc : chk t = 0) (hc' : chk t' = 0) {r r' : List UInt8} (h : enc t ++ r = enc t' ++ r') : same t t' = true := by
  obtain ⟨h1, h2⟩ := chk_zero hc
  obtain ⟨h1', h2'⟩ := chk_zero hc'
  obtain ⟨u, e1, e2⟩ := enc_pval t 16 r hl h1 h2
  obtain ⟨u', e1', e2'⟩ := enc_pval t' 16 r' hl' h1' h2'
  rw [h, e1'] at e1
  injection e1 with e1
  injection e1 with e3 e4
  subst e3
  exact same_euclid t t' _ e2 e2'
end Go.Proofs.Ytkihimafeonibaa
