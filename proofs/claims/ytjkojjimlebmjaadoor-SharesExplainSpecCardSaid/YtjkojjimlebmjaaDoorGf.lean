/- The field with 256 elements as plain Lean: products, inverses, values of polynomials. -/
import Derived.Test.YtjkojjimlebmjaaDoorProg
import Derived.KernelRfl
namespace Go.Proofs.YtjkojjimlebmjaaDoor
set_option linter.unusedVariables false

/-- The product of two polynomials over two elements: the first k powers of b. -/
def pr (a b : Nat) : Nat → Nat
  | 0 => 0
  | k + 1 => if b.testBit k then pr a b k ^^^ (a <<< k) else pr a b k
/-- The remainders of the products with t^8, as the program lists them. -/
def rt : List Nat := [0, 27, 54, 45, 108, 119, 90, 65, 216, 195, 238, 245, 180, 175, 130, 153]
def rm (i : Nat) : Nat := rt.getD i 0
def red1 (p : Nat) : Nat := (p &&& 4095) ^^^ (rm (p >>> 12) <<< 4)
def red2 (p : Nat) : Nat := (p &&& 255) ^^^ rm (p >>> 8)
def red (p : Nat) : Nat := red2 (red1 p)
def mN (a b : Nat) : Nat := red (pr a b 8)

/-- All below a bound. -/
def allB (f : Nat → Bool) : Nat → Bool
  | 0 => true
  | n + 1 => f n && allB f n
theorem allB_at {f : Nat → Bool} : ∀ {n : Nat}, allB f n = true → ∀ i, i < n → f i = true
  | 0, _, i, h => absurd h (by omega)
  | n + 1, h, i, hi => by
    simp only [allB, Bool.and_eq_true] at h
    by_cases e : i = n
    · subst e; exact h.1
    · exact allB_at h.2 i (by omega)

theorem rm_xor (x y : Nat) (hx : x < 16) (hy : y < 16) : rm (x ^^^ y) = rm x ^^^ rm y := by
  have h : allB (fun i => allB (fun j => rm (i ^^^ j) == (rm i ^^^ rm j)) 16) 16 = true := by decide +kernel
  simpa using allB_at (allB_at h x hx) y hy
theorem rm_lt (x : Nat) : rm x < 256 := by
  unfold rm
  rw [List.getD_eq_getElem?_getD]
  by_cases h : x < 16
  · have h2 : allB (fun i => decide (rt[i]?.getD 0 < 256)) 16 = true := by decide +kernel
    simpa using allB_at h2 x h
  · rw [List.getElem?_eq_none (by simp [rt]; omega)]
    decide
theorem pr_lt (a b : Nat) (ha : a < 256) : ∀ k, k ≤ 8 → pr a b k < 2 ^ (8 + k - 1)
  | 0, _ => by simp [pr]
  | k + 1, hk => by
    have ih := pr_lt a b ha k (by omega)
    have h1 : a <<< k < 2 ^ (8 + k) := by
      rw [Nat.shiftLeft_eq, Nat.pow_add]
      exact Nat.mul_lt_mul_of_pos_right (by simpa using ha) (Nat.two_pow_pos k)
    have h2 : pr a b k < 2 ^ (8 + k) := Nat.lt_of_lt_of_le ih (Nat.pow_le_pow_right (by omega) (by omega))
    unfold pr
    rw [show 8 + (k + 1) - 1 = 8 + k by omega]
    split
    · exact Nat.xor_lt_two_pow h2 h1
    · exact h2
theorem pr8_lt (a b : Nat) (ha : a < 256) : pr a b 8 < 32768 := pr_lt a b ha 8 (by omega)
theorem red1_lt (p : Nat) : red1 p < 4096 := by
  unfold red1
  have h1 : p &&& 4095 < 2 ^ 12 := Nat.lt_of_le_of_lt Nat.and_le_right (by decide)
  have h2 : rm (p >>> 12) <<< 4 < 2 ^ 12 := by
    have := rm_lt (p >>> 12)
    rw [Nat.shiftLeft_eq]
    omega
  exact Nat.xor_lt_two_pow h1 h2
theorem red2_lt (p : Nat) : red2 p < 256 := by
  unfold red2
  have h1 : p &&& 255 < 2 ^ 8 := Nat.lt_of_le_of_lt Nat.and_le_right (by decide)
  exact Nat.xor_lt_two_pow h1 (rm_lt _)
theorem mN_lt (a b : Nat) : mN a b < 256 := red2_lt _

theorem xor4 (a b c d : Nat) : (a ^^^ b) ^^^ (c ^^^ d) = (a ^^^ c) ^^^ (b ^^^ d) := by
  rw [Nat.xor_assoc, Nat.xor_assoc, ← Nat.xor_assoc b c d, Nat.xor_comm b c, Nat.xor_assoc c b d]
theorem red1_xor (p q : Nat) (hp : p < 32768) (hq : q < 32768) : red1 (p ^^^ q) = red1 p ^^^ red1 q := by
  unfold red1
  rw [Nat.and_xor_distrib_right, Nat.shiftRight_xor_distrib, rm_xor _ _ (by rw [Nat.shiftRight_eq_div_pow]; omega) (by rw [Nat.shiftRight_eq_div_pow]; omega), Nat.shiftLeft_xor_distrib, xor4]
theorem red2_xor (p q : Nat) (hp : p < 4096) (hq : q < 4096) : red2 (p ^^^ q) = red2 p ^^^ red2 q := by
  unfold red2
  rw [Nat.and_xor_distrib_right, Nat.shiftRight_xor_distrib, rm_xor _ _ (by rw [Nat.shiftRight_eq_div_pow]; omega) (by rw [Nat.shiftRight_eq_div_pow]; omega), xor4]
theorem red_xor (p q : Nat) (hp : p < 32768) (hq : q < 32768) : red (p ^^^ q) = red p ^^^ red q := by
  unfold red
  rw [red1_xor p q hp hq, red2_xor _ _ (red1_lt p) (red1_lt q)]
theorem pr_xor_left (a c b : Nat) : ∀ k, pr (a ^^^ c) b k = pr a b k ^^^ pr c b k
  | 0 => by simp [pr]
  | k + 1 => by
    unfold pr
    rw [pr_xor_left a c b k]
    split
    · rw [Nat.shiftLeft_xor_distrib, xor4]
    · rfl
theorem pr_xor_right (a b c : Nat) : ∀ k, pr a (b ^^^ c) k = pr a b k ^^^ pr a c k
  | 0 => by simp [pr]
  | k + 1 => by
    unfold pr
    rw [pr_xor_right a b c k, Nat.testBit_xor]
    generalize a <<< k = z
    generalize pr a b k = x
    generalize pr a c k = y
    cases b.testBit k <;> cases c.testBit k
    · rfl
    · exact Nat.xor_assoc x y z
    · show (x ^^^ y) ^^^ z = (x ^^^ z) ^^^ y
      rw [Nat.xor_assoc, Nat.xor_comm y z, Nat.xor_assoc]
    · show x ^^^ y = (x ^^^ z) ^^^ (y ^^^ z)
      rw [xor4, Nat.xor_self, Nat.xor_zero]
theorem mN_left (a c b : Nat) (ha : a < 256) (hc : c < 256) : mN (a ^^^ c) b = mN a b ^^^ mN c b := by
  unfold mN
  rw [pr_xor_left, red_xor _ _ (pr8_lt a b ha) (pr8_lt c b hc)]
theorem mN_right (a b c : Nat) (ha : a < 256) : mN a (b ^^^ c) = mN a b ^^^ mN a c := by
  unfold mN
  rw [pr_xor_right, red_xor _ _ (pr8_lt a b ha) (pr8_lt a c ha)]

/-- Two functions that keep sums and agree at the single bits agree at every byte. -/
theorem lin_ext (f g : Nat → Nat) (hf : ∀ x y, x < 256 → y < 256 → f (x ^^^ y) = f x ^^^ f y) (hg : ∀ x y, x < 256 → y < 256 → g (x ^^^ y) = g x ^^^ g y)
    (h : ∀ i, i < 8 → f (2 ^ i) = g (2 ^ i)) (x : Nat) (hx : x < 256) : f x = g x := by
  have h0 : f 0 = g 0 := by
    have e1 := hf 0 0 (by omega) (by omega)
    have e2 := hg 0 0 (by omega) (by omega)
    rw [Nat.xor_self] at e1 e2
    rw [Nat.xor_self] at e1 e2
    rw [e1, e2]
  have hk : allB (fun x => allB (fun i => x &&& 2 ^ i == 0 || x &&& 2 ^ i == 2 ^ i) 8) 256 = true := by decide +kernel
  have hb : ∀ i, i < 8 → f (x &&& 2 ^ i) = g (x &&& 2 ^ i) := by
    intro i hi
    have := allB_at (allB_at hk x hx) i hi
    simp only [Bool.or_eq_true, beq_iff_eq] at this
    rcases this with e | e
    · rw [e]; exact h0
    · rw [e]; exact h i hi
  have hd : allB (fun x => x == ((x &&& 2 ^ 0) ^^^ ((x &&& 2 ^ 1) ^^^ ((x &&& 2 ^ 2) ^^^ ((x &&& 2 ^ 3) ^^^ ((x &&& 2 ^ 4) ^^^ ((x &&& 2 ^ 5) ^^^ ((x &&& 2 ^ 6) ^^^ (x &&& 2 ^ 7))))))))) 256 = true := by decide +kernel
  have hx2 := allB_at hd x hx
  simp only [beq_iff_eq] at hx2
  have hl : ∀ i, i < 8 → x &&& 2 ^ i < 256 := fun i hi => Nat.lt_of_le_of_lt Nat.and_le_left hx
  have hlx : ∀ {a b : Nat}, a < 256 → b < 256 → a ^^^ b < 256 := fun {a b} ha hb => Nat.xor_lt_two_pow (n := 8) ha hb
  have l7 := hl 7 (by omega)
  have l6 := hlx (hl 6 (by omega)) l7
  have l5 := hlx (hl 5 (by omega)) l6
  have l4 := hlx (hl 4 (by omega)) l5
  have l3 := hlx (hl 3 (by omega)) l4
  have l2 := hlx (hl 2 (by omega)) l3
  have l1 := hlx (hl 1 (by omega)) l2
  rw [hx2, hf _ _ (hl 0 (by omega)) l1, hf _ _ (hl 1 (by omega)) l2, hf _ _ (hl 2 (by omega)) l3, hf _ _ (hl 3 (by omega)) l4, hf _ _ (hl 4 (by omega)) l5, hf _ _ (hl 5 (by omega)) l6, hf _ _ (hl 6 (by omega)) l7,
    hg _ _ (hl 0 (by omega)) l1, hg _ _ (hl 1 (by omega)) l2, hg _ _ (hl 2 (by omega)) l3, hg _ _ (hl 3 (by omega)) l4, hg _ _ (hl 4 (by omega)) l5, hg _ _ (hl 5 (by omega)) l6, hg _ _ (hl 6 (by omega)) l7,
    hb 0 (by omega), hb 1 (by omega), hb 2 (by omega), hb 3 (by omega), hb 4 (by omega), hb 5 (by omega), hb 6 (by omega), hb 7 (by omega)]
theorem pow_lt (i : Nat) (h : i < 8) : 2 ^ i < 256 := Nat.pow_lt_pow_right (by omega) h
theorem mN_comm (a b : Nat) (ha : a < 256) (hb : b < 256) : mN a b = mN b a := by
  have hd : allB (fun i => allB (fun j => mN (2 ^ i) (2 ^ j) == mN (2 ^ j) (2 ^ i)) 8) 8 = true := by decide +kernel
  refine lin_ext (fun x => mN x b) (fun x => mN b x) (fun x y hx hy => mN_left x y b hx hy) (fun x y _ _ => mN_right b x y hb) (fun i hi => ?_) a ha
  refine lin_ext (fun y => mN (2 ^ i) y) (fun y => mN y (2 ^ i)) (fun x y _ _ => mN_right _ x y (pow_lt i hi)) (fun x y hx hy => mN_left x y _ hx hy) (fun j hj => ?_) b hb
  simpa using allB_at (allB_at hd i hi) j hj
theorem mN_assoc (a b c : Nat) (ha : a < 256) (hb : b < 256) (hc : c < 256) : mN a (mN b c) = mN (mN a b) c := by
  have hd : allB (fun i => allB (fun j => allB (fun k => mN (2 ^ i) (mN (2 ^ j) (2 ^ k)) == mN (mN (2 ^ i) (2 ^ j)) (2 ^ k)) 8) 8) 8 = true := by decide +kernel
  refine lin_ext (fun x => mN x (mN b c)) (fun x => mN (mN x b) c) (fun x y hx hy => mN_left x y _ hx hy) (fun x y hx hy => by show mN (mN (x ^^^ y) b) c = _; rw [mN_left x y b hx hy, mN_left _ _ _ (mN_lt _ _) (mN_lt _ _)]) (fun i hi => ?_) a ha
  refine lin_ext (fun y => mN (2 ^ i) (mN y c)) (fun y => mN (mN (2 ^ i) y) c) (fun x y hx hy => by show mN _ (mN (x ^^^ y) c) = _; rw [mN_left x y c hx hy, mN_right _ _ _ (pow_lt i hi)])
    (fun x y hx hy => by show mN (mN _ (x ^^^ y)) c = _; rw [mN_right _ x y (pow_lt i hi), mN_left _ _ _ (mN_lt _ _) (mN_lt _ _)]) (fun j hj => ?_) b hb
  refine lin_ext (fun z => mN (2 ^ i) (mN (2 ^ j) z)) (fun z => mN (mN (2 ^ i) (2 ^ j)) z) (fun x y hx hy => by show mN _ (mN _ (x ^^^ y)) = _; rw [mN_right _ x y (pow_lt j hj), mN_right _ _ _ (pow_lt i hi)])
    (fun x y hx hy => mN_right _ x y (mN_lt _ _)) (fun k hk => ?_) c hc
  simpa using allB_at (allB_at (allB_at hd i hi) j hj) k hk

/-- The product of two bytes. -/
def gm (a b : UInt8) : UInt8 := UInt8.ofNat (mN a.toNat b.toNat)
theorem gm_nat (a b : UInt8) : (gm a b).toNat = mN a.toNat b.toNat := by
  unfold gm
  rw [UInt8.toNat_ofNat_of_lt' (by simpa [UInt8.size] using mN_lt _ _)]
theorem u8_lt (a : UInt8) : a.toNat < 256 := a.toNat_lt
theorem gm_comm (a b : UInt8) : gm a b = gm b a := by
  unfold gm
  rw [mN_comm _ _ (u8_lt a) (u8_lt b)]
theorem gm_assoc (a b c : UInt8) : gm a (gm b c) = gm (gm a b) c := by
  apply UInt8.toNat_inj.1
  rw [gm_nat, gm_nat, gm_nat, gm_nat, mN_assoc _ _ _ (u8_lt a) (u8_lt b) (u8_lt c)]
theorem gm_right (a b c : UInt8) : gm a (b ^^^ c) = gm a b ^^^ gm a c := by
  apply UInt8.toNat_inj.1
  rw [gm_nat, UInt8.toNat_xor, UInt8.toNat_xor, gm_nat, gm_nat, mN_right _ _ _ (u8_lt a)]
theorem gm_left (a b c : UInt8) : gm (a ^^^ b) c = gm a c ^^^ gm b c := by
  rw [gm_comm, gm_right, gm_comm c a, gm_comm c b]
theorem u8_all (f : UInt8 → Bool) (h : allB (fun i => f (UInt8.ofNat i)) 256 = true) (a : UInt8) : f a = true := by
  have := allB_at h a.toNat (u8_lt a)
  rwa [UInt8.ofNat_toNat] at this
theorem gm_zero (a : UInt8) : gm a 0 = 0 := by
  have := gm_right a 0 0
  rw [UInt8.xor_self] at this
  rw [this, UInt8.xor_self]
theorem zero_gm (a : UInt8) : gm 0 a = 0 := by rw [gm_comm, gm_zero]
theorem gm_one (a : UInt8) : gm a 1 = a := by
  have := u8_all (fun a => gm a 1 == a) (by decide +kernel) a
  simpa using this
theorem one_gm (a : UInt8) : gm 1 a = a := by rw [gm_comm, gm_one]

/-- The inverse, as the program finds it: k squarings. -/
def gi (a b : UInt8) : Nat → UInt8
  | 0 => b
  | k + 1 => gi (gm a a) (gm b (gm a a)) k
def ginv (a : UInt8) : UInt8 := gi a 1 7
theorem gm_inv (a : UInt8) (h : a ≠ 0) : gm a (ginv a) = 1 := by
  have := u8_all (fun a => a == 0 || gm a (ginv a) == 1) (by decide +kernel) a
  simpa [h] using this
theorem inv_ne (a : UInt8) (h : a ≠ 0) : ginv a ≠ 0 := by
  intro e
  have := gm_inv a h
  rw [e, gm_zero] at this
  exact absurd this (by decide)
theorem gm_eq_zero {a b : UInt8} : gm a b = 0 ↔ a = 0 ∨ b = 0 := by
  constructor
  · intro h
    by_cases ha : a = 0
    · exact .inl ha
    · right
      have h1 : gm (ginv a) (gm a b) = b := by rw [gm_assoc, gm_comm (ginv a) a, gm_inv a ha, one_gm]
      rw [← h1, h, gm_zero]
  · rintro (rfl | rfl)
    · exact zero_gm _
    · exact gm_zero _
theorem inv_unique {a b : UInt8} (h : gm a b = 1) : b = ginv a := by
  have ha : a ≠ 0 := by
    rintro rfl
    rw [zero_gm] at h
    exact absurd h (by decide)
  have h1 : gm (ginv a) (gm a b) = b := by rw [gm_assoc, gm_comm (ginv a) a, gm_inv a ha, one_gm]
  rw [← h1, h, gm_one]
theorem inv_inv (a : UInt8) (h : a ≠ 0) : ginv (ginv a) = a := (inv_unique (by rw [gm_comm]; exact gm_inv a h)).symm
theorem x_eq {a b : UInt8} : a ^^^ b = 0 ↔ a = b := UInt8.xor_eq_zero_iff
end Go.Proofs.YtjkojjimlebmjaaDoor
