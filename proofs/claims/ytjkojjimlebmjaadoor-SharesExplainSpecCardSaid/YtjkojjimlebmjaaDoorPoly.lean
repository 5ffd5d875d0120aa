/- Polynomials as lists of bytes: values, zeros, the polynomial through points. -/
import Derived.Test.YtjkojjimlebmjaaDoorGf
namespace Go.Proofs.YtjkojjimlebmjaaDoor
set_option linter.unusedVariables false

theorem x4 (a b c d : UInt8) : (a ^^^ b) ^^^ (c ^^^ d) = (a ^^^ c) ^^^ (b ^^^ d) := by
  rw [UInt8.xor_assoc, UInt8.xor_assoc, ← UInt8.xor_assoc b c d, UInt8.xor_comm b c, UInt8.xor_assoc c b d]
theorem xx (a b : UInt8) : a ^^^ (a ^^^ b) = b := by rw [← UInt8.xor_assoc, UInt8.xor_self, UInt8.zero_xor]

/-- The value of a polynomial (Horner's way). -/
def hv : List UInt8 → UInt8 → UInt8
  | [], _ => 0
  | c :: l, x => c ^^^ gm x (hv l x)
/-- The powers. -/
def pw (x : UInt8) : Nat → UInt8
  | 0 => 1
  | k + 1 => gm (pw x k) x
/-- The value as a sum, from a power on. -/
def es (l : List UInt8) (x p y : UInt8) : UInt8 := match l with
  | [] => y
  | c :: l => es l x (gm p x) (y ^^^ gm c p)
theorem es_hv : ∀ (l : List UInt8) (x p y : UInt8), es l x p y = y ^^^ gm p (hv l x)
  | [], x, p, y => by simp [es, hv, gm_zero]
  | c :: l, x, p, y => by
    simp only [es, hv]
    rw [es_hv l, gm_right, gm_comm c p, UInt8.xor_assoc, gm_assoc]
/-- The first k summands of the value. -/
def ek (l : List UInt8) (x : UInt8) : Nat → UInt8
  | 0 => 0
  | k + 1 => ek l x k ^^^ gm (l.getD k 0) (pw x k)
theorem es_ek (x : UInt8) : ∀ (r l : List UInt8) (k : Nat), l.drop k = r → k ≤ l.length → es r x (pw x k) (ek l x k) = ek l x l.length
  | [], l, k, h, hk => by
    have : l.length ≤ k := by simpa using h
    obtain rfl : k = l.length := by omega
    rfl
  | c :: r, l, k, h, hk => by
    have hlt : k < l.length := by
      have := congrArg List.length h
      simp at this
      omega
    have e := List.drop_eq_getElem_cons hlt
    rw [e] at h
    injection h with h1 h2
    have := es_ek x r l (k + 1) h2 hlt
    simp only [ek, pw] at this
    rw [List.getD_eq_getElem?_getD, List.getElem?_eq_getElem hlt, Option.getD_some, h1] at this
    exact this
theorem ek_hv (l : List UInt8) (x : UInt8) : ek l x l.length = hv l x := by
  rw [← es_ek x l l 0 rfl (Nat.zero_le _), es_hv]
  simp [ek, pw, one_gm]

theorem hv_snoc : ∀ (l : List UInt8) (x : UInt8), hv (l ++ [0]) x = hv l x
  | [], x => by simp [hv, gm_zero]
  | c :: l, x => by simp only [List.cons_append, hv]; rw [hv_snoc l]

/-- The quotient by a factor that is 0 at x0: of the polynomial c :: p. -/
def qt (x0 : UInt8) : List UInt8 → List UInt8
  | [] => []
  | c :: p => hv (c :: p) x0 :: qt x0 p
theorem qt_length (x0 : UInt8) : ∀ p, (qt x0 p).length = p.length
  | [] => rfl
  | c :: p => by simp [qt, qt_length x0 p]
theorem qt_hv (x x0 : UInt8) : ∀ (p : List UInt8) (c : UInt8), hv (c :: p) x = hv (c :: p) x0 ^^^ gm (x ^^^ x0) (hv (qt x0 p) x)
  | [], c => by simp [hv, qt, gm_zero]
  | d :: p, c => by
    have ih := qt_hv x x0 p d
    show c ^^^ gm x (hv (d :: p) x) = (c ^^^ gm x0 (hv (d :: p) x0)) ^^^ gm (x ^^^ x0) (hv (d :: p) x0 ^^^ gm x (hv (qt x0 p) x))
    rw [ih]
    generalize hv (d :: p) x0 = P
    generalize hv (qt x0 p) x = Q
    rw [gm_right x, gm_right (x ^^^ x0), gm_left x x0 P, gm_assoc x (x ^^^ x0) Q, gm_assoc (x ^^^ x0) x Q, gm_comm x (x ^^^ x0)]
    generalize gm (gm (x ^^^ x0) x) Q = T
    generalize gm x P = A
    generalize gm x0 P = B
    rw [UInt8.xor_assoc c B, UInt8.xor_comm A B, UInt8.xor_assoc B A T, xx]
/-- All coefficients are 0. -/
def az (l : List UInt8) : Prop := ∀ c ∈ l, c = 0
theorem az_hv : ∀ (l : List UInt8) (x : UInt8), az l → hv l x = 0
  | [], x, _ => rfl
  | c :: l, x, h => by
    simp only [hv]
    rw [h c (by simp), az_hv l x (fun d hd => h d (by simp [hd])), gm_zero, UInt8.xor_self]
theorem qt_az (x0 : UInt8) : ∀ (p : List UInt8) (c : UInt8), az (qt x0 p) → hv (c :: p) x0 = 0 → az (c :: p)
  | [], c, _, h => by
    have hc : c = 0 := by simpa [hv, gm_zero] using h
    intro d hd
    simp at hd
    rw [hd, hc]
  | d :: p, c, hq, h => by
    have h1 : hv (d :: p) x0 = 0 := hq _ (by simp [qt])
    have h2 := qt_az x0 p d (fun y hy => hq y (by simp [qt, hy])) h1
    have hc : c = 0 := by
      have : c ^^^ gm x0 (hv (d :: p) x0) = 0 := h
      rw [h1, gm_zero, UInt8.xor_zero] at this
      exact this
    intro y hy
    rcases List.mem_cons.1 hy with rfl | hy
    · exact hc
    · exact h2 y hy
/-- A polynomial with as many zeros as coefficients is 0. -/
theorem zeros : ∀ (xs p : List UInt8), p.length ≤ xs.length → xs.Nodup → (∀ x ∈ xs, hv p x = 0) → az p
  | _, [], _, _, _ => fun c hc => by cases hc
  | [], c :: p, h, _, _ => by simp at h
  | x0 :: xs, c :: p, h, hn, hz => by
    have h0 := hz x0 (by simp)
    refine qt_az x0 p c (zeros xs (qt x0 p) (by rw [qt_length]; simpa using h) (List.nodup_cons.1 hn).2 ?_) h0
    intro x hx
    have := qt_hv x x0 p c
    rw [hz x (by simp [hx]), h0, UInt8.zero_xor] at this
    rcases gm_eq_zero.1 this.symm with e | e
    · exact absurd (x_eq.1 e) (fun e => (List.nodup_cons.1 hn).1 (e ▸ hx))
    · exact e

/-- A polynomial and a multiple of another one. -/
def am : List UInt8 → List UInt8 → UInt8 → List UInt8
  | [], _, _ => []
  | a :: l, [], _ => a :: l
  | a :: l, c :: v, f => (a ^^^ gm c f) :: am l v f
theorem am_length : ∀ (l v : List UInt8) (f : UInt8), (am l v f).length = l.length
  | [], _, _ => rfl
  | a :: l, [], _ => rfl
  | a :: l, c :: v, f => by simp [am, am_length l v f]
theorem am_hv (x f : UInt8) : ∀ (l v : List UInt8), v.length ≤ l.length → hv (am l v f) x = hv l x ^^^ gm f (hv v x)
  | [], [], _ => by simp [am, hv, gm_zero]
  | [], c :: v, h => by simp at h
  | a :: l, [], _ => by simp [am, hv, gm_zero]
  | a :: l, c :: v, h => by
    simp only [am, hv]
    rw [am_hv x f l v (by simpa using h), gm_right x, gm_right f, x4, gm_comm c f, gm_assoc, gm_assoc, gm_comm x f]
theorem am_get (f : UInt8) : ∀ (l v : List UInt8) (i : Nat), i < l.length → (am l v f).getD i 0 = l.getD i 0 ^^^ gm (v.getD i 0) f
  | [], _, i, h => by simp at h
  | a :: l, [], i, h => by simp [am, zero_gm]
  | a :: l, c :: v, 0, h => by simp [am]
  | a :: l, c :: v, i + 1, h => by
    have := am_get f l v i (by simpa using h)
    simpa [am] using this
/-- A polynomial with at most as many coefficients as there are places is that with its values. -/
theorem unique {xs l m : List UInt8} (hl : l.length = xs.length) (hm : m.length ≤ xs.length) (hn : xs.Nodup) (h : ∀ x ∈ xs, hv l x = hv m x) : ∀ i, i < l.length → l.getD i 0 = m.getD i 0 := by
  intro i hi
  have hz := zeros xs (am l m 1) (by rw [am_length]; omega) hn (fun x hx => by rw [am_hv x 1 l m (by omega), one_gm, h x hx, UInt8.xor_self])
  have h1 := am_get 1 l m i hi
  rw [gm_one] at h1
  have h2 : (am l m 1).getD i 0 = 0 := by
    rw [List.getD_eq_getElem?_getD, List.getElem?_eq_getElem (by rw [am_length]; exact hi)]
    exact hz _ (List.getElem_mem _)
  rw [h2] at h1
  exact x_eq.1 h1.symm

/-- One factor more, which is 0 at x. -/
def tf (v : List UInt8) (x : UInt8) : List UInt8 := am (0 :: v) v x
theorem tf_length (v : List UInt8) (x : UInt8) : (tf v x).length = v.length + 1 := by simp [tf, am_length]
theorem tf_hv (v : List UInt8) (x0 x : UInt8) : hv (tf v x0) x = gm (x ^^^ x0) (hv v x) := by
  unfold tf
  rw [am_hv x x0 _ _ (by simp), gm_left]
  simp [hv]
/-- The step of the polynomial through points: one point more. -/
def nl (l v : List UInt8) (x y : UInt8) : List UInt8 := am (l ++ [0]) v (gm (y ^^^ hv (l ++ [0]) x) (ginv (hv v x)))
/-- The polynomial that vanishes at the first k places. -/
def vk (xs : List UInt8) : Nat → List UInt8
  | 0 => [1]
  | k + 1 => tf (vk xs k) (xs.getD k 0)
/-- The polynomial through the first k points. -/
def lk (xs ys : List UInt8) : Nat → List UInt8
  | 0 => []
  | k + 1 => nl (lk xs ys k) (vk xs k) (xs.getD k 0) (ys.getD k 0)
theorem vk_length (xs : List UInt8) : ∀ k, (vk xs k).length = k + 1
  | 0 => rfl
  | k + 1 => by simp only [vk]; rw [tf_length, vk_length xs k]
theorem lk_length (xs ys : List UInt8) : ∀ k, (lk xs ys k).length = k
  | 0 => rfl
  | k + 1 => by simp only [lk, nl]; rw [am_length]; simp [lk_length xs ys k]
theorem vk_zero (xs : List UInt8) : ∀ k i, i < k → hv (vk xs k) (xs.getD i 0) = 0
  | 0, i, h => by omega
  | k + 1, i, h => by
    simp only [vk]
    rw [tf_hv]
    by_cases e : i = k
    · subst e; rw [UInt8.xor_self, zero_gm]
    · rw [vk_zero xs k i (by omega), gm_zero]
theorem vk_ne (xs : List UInt8) (x : UInt8) : ∀ k, (∀ i, i < k → x ≠ xs.getD i 0) → hv (vk xs k) x ≠ 0
  | 0, _ => by simp [vk, hv, gm_zero]
  | k + 1, h => by
    simp only [vk]
    rw [tf_hv]
    intro e
    rcases gm_eq_zero.1 e with e | e
    · exact h k (by omega) (x_eq.1 e)
    · exact vk_ne xs x k (fun i hi => h i (by omega)) e
theorem getD_ne {xs : List UInt8} (hn : xs.Nodup) {i k : Nat} (hi : i < k) (hk : k < xs.length) : xs.getD k 0 ≠ xs.getD i 0 := by
  rw [List.getD_eq_getElem?_getD, List.getD_eq_getElem?_getD, List.getElem?_eq_getElem hk, List.getElem?_eq_getElem (by omega)]
  intro e
  have := (List.getElem_inj hn).1 (show xs[k] = xs[i] from e)
  omega
theorem lk_hv (xs ys : List UInt8) (hn : xs.Nodup) : ∀ k, k ≤ xs.length → ∀ i, i < k → hv (lk xs ys k) (xs.getD i 0) = ys.getD i 0
  | 0, _, i, h => by omega
  | k + 1, hk, i, h => by
    simp only [lk, nl]
    rw [am_hv _ _ _ _ (by simp [vk_length, lk_length]), hv_snoc, hv_snoc]
    by_cases e : i = k
    · subst e
      have hne := vk_ne xs (xs.getD i 0) i (fun j hj => getD_ne hn hj (by omega))
      generalize hv (vk xs i) (xs.getD i 0) = V at *
      rw [← gm_assoc, gm_comm (ginv V) V, gm_inv V hne, gm_one, UInt8.xor_comm (ys.getD i 0), xx]
    · rw [vk_zero xs k i (by omega), gm_zero, UInt8.xor_zero]
      exact lk_hv xs ys hn k (by omega) i (by omega)
end Go.Proofs.YtjkojjimlebmjaaDoor
