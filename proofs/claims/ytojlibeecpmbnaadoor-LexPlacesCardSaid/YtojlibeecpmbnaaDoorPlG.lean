/- Plain facts of gaps between tokens. -/
import Derived.Test.YtojlibeecpmbnaaDoorSpel
namespace Go.Proofs.YtojlibeecpmbnaaDoor
set_option linter.unusedVariables false
set_option linter.unusedSimpArgs false

/-- The flag behind a gap that is entered with a flag. -/
def gp : Bool → List UInt8 → Option Bool
  | c, [] => some c
  | c, b :: r =>
    if (b.toNat != 10 && (c || (b.toNat == 47 && r.head? == some 47))) || isSp b then gp (b.toNat != 10 && (c || (b.toNat == 47 && r.head? == some 47))) r else none
theorem gp_lf (c : Bool) (G : List UInt8) : gp c (10 :: G) = gp false G := by
  conv => lhs; unfold gp
  rw [show ((10 : UInt8).toNat != 10) = false from rfl, Bool.false_and, show isSp 10 = true from by decide]
  rfl
theorem gp_true : ∀ (X G : List UInt8), X.all noLf = true → gp true (X ++ G) = gp true G
  | [], G, _ => rfl
  | b :: X, G, h => by
    rw [List.all_cons, Bool.and_eq_true] at h
    have hb : (b.toNat != 10) = true := h.1
    rw [List.cons_append]
    conv => lhs; unfold gp
    rw [hb]
    simp only [Bool.true_or, Bool.and_self, if_true]
    exact gp_true X G h.2
theorem gp_sp {b : UInt8} (h : isSp b = true) (G : List UInt8) : gp false (b :: G) = gp false G := by
  have h47 : (b.toNat == 47) = false := by
    have := u8_all (fun b => decide (isSp b = true → (b.toNat == 47) = false)) (by decide +kernel) b
    exact of_decide_eq_true this h
  conv => lhs; unfold gp
  rw [h47, h]
  simp
theorem gp_com {X G : List UInt8} (h : (47 :: 47 :: X).all noLf = true) : gp false (47 :: 47 :: X ++ G) = gp true G := by
  rw [List.all_cons, Bool.and_eq_true] at h
  rw [List.cons_append]
  conv => lhs; unfold gp
  rw [show ((47 : UInt8).toNat != 10) = true from rfl, show ((47 : UInt8).toNat == 47) = true from rfl, show (((47 :: X) ++ G).head? == some (47 : UInt8)) = true from by simp]
  simp only [Bool.true_or, Bool.or_true, Bool.and_self, Bool.false_or, if_true]
  exact gp_true _ G h.2
theorem gp_same {G : List UInt8} (h : ∀ b, G.head? = some b → b = 10) (hne : G ≠ []) : gp true G = gp false G := by
  cases G with
  | nil => exact absurd rfl hne
  | cons b r =>
    obtain rfl := h b rfl
    rw [gp_lf, gp_lf]
/-- A numeral is its own number's. -/
theorem dec_back : ∀ (k : Nat) (l : List UInt8) (n : Nat), l.length = k → 0 < k → l.all isD = true → (l.headD 0).toNat ≠ 48 → nv 0 l = some n → Lib.decDigits n = l ∧ n ≠ 0
  | 0, _, _, _, h, _, _, _ => absurd h (by omega)
  | k + 1, l, n, hk, _, ha, hh, hv => by
    have hne : l ≠ [] := fun e => by rw [e] at hk; simp at hk
    obtain ⟨a, b, rfl⟩ : ∃ a b, l = a ++ [b] := ⟨l.dropLast, l.getLast hne, (List.dropLast_concat_getLast hne).symm⟩
    rw [List.all_append, Bool.and_eq_true] at ha
    have hb : isD b = true := by simpa using ha.2
    have hbv := isD_val hb
    rw [nv_cut] at hv
    have hbe : UInt8.ofNat (48 + (b.toNat - 48)) = b := by
      rw [show 48 + (b.toNat - 48) = b.toNat by omega]
      exact UInt8.ofNat_toNat
    have hone : ∀ m, nv m [b] = some n → n = 10 * m + (b.toNat - 48) := by
      intro m h
      rw [nv_cons] at h
      split at h
      · cases h
      · exact (Option.some.inj h).symm
    cases a with
    | nil =>
      have hn := hone 0 (by simpa [nv] using hv)
      have h48 : b.toNat ≠ 48 := by simpa using hh
      refine ⟨?_, by omega⟩
      rw [dec_lt (by omega), show n = b.toNat - 48 by omega, hbe]
      rfl
    | cons c r =>
      cases hm : nv 0 (c :: r) with
      | none => rw [hm] at hv; cases hv
      | some m =>
        rw [hm] at hv
        have hn := hone m hv
        obtain ⟨h1, h2⟩ := dec_back k (c :: r) m (by simpa using hk) (by simp at hk; omega) ha.1 (by simpa using hh) hm
        refine ⟨?_, by omega⟩
        rw [dec_ge (by omega), show n / 10 = m by omega, h1, show n % 10 = b.toNat - 48 by omega, hbe]
theorem num_back {l : List UInt8} {n : Nat} (h0 : 0 < l.length) (ha : l.all isD = true) (h : num l = some n) : Lib.decDigits n = l := by
  unfold num at h
  split at h
  · cases h
  next hc =>
    by_cases h48 : (l.headD 0).toNat = 48
    · have h1 : l.length = 1 := by
        have : ¬ 1 < l.length := fun h1 => hc ⟨h1, h48⟩
        omega
      cases l with
      | nil => cases h1
      | cons b r =>
        obtain rfl : r = [] := List.eq_nil_of_length_eq_zero (by simpa using h1)
        have hb : b.toNat = 48 := by simpa using h48
        rw [nv_cons, hb] at h
        have hn : n = 0 := by simpa [nv] using h.symm
        subst hn
        rw [dec_lt (by omega)]
        congr 1
        rw [← UInt8.ofNat_toNat (x := b), hb]
    · exact (dec_back l.length l n rfl h0 ha h48 h).1
end Go.Proofs.YtojlibeecpmbnaaDoor
