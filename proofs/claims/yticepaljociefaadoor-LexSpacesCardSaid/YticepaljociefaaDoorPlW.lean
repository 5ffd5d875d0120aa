/- Plain: what stands before and behind the place of an error; sources one behind the other. -/
import Derived.Test.YticepaljociefaaDoorPlL
namespace Go.Proofs.YticepaljociefaaDoor
set_option linter.unusedVariables false

theorem tw_prefix (p : UInt8 → Bool) : ∀ (R : List UInt8) (n : Nat), (R.takeWhile p).length ≤ n → (R.take n).takeWhile p = R.takeWhile p
  | [], n, _ => by simp
  | c :: r, 0, h => by
    have : (c :: r).takeWhile p = [] := List.eq_nil_of_length_eq_zero (by omega)
    rw [this]
    rfl
  | c :: r, n + 1, h => by
    cases hc : p c with
    | false => simp [hc]
    | true =>
      rw [tw_cons hc] at h ⊢
      rw [List.take_succ_cons, tw_cons hc, tw_prefix p r n (by simpa using h)]
theorem tw_app (p : UInt8 → Bool) : ∀ (R X : List UInt8), (R.takeWhile p).length < R.length → (R ++ X).takeWhile p = R.takeWhile p
  | [], X, h => absurd h (by simp)
  | c :: r, X, h => by
    cases hc : p c with
    | false => simp [hc]
    | true =>
      rw [tw_cons hc] at h ⊢
      rw [List.cons_append, tw_cons hc, tw_app p r X (by simpa using h)]
theorem tw_stop (p : UInt8 → Bool) (x : UInt8) (hx : p x = false) (X : List UInt8) : ∀ R : List UInt8, (R ++ x :: X).takeWhile p = R.takeWhile p
  | [] => by simp [hx]
  | c :: r => by
    cases hc : p c with
    | false => simp [hc]
    | true => rw [List.cons_append, tw_cons hc, tw_cons hc, tw_stop p x hx X r]

theorem head_take {R : List UInt8} {n : Nat} (hn : 0 < n) : (R.take n).headD 0 = R.headD 0 := by
  cases R with
  | nil => simp
  | cons c r =>
    cases n with
    | zero => omega
    | succ n => rfl
theorem head_app {R X : List UInt8} (h : R ≠ []) : (R ++ X).headD 0 = R.headD 0 := by
  cases R with
  | nil => exact absurd rfl h
  | cons c r => rfl
theorem take_take' (R : List UInt8) {k n : Nat} (h : k ≤ n) : (R.take n).take k = R.take k := by rw [List.take_take, Nat.min_eq_left h]
theorem take_app' {R X : List UInt8} {k : Nat} (h : k ≤ R.length) : (R ++ X).take k = R.take k := List.take_append_of_le_length h
/-- How many bytes a step takes. -/
def stm : St → Nat
  | .bad => 0
  | .skip m => m
  | .tok _ _ _ m => m
theorem comment_two {R : List UInt8} (h : R.take 2 = [47, 47]) : 2 ≤ (R.takeWhile noLf).length := by
  match R, h with
  | a :: b :: r, h =>
    have h' : [a, b] = [47, 47] := h
    injection h' with h1 h2
    injection h2 with h2
    subst h1 h2
    rw [tw_cons rfl, tw_cons rfl]
    simp
/-- A step that ends before n is the same in the first n bytes. -/
theorem st_take {R : List UInt8} {n : Nat} (hb : st R ≠ .bad) (hn : stm (st R) ≤ n) (h0 : 0 < n) : st (R.take n) = st R := by
  unfold st at hb hn ⊢
  rw [head_take h0]
  rcases cl7 (R.headD 0) with e | e | e | e | e | e | e <;> rw [e] at hb hn ⊢
  · exact absurd rfl hb
  · rfl
  · rw [stc2] at hb hn
    rw [stc2, stc2]
    by_cases h : nm (R.takeWhile isP) = true
    · rw [if_pos h] at hn
      rw [tw_prefix isP R n hn]
    · rw [if_neg h] at hb; exact absurd rfl hb
  · rw [stc3] at hb hn
    rw [stc3, stc3]
    cases h : num (R.takeWhile isD) with
    | none => rw [h] at hb; exact absurd rfl hb
    | some x =>
      rw [h] at hn
      have hn' : (R.takeWhile isD).length ≤ n := hn
      rw [tw_prefix isD R n hn', h]
  · exact absurd rfl hb
  · show St.tok 3 ((R.take n).take 1) 0 1 = St.tok 3 (R.take 1) 0 1
    rw [take_take' R (by omega)]
  · rw [stc6] at hn
    rw [stc6, stc6]
    by_cases h : R.take 2 = [47, 47]
    · rw [if_pos h] at hn
      have hn' : (R.takeWhile noLf).length ≤ n := hn
      have h2 := comment_two h
      rw [take_take' R (show 2 ≤ n by omega), if_pos h, if_pos h, tw_prefix noLf R n hn']
    · rw [if_neg h, if_neg, take_take' R (by omega)]
      intro h3
      have hl := congrArg List.length h3
      rw [List.length_take, List.length_take] at hl
      simp at hl
      rw [take_take' R (by omega)] at h3
      exact h h3
/-- A step that ends before the end is the same whatever follows. -/
theorem st_app {R X : List UInt8} (hb : st R ≠ .bad) (hn : stm (st R) < R.length) : st (R ++ X) = st R := by
  have hR : R ≠ [] := fun e => by rw [e] at hn; simp at hn
  unfold st at hb hn ⊢
  rw [head_app hR]
  rcases cl7 (R.headD 0) with e | e | e | e | e | e | e <;> rw [e] at hb hn ⊢
  · exact absurd rfl hb
  · rfl
  · rw [stc2] at hb hn
    rw [stc2, stc2]
    by_cases h : nm (R.takeWhile isP) = true
    · rw [if_pos h] at hn
      rw [tw_app isP R X hn]
    · rw [if_neg h] at hb; exact absurd rfl hb
  · rw [stc3] at hb hn
    rw [stc3, stc3]
    cases h : num (R.takeWhile isD) with
    | none => rw [h] at hb; exact absurd rfl hb
    | some x =>
      rw [h] at hn
      have hn' : (R.takeWhile isD).length < R.length := hn
      rw [tw_app isD R X hn', h]
  · exact absurd rfl hb
  · have hn' : 1 < R.length := hn
    show St.tok 3 ((R ++ X).take 1) 0 1 = St.tok 3 (R.take 1) 0 1
    rw [take_app' (by omega)]
  · rw [stc6] at hn
    rw [stc6, stc6]
    by_cases h : R.take 2 = [47, 47]
    · rw [if_pos h] at hn
      have hn' : (R.takeWhile noLf).length < R.length := hn
      have h2 := comment_two h
      rw [take_app' (by omega), if_pos h, if_pos h, tw_app noLf R X hn']
    · rw [if_neg h] at hn
      have hn' : 1 < R.length := hn
      rw [take_app' (by omega), if_neg h, if_neg h, take_app' (by omega)]
/-- An error remains, whatever follows a space. -/
theorem st_bad_app {R X : List UInt8} {x : UInt8} (hR : R ≠ []) (hp : isP x = false) (hd : isD x = false) (hb : st R = .bad) : st (R ++ x :: X) = .bad := by
  unfold st at hb ⊢
  rw [head_app hR]
  rcases cl7 (R.headD 0) with e | e | e | e | e | e | e <;> rw [e] at hb ⊢
  · rfl
  · cases hb
  · rw [stc2] at hb
    rw [stc2, tw_stop isP x hp]
    exact hb
  · rw [stc3] at hb
    rw [stc3, tw_stop isD x hd]
    exact hb
  · rfl
  · cases hb
  · rw [stc6] at hb
    split at hb <;> cases hb
theorem st_end_app {R X : List UInt8} {x : UInt8} (hR : R ≠ []) (hp : isP x = false) (hd : isD x = false) (hl : noLf x = false) (hx : x ≠ 47) : st (R ++ x :: X) = st R := by
  unfold st
  rw [head_app hR]
  have h1 : (R ++ x :: X).take 1 = R.take 1 := take_app' (by cases R with | nil => exact absurd rfl hR | cons => simp)
  rcases cl7 (R.headD 0) with e | e | e | e | e | e | e <;> rw [e]
  · rfl
  · rfl
  · rw [stc2, stc2, tw_stop isP x hp]
  · rw [stc3, stc3, tw_stop isD x hd]
  · rfl
  · show St.tok 3 ((R ++ x :: X).take 1) 0 1 = St.tok 3 (R.take 1) 0 1
    rw [h1]
  · rw [stc6, stc6, tw_stop noLf x hl, h1]
    have h2 : ((R ++ x :: X).take 2 = [47, 47]) ↔ (R.take 2 = [47, 47]) := by
      match R with
      | [] => exact absurd rfl hR
      | [a] =>
        constructor
        · intro h
          have h' : [a, x] = [47, 47] := h
          injection h' with _ h'
          injection h' with h' _
          exact absurd h' hx
        · intro h
          cases h
      | a :: b :: r => exact Iff.rfl
    by_cases h : R.take 2 = [47, 47]
    · rw [if_pos h, if_pos (h2.2 h)]
    · rw [if_neg h, if_neg (fun h3 => h (h2.1 h3))]

theorem drop_ne {s : List UInt8} {i : Nat} (h : i < s.length) : s.drop i ≠ [] := fun e => by
  have := congrArg List.length e
  rw [List.length_drop] at this
  simp at this
  omega
/-- The place of an error. -/
structure ErrAt (s : List UInt8) (i j : Nat) : Prop where
  ge : i ≤ j
  lt : j < s.length
  bad : st (s.drop j) = .bad
  before : ∃ ts, lxr (s.take j) i = .ok ts
  behind : ∀ X, lxr (s ++ 32 :: X) i = .no j
theorem err_at : ∀ (n : Nat) (s : List UInt8) (i j : Nat), s.length - i ≤ n → lxr s i = .no j → ErrAt s i j
  | n, s, i, j, hn, h => by
    by_cases hi : i < s.length
    case neg => rw [lxr_end s i (by omega)] at h; cases h
    have hne := drop_ne hi
    have hap : ∀ X, (s ++ 32 :: X).drop i = s.drop i ++ 32 :: X := fun X => List.drop_append_of_le_length (by omega)
    have hil : ∀ X : List UInt8, i < (s ++ 32 :: X).length := fun X => by rw [List.length_append]; omega
    cases hs : st (s.drop i) with
    | bad =>
      rw [lxr_bad hi hs] at h
      injection h with h
      subst h
      refine ⟨Nat.le_refl _, hi, hs, ⟨[], lxr_end _ _ (by rw [List.length_take]; omega)⟩, fun X => ?_⟩
      exact lxr_bad (hil X) (by rw [hap X]; exact st_bad_app hne rfl rfl hs)
    | skip m =>
      have h1 := lxr_skip hi hs
      rw [h1.2.2] at h
      match n, hn with
      | 0, hn => omega
      | n + 1, hn =>
        have ih := err_at n s (i + m) j (by omega) h
        have hge := ih.ge
        have hlt := ih.lt
        refine ⟨by omega, ih.lt, ih.bad, ?_, fun X => ?_⟩
        · obtain ⟨ts, hts⟩ := ih.before
          have hst : st ((s.take j).drop i) = .skip m := by
            rw [List.drop_take]
            rw [st_take (by rw [hs]; intro e; cases e) (by rw [hs]; show m ≤ j - i; omega) (by omega)]
            exact hs
          exact ⟨ts, by rw [(lxr_skip (by rw [List.length_take]; omega) hst).2.2]; exact hts⟩
        · have hst : st ((s ++ 32 :: X).drop i) = .skip m := by
            rw [hap X, st_app (by rw [hs]; intro e; cases e) (by rw [hs, List.length_drop]; show m < _; omega)]
            exact hs
          rw [(lxr_skip (hil X) hst).2.2]
          exact ih.behind X
    | tok k t x m =>
      have h1 := lxr_tok hi hs
      rw [h1.2.2] at h
      have h' : lxr s (i + m) = .no j := by
        cases hr : lxr s (i + m) with
        | ok r => rw [hr] at h; cases h
        | no q => rw [hr] at h; exact h
      match n, hn with
      | 0, hn => omega
      | n + 1, hn =>
        have ih := err_at n s (i + m) j (by omega) h'
        have hge := ih.ge
        have hlt := ih.lt
        refine ⟨by omega, ih.lt, ih.bad, ?_, fun X => ?_⟩
        · obtain ⟨ts, hts⟩ := ih.before
          have hst : st ((s.take j).drop i) = .tok k t x m := by
            rw [List.drop_take]
            rw [st_take (by rw [hs]; intro e; cases e) (by rw [hs]; show m ≤ j - i; omega) (by omega)]
            exact hs
          exact ⟨_, by rw [(lxr_tok (by rw [List.length_take]; omega) hst).2.2, hts]; rfl⟩
        · have hst : st ((s ++ 32 :: X).drop i) = .tok k t x m := by
            rw [hap X, st_app (by rw [hs]; intro e; cases e) (by rw [hs, List.length_drop]; show m < _; omega)]
            exact hs
          rw [(lxr_tok (hil X) hst).2.2, ih.behind X]
          rfl
theorem lxo_of {s : List UInt8} (h : s.length ≤ 65536) : lxo s = match lex s with | .ok ts => (ts, 0, 0) | .no j => ([], j, 100) := if_neg (by omega)
/-- What LexWrong asks. -/
theorem wrong_all {s X : List UInt8} {j : Nat} (hl : s.length + X.length ≤ 3000) (h : lex s = .no j) :
    j < s.length ∧ (∃ ts, lxo (s.take j) = (ts, 0, 0)) ∧ lxo (s ++ [32] ++ X) = ([], j, 100) ∧ lxo (s.drop j) = ([], 0, 100) := by
  have he := err_at _ s 0 j (Nat.le_refl _) h
  have hlt := he.lt
  refine ⟨hlt, ?_, ?_, ?_⟩
  · obtain ⟨ts, hts⟩ := he.before
    rw [lxr_zero] at hts
    exact ⟨ts, by rw [lxo_of (by rw [List.length_take]; omega), hts]⟩
  · have hb := he.behind X
    rw [lxr_zero] at hb
    rw [lxo_of (by simp; omega), show s ++ [32] ++ X = s ++ 32 :: X by simp, hb]
  · have hb : lxr (s.drop j) 0 = .no 0 := lxr_bad (by rw [List.length_drop]; omega) (by rw [List.drop_zero]; exact he.bad)
    rw [lxr_zero] at hb
    rw [lxo_of (by rw [List.length_drop]; omega), hb]
end Go.Proofs.YticepaljociefaaDoor
