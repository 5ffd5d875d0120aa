/- Plain: names are single tokens. -/
import Derived.Test.YticepaljociefaaDoorSane
namespace Go.Proofs.YticepaljociefaaDoor
set_option linter.unusedVariables false

theorem places_ge : ∀ (f : Nat) (l : List UInt8) (i : Nat) (ts : List Tk), lx f l i = .ok ts → ∀ t ∈ ts, (i : Int) ≤ t.p
  | 0, l, i, ts, h, t, ht => by
    unfold lx at h
    cases h
    cases ht
  | f + 1, l, i, ts, h, t, ht => by
    unfold lx at h
    split at h
    · cases h; cases ht
    · cases hs : st l with
      | bad => rw [hs] at h; cases h
      | skip m =>
        rw [hs] at h
        have := places_ge f _ _ ts h t ht
        omega
      | tok k t' n m =>
        rw [hs] at h
        have h : (lx f (l.drop m) (i + m)).pre [⟨k, t', n, i⟩] = .ok ts := h
        cases hr : lx f (l.drop m) (i + m) with
        | no j => rw [hr] at h; cases h
        | ok r =>
          rw [hr] at h
          unfold Rs.pre at h
          cases h
          rcases List.mem_append.1 ht with h1 | h1
          · rw [List.mem_singleton.1 h1]
            exact Int.le_refl _
          · have := places_ge f _ _ r hr t h1
            omega
theorem nm_all {s : List UInt8} (h : nm s = true) : s.takeWhile isP = s := by
  unfold nm at h
  simp only [Bool.and_eq_true] at h
  have := tw_all isP s
  rw [h.2] at this
  simpa using this
theorem nm_head {s : List UInt8} (h : nm s = true) : cl (s.headD 0) = 2 := by
  unfold nm at h
  simp only [Bool.and_eq_true] at h
  have := h.1.2
  rw [← cl_L] at this
  exact of_decide_eq_true this
theorem names_lex {s : List UInt8} (h : nm s = true) : lex s = .ok [⟨1, s, 0, 0⟩] := by
  have hp := nm_pos h
  have hst : st (s.drop 0) = .tok 1 s 0 s.length := by
    rw [List.drop_zero]
    unfold st
    rw [nm_head h, stc2, nm_all h, if_pos h]
  have := lxr_tok hp hst
  rw [← lxr_zero, this.2.2, lxr_end s (0 + s.length) (by omega)]
  rfl
theorem tok_name {s t : List UInt8} {k n : Int} {m : Nat} (h : st s = .tok k t n m) (hk : k = 1) (ht : t = s) : nm s = true := by
  unfold st at h
  rcases cl7 (s.headD 0) with e | e | e | e | e | e | e <;> rw [e] at h
  · cases h
  · cases h
  · rw [stc2] at h
    split at h
    next hn => cases h; rw [← ht]; exact hn
    · cases h
  · rw [stc3] at h
    split at h
    · cases h; cases hk
    · cases h
  · cases h
  · cases h; cases hk
  · rw [stc6] at h
    split at h
    · cases h
    · cases h; cases hk
theorem lex_name {s : List UInt8} {t : Tk} (h : lex s = .ok [t]) (hk : t.k = 1) (ht : t.t = s) (hp : t.p = 0) : nm s = true := by
  by_cases hs : 0 < s.length
  case neg =>
    have : s = [] := List.eq_nil_of_length_eq_zero (by omega)
    subst this
    unfold lex lx at h
    cases h
  rw [← lxr_zero] at h
  cases hst : st (s.drop 0) with
  | bad => rw [lxr_bad hs hst] at h; cases h
  | skip m =>
    have h1 := lxr_skip hs hst
    rw [h1.2.2] at h
    have := places_ge _ _ _ _ h t (by simp)
    omega
  | tok k t' n m =>
    have h1 := lxr_tok hs hst
    rw [h1.2.2] at h
    cases hr : lxr s (0 + m) with
    | no j => rw [hr] at h; cases h
    | ok r =>
      rw [hr] at h
      unfold Rs.pre at h
      injection h with h
      injection h with h2 h3
      subst h2
      rw [List.drop_zero] at hst
      exact tok_name hst hk ht
/-- A string is a name exactly if it is one token. -/
theorem one_name {s : List UInt8} (hl : s.length ≤ 65536) : nm s = true ↔ ∃ t : Tk, lxo s = ([t], 0, 0) ∧ t.k = 1 ∧ t.t = s ∧ t.p = 0 ∧ t.n = 0 := by
  have hlo : lxo s = match lex s with | .ok ts => (ts, 0, 0) | .no j => ([], j, 100) := if_neg (by omega)
  constructor
  · intro h
    exact ⟨⟨1, s, 0, 0⟩, by rw [hlo, names_lex h], rfl, rfl, rfl, rfl⟩
  · rintro ⟨t, h, hk, ht, hp, _⟩
    rw [hlo] at h
    cases hx : lex s with
    | no j => rw [hx] at h; cases h
    | ok ts =>
      rw [hx] at h
      injection h with h
      subst h
      exact lex_name hx hk ht hp
theorem txo_name (s : List UInt8) : txo [⟨1, s, 0, 0⟩] = if nm s = true then (s, 0) else ([], 100) := by
  unfold txo
  have : ([⟨1, s, 0, 0⟩] : List Tk).all vtk = nm s := by simp [vtk]
  rw [this]
  have hj : Lib.join (List.map txk [⟨1, s, 0, 0⟩]) [32] = s := by simp [txk, Lib.join_one]
  rw [hj]
end Go.Proofs.YticepaljociefaaDoor
