/- The reference's Lex: plain facts. -/
import Derived.Test.YtojlibeecpmbnaaDoorRf3
import Derived.Test.YtojlibeecpmbnaaDoorLawJoined
namespace Go.Proofs.YtojlibeecpmbnaaDoor
open Go.RowKit Go.Shelf
set_option linter.unusedVariables false
set_option linter.unusedSimpArgs false

theorem drop_at {s : List UInt8} {i : Nat} {c : UInt8} (h : s[i]? = some c) : s.drop i = c :: s.drop (i + 1) := by
  obtain ⟨hi, e⟩ := List.getElem?_eq_some_iff.1 h
  rw [List.drop_eq_getElem_cons hi, e]
theorem st_at {s : List UInt8} {i : Nat} {c : UInt8} (h : s[i]? = some c) : st (s.drop i) = stc (cl c) (s.drop i) := by
  unfold st
  rw [drop_at h]
  rfl
theorem st_sp {s : List UInt8} {i : Nat} {c : UInt8} (h : s[i]? = some c) (hs : isSp c = true) : st (s.drop i) = .skip 1 := by
  rw [st_at h, show cl c = 1 from by unfold cl; rw [if_pos hs]]
  rfl
theorem st_com {s : List UInt8} {i : Nat} (h : s[i]? = some 47) (h2 : s[i + 1]? = some 47) : st (s.drop i) = .skip ((s.drop i).takeWhile noLf).length := by
  rw [st_at h, show cl 47 = 6 from by decide +kernel, stc6, if_pos (by rw [drop_at h, drop_at h2]; rfl)]
theorem st_let {s : List UInt8} {i : Nat} {c : UInt8} (h : s[i]? = some c) (hs : isL c = true) : st (s.drop i) = if nm ((s.drop i).takeWhile isP) then .tok 1 ((s.drop i).takeWhile isP) 0 ((s.drop i).takeWhile isP).length else .bad := by
  rw [st_at h, of_decide_eq_true ((cl_L c).trans hs), stc2]
theorem st_dig {s : List UInt8} {i : Nat} {c : UInt8} (h : s[i]? = some c) (hs : isD c = true) : st (s.drop i) = match num ((s.drop i).takeWhile isD) with | some n => .tok 2 [] n ((s.drop i).takeWhile isD).length | none => .bad := by
  rw [st_at h, of_decide_eq_true ((cl_D c).trans hs), stc3]
  cases num ((s.drop i).takeWhile isD) <;> rfl
theorem st_sig {s : List UInt8} {i : Nat} {c : UInt8} (h : s[i]? = some c) (hs : isSg c = true) (hn : ¬ (c = 47 ∧ s[i + 1]? = some 47)) : st (s.drop i) = .tok 3 ((s.drop i).take 1) 0 1 := by
  have h1 := (cl_S c).trans hs
  rw [Bool.or_eq_true, decide_eq_true_eq, decide_eq_true_eq] at h1
  rw [st_at h]
  rcases h1 with e | e
  · rw [e]; rfl
  · rw [e, stc6, if_neg]
    intro h2
    rw [drop_at h] at h2
    obtain ⟨d, hd⟩ : ∃ d, s[i + 1]? = some d := by
      cases hd : s[i + 1]? with
      | some d => exact ⟨d, rfl⟩
      | none =>
        have : s.drop (i + 1) = [] := List.drop_eq_nil_of_le (List.getElem?_eq_none_iff.1 hd)
        rw [this] at h2
        simp at h2
    rw [drop_at hd] at h2
    simp at h2
    exact hn ⟨h2.1, by rw [hd, h2.2]⟩
theorem st_no {s : List UInt8} {i : Nat} {c : UInt8} (h : s[i]? = some c) (h1 : isSp c = false) (h2 : isL c = false) (h3 : isD c = false) (h4 : isSg c = false) : st (s.drop i) = .bad := by
  have := u8_all (fun b => decide (isSp b = false → isL b = false → isD b = false → isSg b = false → cl b = 0 ∨ cl b = 4)) (by decide +kernel) c
  rw [st_at h]
  rcases of_decide_eq_true this h1 h2 h3 h4 with e | e <;> rw [e] <;> rfl
theorem no_dig {c : UInt8} (h : c.toNat = 47) : isSp c = false ∧ isL c = false ∧ isD c = false ∧ isSg c = true := by
  have := u8_all (fun b => decide (b.toNat = 47 → isSp b = false ∧ isL b = false ∧ isD b = false ∧ isSg b = true)) (by decide +kernel) c
  exact of_decide_eq_true this h
theorem tw_mid {p : UInt8 → Bool} {s : List UInt8} {i k : Nat} (hik : i ≤ k) (hk : k ≤ s.length) (hin : ∀ (m : Nat) c, i ≤ m → m < k → s[m]? = some c → p c = true) (hout : ∀ c, s[k]? = some c → p c = false) : (s.drop i).takeWhile p = (s.drop i).take (k - i) :=
  tw_take p _ (k - i) (by rw [List.length_drop]; omega) (fun m hm b hb => hin (i + m) b (by omega) (by omega) (by rw [List.getElem?_drop] at hb; exact hb)) (fun b hb => hout b (by rw [List.getElem?_drop, show i + (k - i) = k by omega] at hb; exact hb))
theorem mid_len {s : List UInt8} {i k : Nat} (hik : i ≤ k) (hk : k ≤ s.length) : ((s.drop i).take (k - i)).length = k - i := by
  rw [List.length_take, List.length_drop]
  omega
theorem go_skip {s : List UInt8} {i m : Nat} {out : List Tk} (hi : i < s.length) (h : st (s.drop i) = .skip m) (H : (lxr s i).pre out = lex s) : (lxr s (i + m)).pre out = lex s := by
  rw [← (lxr_skip hi h).2.2]
  exact H
theorem go_tok {s : List UInt8} {i m : Nat} {out : List Tk} {k n : Int} {t : List UInt8} (hi : i < s.length) (h : st (s.drop i) = .tok k t n m) (H : (lxr s i).pre out = lex s) : (lxr s (i + m)).pre (out ++ [⟨k, t, n, i⟩]) = lex s := by
  rw [(lxr_tok hi h).2.2, Rs.pre_pre] at H
  exact H
theorem go_bad {s : List UInt8} {i : Nat} {out : List Tk} (hl : s.length ≤ 65536) (hi : i < s.length) (h : st (s.drop i) = .bad) (H : (lxr s i).pre out = lex s) : lxo s = ([], i, 100) := by
  rw [lxr_bad hi h] at H
  unfold lxo
  rw [if_neg (by omega), ← H]
  rfl
theorem go_end {s : List UInt8} {i : Nat} {out : List Tk} (hl : s.length ≤ 65536) (hi : s.length ≤ i) (H : (lxr s i).pre out = lex s) : lxo s = (out, 0, 0) := by
  rw [lxr_end s i hi] at H
  unfold lxo
  rw [if_neg (by omega), ← H]
  simp [Rs.pre]
theorem sp_L {c : UInt8} (h : isSp c = true) : True := trivial
end Go.Proofs.YtojlibeecpmbnaaDoor
