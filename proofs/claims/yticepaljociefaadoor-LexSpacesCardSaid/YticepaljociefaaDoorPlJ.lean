/- Plain: one source behind another one. -/
import Derived.Test.YticepaljociefaaDoorPlW
namespace Go.Proofs.YticepaljociefaaDoor
set_option linter.unusedVariables false

def Tk.sh (d : Nat) (t : Tk) : Tk := ⟨t.k, t.t, t.n, t.p + (d : Int)⟩
def Rs.sh (d : Nat) : Rs → Rs
  | .ok ts => .ok (ts.map (Tk.sh d))
  | .no j => .no (j + d)
theorem Rs.sh_pre (d : Nat) (out : List Tk) (r : Rs) : (r.pre out).sh d = (r.sh d).pre (out.map (Tk.sh d)) := by cases r <;> simp [Rs.pre, Rs.sh]
theorem lx_sh : ∀ (f : Nat) (l : List UInt8) (i d : Nat), lx f l (i + d) = (lx f l i).sh d
  | 0, l, i, d => rfl
  | f + 1, l, i, d => by
    by_cases hl : l = []
    · subst hl; rfl
    · cases hs : st l with
      | bad =>
        unfold lx
        rw [if_neg hl, if_neg hl, hs]
        rfl
      | skip m =>
        have h1 : lx (f + 1) l (i + d) = lx f (l.drop m) (i + d + m) := by conv => lhs; unfold lx; rw [if_neg hl, hs]
        have h2 : lx (f + 1) l i = lx f (l.drop m) (i + m) := by conv => lhs; unfold lx; rw [if_neg hl, hs]
        rw [h1, h2, show i + d + m = i + m + d by omega]
        exact lx_sh f _ _ d
      | tok k t n m =>
        have h1 : lx (f + 1) l (i + d) = (lx f (l.drop m) (i + d + m)).pre [⟨k, t, n, ((i + d : Nat) : Int)⟩] := by conv => lhs; unfold lx; rw [if_neg hl, hs]
        have h2 : lx (f + 1) l i = (lx f (l.drop m) (i + m)).pre [⟨k, t, n, (i : Int)⟩] := by conv => lhs; unfold lx; rw [if_neg hl, hs]
        rw [h1, h2, show i + d + m = i + m + d by omega, lx_sh f _ _ d, Rs.sh_pre]
        have : ((i + d : Nat) : Int) = (i : Int) + (d : Int) := by omega
        simp [Tk.sh, this]
/-- How many tokens, and where. -/
theorem lx_bnd : ∀ (f : Nat) (l : List UInt8) (i : Nat) (ts : List Tk), lx f l i = .ok ts → ts.length ≤ l.length ∧ ∀ t ∈ ts, t.p ≤ (i : Int) + (l.length : Int)
  | 0, l, i, ts, h => by
    unfold lx at h
    cases h
    exact ⟨Nat.zero_le _, fun t ht => by cases ht⟩
  | f + 1, l, i, ts, h => by
    by_cases hl : l = []
    · subst hl
      unfold lx at h
      cases h
      exact ⟨Nat.zero_le _, fun t ht => by cases ht⟩
    · cases hs : st l with
      | bad =>
        unfold lx at h
        rw [if_neg hl, hs] at h
        cases h
      | skip m =>
        have hm := st_skip hl hs
        have h2 : lx (f + 1) l i = lx f (l.drop m) (i + m) := by conv => lhs; unfold lx; rw [if_neg hl, hs]
        rw [h2] at h
        have ih := lx_bnd f _ _ ts h
        rw [List.length_drop] at ih
        exact ⟨by omega, fun t ht => by have := ih.2 t ht; omega⟩
      | tok k t n m =>
        have hm := st_tok hl hs
        have h2 : lx (f + 1) l i = (lx f (l.drop m) (i + m)).pre [⟨k, t, n, (i : Int)⟩] := by conv => lhs; unfold lx; rw [if_neg hl, hs]
        rw [h2] at h
        cases hr : lx f (l.drop m) (i + m) with
        | no j => rw [hr] at h; cases h
        | ok r =>
          rw [hr] at h
          unfold Rs.pre at h
          cases h
          have ih := lx_bnd f _ _ r hr
          rw [List.length_drop] at ih
          refine ⟨by rw [List.length_append]; show 1 + r.length ≤ _; omega, fun t' ht => ?_⟩
          rcases List.mem_append.1 ht with h1 | h1
          · rw [List.mem_singleton.1 h1]
            show (i : Int) ≤ _
            omega
          · have := ih.2 t' h1
            omega
theorem lxr_lf : ∀ (n : Nat) (a b : List UInt8) (i : Nat), a.length - i ≤ n → i ≤ a.length →
    lxr (a ++ 10 :: b) i = match lxr a i with | .ok ts => (lxr (a ++ 10 :: b) a.length).pre ts | .no j => .no j
  | n, a, b, i, hn, hle => by
    by_cases hi : i < a.length
    case neg =>
      obtain rfl : i = a.length := by omega
      rw [lxr_end a a.length (Nat.le_refl _)]
      show _ = (lxr (a ++ 10 :: b) a.length).pre []
      rw [Rs.pre_nil]
    have hne := drop_ne hi
    have hap : (a ++ 10 :: b).drop i = a.drop i ++ 10 :: b := List.drop_append_of_le_length (by omega)
    have hil : i < (a ++ 10 :: b).length := by rw [List.length_append]; omega
    have hst : st ((a ++ 10 :: b).drop i) = st (a.drop i) := by rw [hap]; exact st_end_app hne rfl rfl rfl (by decide)
    cases hs : st (a.drop i) with
    | bad =>
      rw [lxr_bad hi hs, lxr_bad hil (hst.trans hs)]
    | skip m =>
      have h1 := lxr_skip hi hs
      have h2 := lxr_skip hil (hst.trans hs)
      rw [h1.2.2, h2.2.2]
      match n, hn with
      | 0, hn => omega
      | n + 1, hn => exact lxr_lf n a b (i + m) (by omega) h1.2.1
    | tok k t x m =>
      have h1 := lxr_tok hi hs
      have h2 := lxr_tok hil (hst.trans hs)
      rw [h1.2.2, h2.2.2]
      match n, hn with
      | 0, hn => omega
      | n + 1, hn =>
        rw [lxr_lf n a b (i + m) (by omega) h1.2.1]
        cases lxr a (i + m) with
        | no j => rfl
        | ok ts => exact Rs.pre_pre _ _ _
theorem lex_lf (a b : List UInt8) : lex (a ++ 10 :: b) = match lex a with
    | .no j => .no j
    | .ok x => match lex b with
      | .no j => .no (j + (a.length + 1))
      | .ok y => .ok (x ++ y.map (Tk.sh (a.length + 1))) := by
  have h := lxr_lf a.length a b 0 (Nat.sub_le _ _) (Nat.zero_le _)
  rw [lxr_zero, lxr_zero] at h
  rw [h]
  have hd : (a ++ 10 :: b).drop a.length = 10 :: b := by simp
  have hs : st ((a ++ 10 :: b).drop a.length) = .skip 1 := by
    rw [hd]
    have : cl 10 = 1 := by decide +kernel
    show stc (cl 10) _ = _
    rw [this]
    rfl
  have h2 := lxr_skip (by rw [List.length_append]; simp) hs
  have h3 : lxr (a ++ 10 :: b) (a.length + 1) = (lex b).sh (a.length + 1) := by
    unfold lxr lex
    have hd2 : (a ++ 10 :: b).drop (a.length + 1) = b := by
      rw [← List.drop_drop, hd]
      rfl
    rw [hd2, show (a ++ 10 :: b).length - (a.length + 1) = b.length by rw [List.length_append, List.length_cons]; omega]
    have := lx_sh b.length b 0 (a.length + 1)
    rw [Nat.zero_add] at this
    exact this
  rw [h2.2.2, h3]
  cases lex a with
  | no j => rfl
  | ok x =>
    cases lex b with
    | no j => rfl
    | ok y => rfl
end Go.Proofs.YticepaljociefaaDoor
