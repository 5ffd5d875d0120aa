/- Plain: the tokens of a text are those that it was made of. -/
import Derived.Test.YticepaljociefaaDoorPlJ
namespace Go.Proofs.YticepaljociefaaDoor
open Go
set_option linter.unusedVariables false
set_option linter.unusedSimpArgs false

theorem ofNat_dig {r : Nat} (h : r < 10) : (UInt8.ofNat (48 + r)).toNat = 48 + r := UInt8.toNat_ofNat_of_lt' (by simp [UInt8.size]; omega)
theorem isD_dig {r : Nat} (h : r < 10) : isD (UInt8.ofNat (48 + r)) = true := by
  unfold isD
  rw [ofNat_dig h]
  simp
  omega
theorem dec_lt {u : Nat} (h : u < 10) : Lib.decDigits u = [UInt8.ofNat (48 + u)] := by rw [Lib.decDigits, dif_pos h]
theorem dec_ge {u : Nat} (h : ¬ u < 10) : Lib.decDigits u = Lib.decDigits (u / 10) ++ [UInt8.ofNat (48 + u % 10)] := by rw [Lib.decDigits, dif_neg h]
theorem dec_all (u : Nat) : (Lib.decDigits u).all isD = true := by
  induction u using Nat.strongRecOn with
  | _ u ih =>
    by_cases h : u < 10
    · rw [dec_lt h, List.all_cons, isD_dig h]; rfl
    · rw [dec_ge h, List.all_append, ih (u / 10) (by omega), List.all_cons, isD_dig (show u % 10 < 10 by omega)]
      rfl
theorem dec_pos (u : Nat) : 0 < (Lib.decDigits u).length := by
  by_cases h : u < 10
  · rw [dec_lt h]; simp
  · rw [dec_ge h]; simp
theorem dec_head (u : Nat) (hu : u ≠ 0) : ((Lib.decDigits u).headD 0).toNat ≠ 48 := by
  induction u using Nat.strongRecOn with
  | _ u ih =>
    by_cases h : u < 10
    · rw [dec_lt h]
      show (UInt8.ofNat (48 + u)).toNat ≠ 48
      rw [ofNat_dig h]
      omega
    · rw [dec_ge h]
      have hp := dec_pos (u / 10)
      rw [head_app (fun e => by rw [e] at hp; simp at hp)]
      exact ih (u / 10) (by omega) (by omega)
theorem dec_nv (u : Nat) (hu : u ≤ 1099511627776) : nv 0 (Lib.decDigits u) = some u := by
  induction u using Nat.strongRecOn with
  | _ u ih =>
    by_cases h : u < 10
    · rw [dec_lt h, nv_cons, ofNat_dig h, if_neg (by omega)]
      show some (10 * 0 + (48 + u - 48)) = some u
      congr 1
      omega
    · rw [dec_ge h, nv_cut, ih (u / 10) (by omega) (by omega)]
      show nv (u / 10) [UInt8.ofNat (48 + u % 10)] = some u
      rw [nv_cons, ofNat_dig (show u % 10 < 10 by omega), if_neg (by omega)]
      show some (10 * (u / 10) + (48 + u % 10 - 48)) = some u
      congr 1
      omega
theorem dec_num (u : Nat) (hu : u ≤ 1099511627776) : num (Lib.decDigits u) = some u := by
  unfold num
  rw [if_neg, dec_nv u hu]
  rintro ⟨h1, h2⟩
  by_cases h : u < 10
  · rw [dec_lt h] at h1; simp at h1
  · exact dec_head u (by omega) h2
theorem dec_len : ∀ (k u : Nat), 0 < k → u < 10 ^ k → (Lib.decDigits u).length ≤ k
  | 0, u, h, _ => absurd h (by omega)
  | k + 1, u, _, hu => by
    by_cases h : u < 10
    · rw [dec_lt h]; simp
    · rw [dec_ge h, List.length_append]
      have hk : 0 < k := by
        rcases Nat.eq_zero_or_pos k with h0 | h0
        · subst h0; omega
        · exact h0
      have := dec_len k (u / 10) hk (by rw [Nat.pow_succ] at hu; omega)
      simp
      omega
theorem nv_lt : ∀ (l : List UInt8) (n m : Nat), l.all isD = true → nv n l = some m → m < (n + 1) * 10 ^ l.length
  | [], n, m, _, h => by cases h; simp
  | b :: l, n, m, ha, h => by
    rw [List.all_cons, Bool.and_eq_true] at ha
    have hd := isD_val ha.1
    rw [nv_cons] at h
    split at h
    · cases h
    · have := nv_lt l _ m ha.2 h
      rw [List.length_cons, Nat.pow_succ]
      have h2 : 10 * n + (b.toNat - 48) + 1 ≤ (n + 1) * 10 := by omega
      calc m < (10 * n + (b.toNat - 48) + 1) * 10 ^ l.length := this
        _ ≤ ((n + 1) * 10) * 10 ^ l.length := Nat.mul_le_mul_right _ h2
        _ = (n + 1) * (10 ^ l.length * 10) := by rw [Nat.mul_assoc, Nat.mul_comm 10]
theorem num_len {l : List UInt8} {n : Nat} (h0 : 0 < l.length) (ha : l.all isD = true) (h : num l = some n) : (Lib.decDigits n).length ≤ l.length := by
  unfold num at h
  split at h
  · cases h
  · have := nv_lt l 0 n ha h
    exact dec_len l.length n h0 (by simpa using this)
theorem itoa_nat {n : Int} (h : 0 ≤ n) : Lib.itoa n = Lib.decDigits n.toNat := by
  have := Lib.itoa_nonneg n.toNat
  rwa [Int.toNat_of_nonneg h] at this

theorem vtk_sign {s : List UInt8} {p : Int} (h1 : s.length = 1) (h2 : isSg (s.headD 0) = true) : vtk ⟨3, s, 0, p⟩ = true := by
  show (if (3 : Int) = 1 then nm s && decide ((0 : Int) = 0) else if (3 : Int) = 2 then decide (s = []) && decide ((0 : Int) ≤ 0) && decide ((0 : Int) ≤ 1099511627776) else if (3 : Int) = 3 then decide (s.length = 1) && isSg (s.headD 0) && decide ((0 : Int) = 0) else false) = true
  rw [if_neg (by decide), if_neg (by decide), if_pos rfl, h1, h2]
  rfl
/-- What a step finds is valid, and no longer than the bytes that it takes. -/
theorem st_tok_vtk {R : List UInt8} {k n : Int} {t : List UInt8} {m : Nat} (hR : R ≠ []) (h : st R = .tok k t n m) (p : Int) : vtk ⟨k, t, n, p⟩ = true ∧ (txk ⟨k, t, n, p⟩).length ≤ m := by
  have h1 : (R.take 1).length = 1 := by cases R with | nil => exact absurd rfl hR | cons => simp
  have h2 : (R.take 1).headD 0 = R.headD 0 := head_take (by omega)
  unfold st at h
  have hcl := cl_S (R.headD 0)
  rcases cl7 (R.headD 0) with e | e | e | e | e | e | e <;> rw [e] at h hcl
  · cases h
  · cases h
  · rw [stc2] at h
    split at h
    next hn =>
      cases h
      refine ⟨?_, Nat.le_refl _⟩
      simp [vtk, hn]
    · cases h
  · rw [stc3] at h
    split at h
    next x hx =>
      cases h
      have hle := num_le hx
      have hpos : 0 < (R.takeWhile isD).length := by
        cases R with
        | nil => exact absurd rfl hR
        | cons c r => rw [tw_cons (cl3 (show cl c = 3 from e))]; simp
      refine ⟨?_, ?_⟩
      · simp [vtk]; omega
      · show (if (2 : Int) = 2 then Lib.itoa (x : Int) else []).length ≤ _
        rw [if_pos rfl, itoa_nat (by omega)]
        exact num_len hpos (digits_ok R) hx
    · cases h
  · cases h
  · cases h
    refine ⟨?_, ?_⟩
    · exact vtk_sign h1 (by rw [h2, ← hcl]; rfl)
    · show (if (3 : Int) = 2 then _ else R.take 1).length ≤ 1
      rw [if_neg (by decide), h1]
      exact Nat.le_refl _
  · rw [stc6] at h
    split at h
    · cases h
    · cases h
      refine ⟨?_, ?_⟩
      · exact vtk_sign h1 (by rw [h2, ← hcl]; rfl)
      · show (if (3 : Int) = 2 then _ else R.take 1).length ≤ 1
        rw [if_neg (by decide), h1]
        exact Nat.le_refl _

/-- A text, and what may follow it: nothing, or a space. -/
def Behind (X : List UInt8) : Prop := X = [] ∨ ∃ Y, X = 32 :: Y
theorem tw_behind {p : UInt8 → Bool} (h32 : p 32 = false) {R X : List UInt8} (hX : Behind X) (ha : R.all p = true) : (R ++ X).takeWhile p = R := by
  have hR : R.takeWhile p = R := by
    have := tw_all p R
    rw [ha] at this
    simpa using this
  rcases hX with rfl | ⟨Y, rfl⟩
  · rw [List.append_nil]; exact hR
  · rw [tw_stop p 32 h32]; exact hR
/-- What a valid token's text begins with. -/
theorem st_txk {t : Tk} (hv : vtk t = true) {X : List UInt8} (hX : Behind X) : st (txk t ++ X) = .tok t.k t.t t.n (txk t).length ∧ 0 < (txk t).length := by
  obtain ⟨k, s, n, p⟩ := t
  unfold vtk at hv
  simp only at hv
  by_cases h1 : k = 1
  · subst h1
    rw [if_pos rfl, Bool.and_eq_true] at hv
    have hn : n = 0 := of_decide_eq_true hv.2
    subst hn
    have hp := nm_pos hv.1
    show st (s ++ X) = .tok 1 s 0 s.length ∧ 0 < s.length
    refine ⟨?_, hp⟩
    have hall : s.all isP = true := by
      have h := hv.1
      unfold nm at h
      simp only [Bool.and_eq_true] at h
      exact h.2
    unfold st
    rw [head_app (fun e => by rw [e] at hp; simp at hp), nm_head hv.1, stc2, tw_behind rfl hX hall, if_pos hv.1]
  rw [if_neg h1] at hv
  by_cases h2 : k = 2
  · subst h2
    rw [if_pos rfl] at hv
    simp only [Bool.and_eq_true] at hv
    have hs : s = [] := of_decide_eq_true hv.1.1
    have h0 : 0 ≤ n := of_decide_eq_true hv.1.2
    have hm : n ≤ 1099511627776 := of_decide_eq_true hv.2
    subst hs
    obtain ⟨u, rfl⟩ : ∃ u : Nat, n = (u : Int) := ⟨n.toNat, by omega⟩
    have ht : txk ⟨2, [], (u : Int), p⟩ = Lib.decDigits u := by
      show (if (2 : Int) = 2 then Lib.itoa (u : Int) else []) = _
      rw [if_pos rfl, itoa_nat h0]
      simp
    rw [ht]
    have hp := dec_pos u
    refine ⟨?_, hp⟩
    have hhd : cl ((Lib.decDigits u).headD 0) = 3 := by
      have ha := dec_all u
      cases hd : Lib.decDigits u with
      | nil => rw [hd] at hp; simp at hp
      | cons c r =>
        rw [hd, List.all_cons, Bool.and_eq_true] at ha
        have := ha.1
        rw [← cl_D] at this
        exact of_decide_eq_true this
    unfold st
    rw [head_app (fun e => by rw [e] at hp; simp at hp), hhd, stc3, tw_behind rfl hX (dec_all u), dec_num u (by omega)]
  rw [if_neg h2] at hv
  by_cases h3 : k = 3
  · subst h3
    rw [if_pos rfl] at hv
    simp only [Bool.and_eq_true] at hv
    have hl : s.length = 1 := of_decide_eq_true hv.1.1
    have hn : n = 0 := of_decide_eq_true hv.2
    subst hn
    obtain ⟨c, rfl⟩ : ∃ c, s = [c] := by
      cases s with
      | nil => cases hl
      | cons c r =>
        cases r with
        | nil => exact ⟨c, rfl⟩
        | cons x r => simp at hl
    have hg : isSg c = true := hv.1.2
    show st ([c] ++ X) = .tok 3 [c] 0 1 ∧ 0 < 1
    refine ⟨?_, by omega⟩
    have hc := cl_S c
    rw [hg] at hc
    show stc (cl c) ([c] ++ X) = _
    simp only [Bool.or_eq_true, decide_eq_true_eq] at hc
    rcases hc with e | e <;> rw [e]
    · rfl
    · rw [stc6, if_neg]
      · rfl
      · intro h
        rcases hX with rfl | ⟨Y, rfl⟩
        · cases h
        · have h' : [c, 32] = [47, 47] := h
          injection h' with _ h'
          injection h' with h' _
          exact absurd h' (by decide)
  · rw [if_neg h3] at hv
    cases hv
def jn (l : List Tk) : List UInt8 := Lib.join (l.map txk) [32]
theorem jn_cons (t : Tk) (r : List Tk) : jn (t :: r) = txk t ++ (if r = [] then [] else 32 :: jn r) := by
  unfold jn
  cases r with
  | nil => simp [Lib.join_one]
  | cons y r => rw [if_neg (by simp)]; simp [Lib.join, List.intercalate, List.intersperse]
/-- The tokens of a text. -/
theorem lx_jn : ∀ (l : List Tk) (f i : Nat), l.all vtk = true → (jn l).length ≤ f → ∃ m, lx f (jn l) i = .ok m ∧ smt l m = true
  | [], f, i, _, _ => ⟨[], by cases f <;> rfl, rfl⟩
  | t :: r, f, i, hv, hf => by
    rw [List.all_cons, Bool.and_eq_true] at hv
    have hB : Behind (if r = [] then [] else 32 :: jn r) := by
      by_cases h : r = []
      · rw [if_pos h]; exact .inl rfl
      · rw [if_neg h]; exact .inr ⟨_, rfl⟩
    have hs := st_txk hv.1 hB
    rw [jn_cons] at hf ⊢
    have hne : txk t ++ (if r = [] then [] else 32 :: jn r) ≠ [] := fun e => by
      have := congrArg List.length e
      rw [List.length_append, List.length_nil] at this
      have h0 := hs.2
      omega
    rw [List.length_append] at hf
    have hpos := hs.2
    obtain ⟨f, rfl⟩ : ∃ g, f = g + 1 := ⟨f - 1, by omega⟩
    · skip
      have h2 : lx (f + 1) (txk t ++ (if r = [] then [] else 32 :: jn r)) i = (lx f (if r = [] then [] else 32 :: jn r) (i + (txk t).length)).pre [⟨t.k, t.t, t.n, (i : Int)⟩] := by
        conv => lhs; unfold lx
        rw [if_neg hne, hs.1]
        show (lx f ((txk t ++ _).drop (txk t).length) _).pre _ = _
        rw [List.drop_left]
      rw [h2]
      have hq : tkq t ⟨t.k, t.t, t.n, (i : Int)⟩ = true := by simp [tkq]
      by_cases hr : r = []
      · subst hr
        rw [if_pos rfl]
        refine ⟨[⟨t.k, t.t, t.n, (i : Int)⟩], by cases f <;> rfl, ?_⟩
        unfold smt
        rw [hq]
        rfl
      · rw [if_neg hr] at hf ⊢
        simp only [List.length_cons] at hf
        obtain ⟨f, rfl⟩ : ∃ g, f = g + 1 := ⟨f - 1, by omega⟩
        · skip
          have h3 : lx (f + 1) (32 :: jn r) (i + (txk t).length) = lx f (jn r) (i + (txk t).length + 1) := by
            conv => lhs; unfold lx
            rw [if_neg (by simp)]
            have : st (32 :: jn r) = .skip 1 := by
              have h : cl 32 = 1 := by decide +kernel
              show stc (cl 32) _ = _
              rw [h]
              rfl
            rw [this]
            rfl
          obtain ⟨m, hm, hsm⟩ := lx_jn r f (i + (txk t).length + 1) hv.2 (by omega)
          rw [h3, hm]
          refine ⟨⟨t.k, t.t, t.n, (i : Int)⟩ :: m, rfl, ?_⟩
          unfold smt
          rw [hq, hsm]
          rfl
/-- All tokens of a source are valid, and their text is short. -/
theorem lx_vtk : ∀ (f : Nat) (l : List UInt8) (i : Nat) (ts : List Tk), lx f l i = .ok ts → ts.all vtk = true ∧ (jn ts).length ≤ 2 * l.length
  | 0, l, i, ts, h => by
    unfold lx at h
    cases h
    exact ⟨rfl, Nat.zero_le _⟩
  | f + 1, l, i, ts, h => by
    by_cases hl : l = []
    · subst hl
      unfold lx at h
      cases h
      exact ⟨rfl, Nat.zero_le _⟩
    · cases hs : st l with
      | bad =>
        unfold lx at h
        rw [if_neg hl, hs] at h
        cases h
      | skip m =>
        have hm := st_skip hl hs
        have h2 : lx (f + 1) l i = lx f (l.drop m) (i + m) := by conv => lhs; unfold lx; rw [if_neg hl, hs]
        rw [h2] at h
        have ih := lx_vtk f _ _ ts h
        rw [List.length_drop] at ih
        exact ⟨ih.1, by omega⟩
      | tok k t n m =>
        have hm := st_tok hl hs
        have hv := st_tok_vtk hl hs (i : Int)
        have h2 : lx (f + 1) l i = (lx f (l.drop m) (i + m)).pre [⟨k, t, n, (i : Int)⟩] := by conv => lhs; unfold lx; rw [if_neg hl, hs]
        rw [h2] at h
        cases hr : lx f (l.drop m) (i + m) with
        | no j => rw [hr] at h; cases h
        | ok r =>
          rw [hr] at h
          unfold Rs.pre at h
          cases h
          have ih := lx_vtk f _ _ r hr
          rw [List.length_drop] at ih
          refine ⟨by rw [List.all_append, ih.1, List.all_cons, hv.1]; rfl, ?_⟩
          show (jn (⟨k, t, n, (i : Int)⟩ :: r)).length ≤ _
          rw [jn_cons, List.length_append]
          by_cases he : r = []
          · rw [if_pos he]
            show _ + 0 ≤ _
            have := hv.2
            omega
          · rw [if_neg he, List.length_cons]
            have := hv.2
            omega
/-- What LexBack asks: of a text. -/
theorem back_text {l : List Tk} (h : (txo l).2 = 0) (hl : l.length ≤ 1000) : ∃ m, lxo (txo l).1 = (m, 0, 0) ∧ smt l m = true := by
  unfold txo at h ⊢
  by_cases hv : l.all vtk = true
  · rw [if_pos hv]
    have hj := join_le (l.map txk) (fun x hx => by obtain ⟨t, h1, rfl⟩ := List.mem_map.1 hx; exact vtk_len (List.all_eq_true.1 hv t h1))
    rw [List.length_map] at hj
    obtain ⟨m, hm, hs⟩ := lx_jn l (jn l).length 0 hv (Nat.le_refl _)
    refine ⟨m, ?_, hs⟩
    show lxo (jn l) = _
    rw [lxo_of (by show (Lib.join (l.map txk) [32]).length ≤ 65536; omega), show lex (jn l) = .ok m from hm]
  · rw [if_neg hv] at h
    cases h
/-- .. and of a source. -/
theorem back_src {s : List UInt8} {x : List Tk} (hl : s.length ≤ 3000) (h : lxo s = (x, 0, 0)) : (txo x).2 = 0 ∧ x.length ≤ 3000 ∧ (∀ t ∈ x, t.t.length ≤ 1000000) ∧ (txo x).1.length ≤ 6000 ∧ ∃ m, lxo (txo x).1 = (m, 0, 0) ∧ smt x m = true := by
  rw [lxo_of (by omega)] at h
  cases hx : lex s with
  | no j => rw [hx] at h; cases h
  | ok ts =>
    rw [hx] at h
    injection h with h
    subst h
    have hb := lx_bnd s.length s 0 ts hx
    have hv := lx_vtk s.length s 0 ts hx
    have ht : txo ts = (jn ts, 0) := by unfold txo; rw [if_pos hv.1]; rfl
    rw [ht]
    refine ⟨rfl, by omega, fun t htm => ?_, by show (jn ts).length ≤ 6000; omega, ?_⟩
    · have h1 := List.all_eq_true.1 hv.1 t htm
      have h2 := vtk_len h1
      unfold txk at h2
      split at h2
      next hk =>
        unfold vtk at h1
        rw [if_neg (by omega), if_pos hk] at h1
        simp only [Bool.and_eq_true] at h1
        have : t.t = [] := of_decide_eq_true h1.1.1
        rw [this]; simp
      · omega
    · obtain ⟨m, hm, hs⟩ := lx_jn ts (jn ts).length 0 hv.1 (Nat.le_refl _)
      refine ⟨m, ?_, hs⟩
      show lxo (jn ts) = _
      rw [lxo_of (by omega), show lex (jn ts) = .ok m from hm]
end Go.Proofs.YticepaljociefaaDoor
