/- Sets of days, plainly. (Nothing here speaks of the program.) -/

namespace Go.Proofs.Ytnmlfdmlcpgaaaa
set_option linter.unusedVariables false

/-- A span has the day k. -/
def inS (s : Int × Int) (k : Nat) : Bool := decide (s.1 ≤ (k : Int)) && decide ((k : Int) < s.2)
/-- A list has the day k. -/
def hasB (l : List (Int × Int)) (k : Nat) : Bool := l.any fun s => inS s k
theorem inS_iff {s : Int × Int} {k : Nat} : inS s k = true ↔ s.1 ≤ (k : Int) ∧ (k : Int) < s.2 := by simp [inS]
theorem hasB_iff {l : List (Int × Int)} {k : Nat} : hasB l k = true ↔ ∃ s ∈ l, s.1 ≤ (k : Int) ∧ (k : Int) < s.2 := by simp [hasB, inS]

/-- A day more at the end of a list that lies backward. -/
def addDay (m : Nat) : List (Int × Int) → List (Int × Int)
  | [] => [((m : Int), (m : Int) + 1)]
  | (a, b) :: r => if b = (m : Int) then (a, (m : Int) + 1) :: r else ((m : Int), (m : Int) + 1) :: (a, b) :: r
theorem addDay_cons (m : Nat) (a b : Int) (r : List (Int × Int)) : addDay m ((a, b) :: r) = if b = (m : Int) then (a, (m : Int) + 1) :: r else ((m : Int), (m : Int) + 1) :: (a, b) :: r := rfl
/-- The spans of the days below m, backward. -/
def nlr (f : Nat → Bool) : Nat → List (Int × Int)
  | 0 => []
  | m + 1 => if f m then addDay m (nlr f m) else nlr f m
/-- The normal list of the days below m. -/
def nl (f : Nat → Bool) (m : Nat) : List (Int × Int) := (nlr f m).reverse

theorem nlr_congr {f g : Nat → Bool} : ∀ {m : Nat}, (∀ k, k < m → f k = g k) → nlr f m = nlr g m
  | 0, _ => rfl
  | m + 1, h => by
    simp only [nlr]
    rw [h m (by omega), nlr_congr (m := m) fun k hk => h k (by omega)]
theorem nl_congr {f g : Nat → Bool} {m : Nat} (h : ∀ k, k < m → f k = g k) : nl f m = nl g m := by
  unfold nl
  rw [nlr_congr h]

/-- The spans of a backward list lie apart, and end by m. -/
def Apart (m : Int) : List (Int × Int) → Prop
  | [] => True
  | (a, b) :: r => a < b ∧ b ≤ m ∧ 0 ≤ a ∧ Apart (a - 1) r
theorem Apart.mono {m m' : Int} : ∀ {l : List (Int × Int)}, Apart m l → m ≤ m' → Apart m' l
  | [], _, _ => trivial
  | (a, b) :: r, ⟨h1, h2, h3, h4⟩, h => ⟨h1, by omega, h3, h4⟩
theorem addDay_apart {m : Nat} {l : List (Int × Int)} (h : Apart m l) : Apart ((m : Int) + 1) (addDay m l) := by
  cases l with
  | nil => exact ⟨by omega, by omega, by omega, trivial⟩
  | cons s r =>
    obtain ⟨a, b⟩ := s
    obtain ⟨h1, h2, h3, h4⟩ := h
    rw [addDay_cons]
    split
    · exact ⟨by omega, by omega, h3, h4⟩
    · exact ⟨by omega, by omega, by omega, h1, by omega, h3, h4⟩
theorem nlr_apart (f : Nat → Bool) : ∀ m : Nat, Apart m (nlr f m)
  | 0 => trivial
  | m + 1 => by
    simp only [nlr]
    have ih := nlr_apart f m
    split
    · exact (addDay_apart ih).mono (by omega)
    · exact ih.mono (by omega)
theorem addDay_has (m : Nat) (l : List (Int × Int)) (h : Apart m l) (k : Nat) : hasB (addDay m l) k = (hasB l k || decide (k = m)) := by
  rw [Bool.eq_iff_iff]
  simp only [Bool.or_eq_true, hasB_iff, decide_eq_true_eq]
  cases l with
  | nil =>
    simp only [addDay, List.mem_singleton, exists_eq_left, List.not_mem_nil, false_and, exists_false, false_or]
    omega
  | cons s r =>
    obtain ⟨a, b⟩ := s
    obtain ⟨h1, h2, h3, h4⟩ := h
    rw [addDay_cons]
    split
    · rename_i hb
      subst hb
      simp only [List.mem_cons, exists_eq_or_imp]
      constructor
      · rintro (h | h)
        · omega
        · exact .inl (.inr h)
      · rintro ((h | h) | h)
        · left; omega
        · exact .inr h
        · left; omega
    · simp only [List.mem_cons, exists_eq_or_imp]
      constructor
      · rintro (h | h)
        · right; omega
        · exact .inl h
      · rintro (h | h)
        · exact .inr h
        · left; omega
theorem nlr_has (f : Nat → Bool) : ∀ (m k : Nat), hasB (nlr f m) k = (f k && decide (k < m))
  | 0, k => by simp [nlr, hasB]
  | m + 1, k => by
    simp only [nlr]
    have ih := nlr_has f m k
    split
    · rename_i hf
      rw [addDay_has m _ (nlr_apart f m), ih]
      by_cases e : k = m
      · subst e; simp [hf]
      · simp only [e, decide_false, Bool.or_false]
        congr 1
        rw [decide_eq_decide]
        omega
    · rename_i hf
      rw [ih]
      by_cases e : k = m
      · subst e; simp at hf; simp [hf]
      · congr 1
        rw [decide_eq_decide]
        omega
theorem hasB_reverse (l : List (Int × Int)) (k : Nat) : hasB l.reverse k = hasB l k := by simp [hasB]
theorem nl_has (f : Nat → Bool) (m k : Nat) : hasB (nl f m) k = (f k && decide (k < m)) := by unfold nl; rw [hasB_reverse, nlr_has]

theorem nlr_no {f : Nat → Bool} {m : Nat} (h : f m = false) : nlr f (m + 1) = nlr f m := by simp [nlr, h]
theorem nl_no {f : Nat → Bool} {m : Nat} (h : f m = false) : nl f (m + 1) = nl f m := by unfold nl; rw [nlr_no h]
/-- Behind a day that is not in the set the last span ends earlier. -/
theorem nlr_head {f : Nat → Bool} {m : Nat} (h : m = 0 ∨ f (m - 1) = false) : Apart ((m : Int) - 1) (nlr f m) := by
  cases m with
  | zero => exact trivial
  | succ m =>
    have hf : f m = false := by simpa using h
    rw [nlr_no hf]
    exact (nlr_apart f m).mono (by omega)
theorem nlr_run {f : Nat → Bool} {j : Nat} (h : j = 0 ∨ f (j - 1) = false) : ∀ d : Nat, (∀ k, j ≤ k → k < j + d + 1 → f k = true) → nlr f (j + d + 1) = ((j : Int), ((j + d : Nat) : Int) + 1) :: nlr f j
  | 0, hf => by
    simp only [nlr, Nat.add_zero]
    rw [if_pos (hf j (by omega) (by omega))]
    have ha := nlr_head h
    generalize nlr f j = l at *
    cases l with
    | nil => rfl
    | cons s r =>
      obtain ⟨a, b⟩ := s
      obtain ⟨h1, h2, _⟩ := ha
      rw [addDay_cons, if_neg (by omega)]
  | d + 1, hf => by
    have ih := nlr_run h d fun k h1 h2 => hf k h1 (by omega)
    rw [show j + (d + 1) + 1 = (j + d + 1) + 1 from rfl, nlr, if_pos (hf (j + d + 1) (by omega) (by omega)), ih]
    rw [addDay_cons, if_pos (by omega)]
    rfl
/-- A longest sequence of days of the set is one span more. -/
theorem nl_run {f : Nat → Bool} {j t : Nat} (h : j = 0 ∨ f (j - 1) = false) (hjt : j < t) (hf : ∀ k, j ≤ k → k < t → f k = true) : nl f t = nl f j ++ [((j : Int), (t : Int))] := by
  obtain ⟨d, rfl⟩ : ∃ d, t = j + d + 1 := ⟨t - j - 1, by omega⟩
  unfold nl
  rw [nlr_run h d hf, List.reverse_cons]
  rfl
theorem nl_nil {f : Nat → Bool} {m : Nat} : nl f m = [] ↔ ∀ k, k < m → f k = false := by
  constructor
  · intro h k hk
    have := nl_has f m k
    rw [h] at this
    simp [hasB, hk] at this
    exact this
  · intro h
    rw [nl_congr (g := fun _ => false) h]
    unfold nl
    have : ∀ m, nlr (fun _ => false) m = [] := by
      intro m
      induction m with
      | zero => rfl
      | succ m ih => rw [nlr_no rfl, ih]
    rw [this]
    rfl
theorem addDay_length (m : Nat) (l : List (Int × Int)) : (addDay m l).length ≤ l.length + 1 := by
  cases l with
  | nil => simp [addDay]
  | cons s r =>
    obtain ⟨a, b⟩ := s
    rw [addDay_cons]
    split <;> simp
theorem nlr_length (f : Nat → Bool) : ∀ m, (nlr f m).length ≤ m
  | 0 => Nat.le_refl _
  | m + 1 => by
    simp only [nlr]
    have ih := nlr_length f m
    split
    · exact Nat.le_trans (addDay_length m _) (by omega)
    · omega
theorem nl_length (f : Nat → Bool) (m : Nat) : (nl f m).length ≤ m := by unfold nl; rw [List.length_reverse]; exact nlr_length f m
/-- The normal list of a normal list's days is that list. -/
theorem nl_again (f : Nat → Bool) (m : Nat) : nl (hasB (nl f m)) m = nl f m := nl_congr fun k hk => by rw [nl_has]; simp [hk]

/-- What is in order: each span is one, ends by m, and lies apart from the one ahead. -/
def Nrm (m : Int) (l : List (Int × Int)) : Prop := (∀ (i : Nat) s, l[i]? = some s → 0 ≤ s.1 ∧ s.1 < s.2 ∧ s.2 ≤ m) ∧ ∀ (i : Nat) s t, l[i]? = some s → l[i + 1]? = some t → s.2 < t.1
theorem nrm_snoc {m : Int} {l : List (Int × Int)} {s : Int × Int} (h : Nrm (s.1 - 1) l) (h1 : 0 ≤ s.1) (h2 : s.1 < s.2) (h3 : s.2 ≤ m) : Nrm m (l ++ [s]) := by
  obtain ⟨ha, hb⟩ := h
  constructor
  · intro i t ht
    by_cases hi : i < l.length
    · rw [List.getElem?_append_left hi] at ht
      have := ha i t ht
      omega
    · rw [List.getElem?_append_right (by omega)] at ht
      have hi0 : i - l.length = 0 := by
        have := (List.getElem?_eq_some_iff.1 ht).1
        simp at this
        omega
      rw [hi0] at ht
      simp at ht
      subst ht
      omega
  · intro i s' t hs ht
    by_cases hi : i + 1 < l.length
    · rw [List.getElem?_append_left (by omega)] at hs
      rw [List.getElem?_append_left hi] at ht
      exact hb i s' t hs ht
    · have hl := (List.getElem?_eq_some_iff.1 ht).1
      simp at hl
      rw [List.getElem?_append_left (by omega)] at hs
      rw [List.getElem?_append_right (by omega)] at ht
      rw [show i + 1 - l.length = 0 by omega] at ht
      simp at ht
      subst ht
      have := ha i s' hs
      omega
theorem apart_nrm : ∀ {m : Int} {l : List (Int × Int)}, Apart m l → Nrm m l.reverse
  | m, [], _ => ⟨by intro i s h; simp at h, by intro i s t h; simp at h⟩
  | m, (a, b) :: r, ⟨h1, h2, h3, h4⟩ => by
    rw [List.reverse_cons]
    exact nrm_snoc (apart_nrm h4) h3 h1 h2
theorem nl_nrm (f : Nat → Bool) (m : Nat) : Nrm m (nl f m) := apart_nrm (nlr_apart f m)

/-! ### How many spans begin and end on a day -/
def lo (s : Int × Int) : Int := max s.1 0
def hi (s : Int × Int) : Int := min s.2 1024
def one (s : Int × Int) (d : Nat) : Int := if lo s < hi s then (if lo s = d then 1 else 0) - (if hi s = d then 1 else 0) else 0
def chg : List (Int × Int) → Nat → Int
  | [], _ => 0
  | s :: l, d => one s d + chg l d
def opn (g : Nat → Int) : Nat → Int
  | 0 => 0
  | d + 1 => opn g d + g d
theorem chg_snoc (l : List (Int × Int)) (s : Int × Int) (d : Nat) : chg (l ++ [s]) d = chg l d + one s d := by
  induction l with
  | nil => simp [chg]
  | cons t l ih => simp only [List.cons_append, chg, ih]; omega
theorem one_bd (s : Int × Int) (d : Nat) : -1 ≤ one s d ∧ one s d ≤ 1 := by
  unfold one
  split
  · split <;> split <;> omega
  · omega
theorem chg_bd (l : List (Int × Int)) (d : Nat) : -(l.length : Int) ≤ chg l d ∧ chg l d ≤ l.length := by
  induction l with
  | nil => simp [chg]
  | cons s l ih =>
    have := one_bd s d
    simp only [chg, List.length_cons]
    omega
theorem opn_cons (s : Int × Int) (l : List (Int × Int)) : ∀ d, opn (chg (s :: l)) d = opn (one s) d + opn (chg l) d
  | 0 => rfl
  | d + 1 => by
    have ih := opn_cons s l d
    have e : chg (s :: l) d = one s d + chg l d := rfl
    have e1 : ∀ g : Nat → Int, opn g (d + 1) = opn g d + g d := fun _ => rfl
    rw [e1, e1, e1, ih, e]
    omega
theorem opn_one (s : Int × Int) : ∀ d : Nat, opn (one s) d = if lo s < hi s ∧ lo s < (d : Int) ∧ (d : Int) ≤ hi s then 1 else 0
  | 0 => by
    have h0 : 0 ≤ lo s := by unfold lo; omega
    rw [if_neg (by omega)]
    rfl
  | d + 1 => by
    have h0 : 0 ≤ lo s := by unfold lo; omega
    simp only [opn, opn_one s d, one]
    by_cases h : lo s < hi s
    · rw [if_pos h]
      simp only [h, true_and]
      split <;> split <;> split <;> split <;> omega
    · rw [if_neg h, if_neg (by omega), if_neg (by omega)]
      rfl
theorem opn_bd (l : List (Int × Int)) (d : Nat) : 0 ≤ opn (chg l) d ∧ opn (chg l) d ≤ l.length := by
  induction l with
  | nil =>
    have : ∀ d, opn (chg []) d = 0 := by
      intro d
      induction d with
      | zero => rfl
      | succ d ih =>
        have e : opn (chg []) (d + 1) = opn (chg []) d + 0 := rfl
        rw [e, ih]
        rfl
    rw [this]
    simp
  | cons s l ih =>
    rw [opn_cons, opn_one]
    simp only [List.length_cons]
    split <;> omega
theorem opn_has (l : List (Int × Int)) (d : Nat) (hd : d < 1024) : decide (0 < opn (chg l) (d + 1)) = hasB l d := by
  induction l with
  | nil =>
    have := (opn_bd [] (d + 1)).2
    simp [hasB]
    simpa using this
  | cons s l ih =>
    have hb := opn_bd l (d + 1)
    rw [opn_cons, opn_one]
    have he : hasB (s :: l) d = (inS s d || hasB l d) := by simp [hasB]
    rw [he, ← ih, Bool.eq_iff_iff]
    simp only [Bool.or_eq_true, decide_eq_true_eq, inS_iff]
    have h1 : lo s < hi s ∧ lo s < ((d + 1 : Nat) : Int) ∧ ((d + 1 : Nat) : Int) ≤ hi s ↔ s.1 ≤ (d : Int) ∧ (d : Int) < s.2 := by
      unfold lo hi
      omega
    split
    · rename_i h
      have := h1.1 h
      constructor
      · intro _; exact .inl this
      · intro _; omega
    · rename_i h
      constructor
      · intro h2; exact .inr (by omega)
      · rintro (h2 | h2)
        · exact absurd (h1.2 h2) h
        · omega
end Go.Proofs.Ytnmlfdmlcpgaaaa
