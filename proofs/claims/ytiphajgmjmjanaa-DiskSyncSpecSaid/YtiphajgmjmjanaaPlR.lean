/- What follows from the disks' plain words: reads behind writes and syncs; syncing one by one or together. -/
import Derived.Test.YtiphajgmjmjanaaPl
namespace Go.Proofs.Ytiphajgmjmjanaa
set_option linter.unusedVariables false

theorem rng_facts {d : Dk} (h : rng d = true) : vld d = true ∧ d.stop = false := by
  unfold rng at h
  simp only [Bool.and_eq_true, Bool.not_eq_true'] at h
  exact h
theorem has_facts {d : Dk} {k : Int} (h : has d k = true) : 0 ≤ k ∧ k < (d.secs.length : Int) := by
  unfold has at h
  simpa using h
theorem wr_ok {d : Dk} {k : Int} {b : List UInt8} (h : wre d k b = 0) : rng d = true ∧ has d k = true ∧ b.length ≤ 128 ∧ d.pend.length < 4096 ∧ wr d k b = { d with pend := d.pend ++ [(k, sec b)] } := by
  have hw : wr d k b = { d with pend := d.pend ++ [(k, sec b)] } := if_pos h
  unfold wre at h
  split at h
  · omega
  · rename_i h1
    split at h
    · omega
    · rename_i h2
      split at h
      · omega
      · rename_i h3
        have h4 : (rng d && has d k) = true := by simpa using h1
        rw [Bool.and_eq_true] at h4
        have := (vld_facts.1 (rng_facts h4.1).1).2.1
        exact ⟨h4.1, h4.2, by omega, by omega, hw⟩
theorem wr_rng {d : Dk} {k : Int} {b : List UInt8} (h : wre d k b = 0) : rng (wr d k b) = true := by
  obtain ⟨h1, h2, h3, h4, h5⟩ := wr_ok h
  obtain ⟨hv, hs⟩ := rng_facts h1
  obtain ⟨f1, f2, f3, f4, f5⟩ := vld_facts.1 hv
  have f6 := has_facts h2
  rw [h5]
  unfold rng
  simp only [Bool.and_eq_true, Bool.not_eq_true']
  refine ⟨vld_facts.2 ⟨f1, by simp; omega, f3, f4, fun a ha => ?_⟩, hs⟩
  rcases List.mem_append.1 ha with h | h
  · exact f5 a h
  · rw [List.mem_singleton.1 h]
    exact ⟨f6, sec_length b⟩
theorem wr_has {d : Dk} {k o : Int} {b : List UInt8} (h : wre d k b = 0) : has (wr d k b) o = has d o := by
  obtain ⟨h1, h2, h3, h4, h5⟩ := wr_ok h
  rw [h5]
  rfl
theorem rde_zero {d : Dk} {o : Int} : rde d o = 0 ↔ rng d = true ∧ has d o = true := by
  unfold rde
  rw [← Bool.and_eq_true]
  split
  · simp_all
  · simp_all
theorem rd_eq {d : Dk} {o : Int} (h : rde d o = 0) : rd d o = (lastw o d.pend).getD (d.secs.getD o.toNat []) := if_pos h
theorem rd_wr {d : Dk} {k o : Int} {b : List UInt8} (h : wre d k b = 0) (ho : rde d o = 0) : rde (wr d k b) o = 0 ∧ rd (wr d k b) o = if k = o then sec b else rd d o := by
  obtain ⟨h1, h2, h3, h4, h5⟩ := wr_ok h
  obtain ⟨h6, h7⟩ := rde_zero.1 ho
  have h8 : rde (wr d k b) o = 0 := rde_zero.2 ⟨wr_rng h, by rw [wr_has h]; exact h7⟩
  refine ⟨h8, ?_⟩
  rw [rd_eq h8, rd_eq ho, h5]
  show (lastw o (d.pend ++ [(k, sec b)])).getD (d.secs.getD o.toNat []) = _
  rw [lastw_snoc]
  by_cases e : k = o
  · rw [if_pos e, if_pos e]; rfl
  · rw [if_neg e, if_neg e]
theorem perf_get (s : List (List UInt8)) (k : Nat) (hk : k < s.length) : ∀ (n : Nat) (l : List (Int × List UInt8)), l.length = n → (∀ a ∈ l, 0 ≤ a.1) → (perf s l).getD k [] = (lastw k l).getD (s.getD k []) := by
  intro n
  induction n with
  | zero =>
    intro l hl _
    have : l = [] := List.length_eq_zero_iff.1 hl
    subst this
    rfl
  | succ n ih =>
    intro l hl hp
    have hne : l ≠ [] := by intro h; subst h; cases hl
    obtain ⟨l', a, rfl⟩ : ∃ l' a, l = l' ++ [a] := ⟨l.dropLast, l.getLast hne, (List.dropLast_concat_getLast hne).symm⟩
    have hl' : l'.length = n := by simpa using hl
    have h0 := hp a (by simp)
    rw [perf_snoc, lastw_snoc]
    by_cases e : a.1 = (k : Int)
    · rw [if_pos e]
      have : a.1.toNat = k := by omega
      rw [this, List.getD_eq_getElem?_getD, List.getElem?_set_self (by rw [perf_length]; exact hk)]
      rfl
    · rw [if_neg e, ← ih l' hl' (fun x hx => hp x (by simp [hx]))]
      rw [List.getD_eq_getElem?_getD, List.getElem?_set_ne (by omega), ← List.getD_eq_getElem?_getD]
theorem perf_mem (l : List (Int × List UInt8)) : ∀ (s : List (List UInt8)), (∀ x ∈ s, x.length = 128) → (∀ a ∈ l, a.2.length = 128) → ∀ x ∈ perf s l, x.length = 128 := by
  induction l with
  | nil => intro s hs _ x hx; exact hs x hx
  | cons a l ih =>
    intro s hs hl
    refine ih (s.set a.1.toNat a.2) (fun x hx => ?_) (fun b hb => hl b (by simp [hb]))
    rcases List.mem_or_eq_of_mem_set hx with h | h
    · exact hs x h
    · rw [h]; exact hl a (by simp)
theorem sy_ok {d : Dk} (h : sye d = 0) : rng d = true ∧ stops d = false ∧ sy d = ⟨perf d.secs d.pend, [], if d.left = -1 then -1 else d.left - d.pend.length, false⟩ := by
  unfold sye at h
  split at h
  · rename_i h1
    simp only [Bool.and_eq_true, Bool.not_eq_true'] at h1
    refine ⟨h1.1, h1.2, ?_⟩
    unfold sy
    rw [if_neg (by rw [h1.1]; decide), if_neg (by rw [h1.2]; decide)]
  · omega
theorem sy_rng {d : Dk} (h : sye d = 0) : rng (sy d) = true := by
  obtain ⟨h1, h2, h3⟩ := sy_ok h
  obtain ⟨hv, hs⟩ := rng_facts h1
  obtain ⟨f1, f2, f3, f4, f5⟩ := vld_facts.1 hv
  rw [h3]
  unfold rng
  simp only [Bool.and_eq_true, Bool.not_eq_true']
  have hst : ¬ (0 ≤ d.left ∧ d.left < (d.pend.length : Int)) := by unfold stops at h2; simpa using h2
  refine ⟨vld_facts.2 ⟨by rw [perf_length]; exact f1, by simp, ?_, perf_mem _ _ f4 (fun a ha => (f5 a ha).2), fun a ha => by cases ha⟩, trivial⟩
  show -1 ≤ (if d.left = -1 then -1 else d.left - (d.pend.length : Int)) ∧ (if d.left = -1 then -1 else d.left - (d.pend.length : Int)) ≤ 65536
  split <;> omega
theorem rd_sy {d : Dk} {o : Int} (h : sye d = 0) (ho : has d o = true) : rde (sy d) o = 0 ∧ rd (sy d) o = rd d o := by
  obtain ⟨h1, h2, h3⟩ := sy_ok h
  have h4 : rde (sy d) o = 0 := rde_zero.2 ⟨sy_rng h, by rw [h3]; unfold has; rw [perf_length]; exact ho⟩
  refine ⟨h4, ?_⟩
  rw [rd_eq h4, rd_eq (rde_zero.2 ⟨h1, ho⟩), h3]
  obtain ⟨k1, k2⟩ := has_facts ho
  obtain ⟨f1, f2, f3, f4, f5⟩ := vld_facts.1 (rng_facts h1).1
  show (perf d.secs d.pend).getD o.toNat [] = _
  rw [perf_get d.secs o.toNat (by omega) _ d.pend rfl (fun a ha => (f5 a ha).1.1), show ((o.toNat : Nat) : Int) = o by omega]
/-- A sync that fails on a disk that runs has stopped. -/
theorem sy_stop {d : Dk} (h : sye d ≠ 0) (hr : rng d = true) : sye d = 70 ∧ (sy d).stop = true ∧ stops d = true := by
  have hs : stops d = true := by
    cases hst : stops d with
    | true => rfl
    | false => exact absurd (by unfold sye; rw [hr, hst]; rfl) h
  refine ⟨by unfold sye; rw [hr, hs]; rfl, ?_, hs⟩
  unfold sy
  rw [if_neg (by rw [hr]; decide), if_pos hs]
end Go.Proofs.Ytiphajgmjmjanaa
