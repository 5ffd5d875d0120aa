/- Cuts in plain words: sorted pairs. -/
import Derived.Test.YtojijebmipgeeaaPlN
namespace Go.Proofs.Ytojijebmipgeeaa
set_option linter.unusedVariables false

def Srt (l : List (Int × Int)) : Prop := l.Pairwise (fun x y => lsp x y = true)
theorem lsp_irr (x : Int × Int) : ¬ lsp x x = true := by rw [lsp_iff]; omega
theorem lsp_tr {x y z : Int × Int} (h1 : lsp x y = true) (h2 : lsp y z = true) : lsp x z = true := by rw [lsp_iff] at *; omega
theorem lsp_tri (x y : Int × Int) : lsp x y = true ∨ x = y ∨ lsp y x = true := by
  obtain ⟨x1, x2⟩ := x
  obtain ⟨y1, y2⟩ := y
  rw [lsp_iff, lsp_iff]
  simp only [Prod.mk.injEq]
  omega
/-- Sorted lists with the same pairs are equal. -/
theorem srt_uniq : ∀ {l l2 : List (Int × Int)}, Srt l → Srt l2 → (∀ x, x ∈ l ↔ x ∈ l2) → l = l2
  | [], [], _, _, _ => rfl
  | [], y :: l2, _, _, h => absurd ((h y).2 (by simp)) (by simp)
  | x :: l, [], _, _, h => absurd ((h x).1 (by simp)) (by simp)
  | x :: l, y :: l2, h1, h2, h => by
    obtain ⟨a1, b1⟩ := List.pairwise_cons.1 h1
    obtain ⟨a2, b2⟩ := List.pairwise_cons.1 h2
    have e : x = y := by
      rcases List.mem_cons.1 ((h x).1 (by simp)) with e | hx
      · exact e
      · rcases List.mem_cons.1 ((h y).2 (by simp)) with e | hy
        · exact e.symm
        · exact absurd (lsp_tr (a1 y hy) (a2 x hx)) (lsp_irr x)
    subst e
    have : l = l2 := srt_uniq b1 b2 (fun z => by
      have hz := h z
      constructor
      · intro hm
        rcases List.mem_cons.1 (hz.1 (by simp [hm])) with e | h3
        · subst e; exact absurd (a1 z hm) (lsp_irr z)
        · exact h3
      · intro hm
        rcases List.mem_cons.1 (hz.2 (by simp [hm])) with e | h3
        · subst e; exact absurd (a2 z hm) (lsp_irr z)
        · exact h3)
    rw [this]
theorem srt_nodup {l : List (Int × Int)} (h : Srt l) : l.Nodup := h.imp (fun {x y} hxy e => by subst e; exact lsp_irr x hxy)
theorem srt_srt {l : List (Int × Int)} (h : l.Nodup) : Srt (srt l) := by
  have hp := List.mergeSort_perm l (fun x y => !lsp y x)
  have hs : (l.mergeSort (fun x y => !lsp y x)).Pairwise (fun x y => (!lsp y x) = true) := List.pairwise_mergeSort (fun a b c h1 h2 => by
    simp only [Bool.not_eq_true'] at h1 h2 ⊢
    rw [lsp_not] at *
    omega) (fun a b => by
    simp only [Bool.or_eq_true, Bool.not_eq_true']
    rw [lsp_not, lsp_not]
    omega) l
  have hn : (l.mergeSort (fun x y => !lsp y x)).Nodup := hp.nodup_iff.2 h
  unfold Srt srt
  refine (hs.and hn).imp (fun {x y} hxy => ?_)
  rcases lsp_tri x y with h1 | h1 | h1
  · exact h1
  · exact absurd h1 hxy.2
  · have := hxy.1
    rw [h1] at this
    cases this
theorem mem_srt {l : List (Int × Int)} {x : Int × Int} : x ∈ srt l ↔ x ∈ l := (List.mergeSort_perm l _).mem_iff
theorem srt_length (l : List (Int × Int)) : (srt l).length = l.length := List.length_mergeSort l
theorem mem_oth {l : List (Int × Int)} {x y : Int × Int} : y ∈ oth l x ↔ y ∈ l ∧ y ≠ x := by
  unfold oth
  rw [List.mem_filter]
  simp
theorem srt_oth {l : List (Int × Int)} (h : Srt l) (x : Int × Int) : Srt (oth l x) := List.Pairwise.filter _ h
/-- Right pairs: each is right, and they are sorted. -/
theorem apk_iff (l : List (Int × Int)) : apk l = true ↔ (∀ x ∈ l, okr x = true) ∧ Srt l := by
  constructor
  · intro h
    have ho := apk_oka h
    have hg : ∀ j (hj : j < l.length), l.getD j (0, 0) = l[j] := fun j hj => by rw [List.getD_eq_getElem?_getD, List.getElem?_eq_getElem hj]; rfl
    refine ⟨fun x hx => ?_, ?_⟩
    · obtain ⟨j, hj, rfl⟩ := List.getElem_of_mem hx
      have h0 := ho j hj
      unfold apa at h0
      simp only [Bool.and_eq_true] at h0
      rw [hg j hj] at h0
      exact h0.1
    · have hadj : ∀ j (hj : j + 1 < l.length), lsp l[j] l[j + 1] = true := fun j hj => by
        have h0 := ho (j + 1) hj
        unfold apa at h0
        simp only [Bool.and_eq_true, Nat.add_sub_cancel] at h0
        have h2 : lsp (l.getD j (0, 0)) (l.getD (j + 1) (0, 0)) = true := by simpa using h0.2
        rw [hg j (by omega), hg (j + 1) hj] at h2
        exact h2
      unfold Srt
      rw [List.pairwise_iff_getElem]
      intro i j hi hj hij
      obtain ⟨d, rfl⟩ : ∃ d, j = i + 1 + d := ⟨j - i - 1, by omega⟩
      clear hij
      induction d with
      | zero => exact hadj i hj
      | succ d ih => exact lsp_tr (ih (by omega)) (hadj (i + 1 + d) hj)
  · rintro ⟨h1, h2⟩
    refine oka_all (fun j hj => ?_)
    have hg : ∀ j (hj : j < l.length), l.getD j (0, 0) = l[j] := fun j hj => by rw [List.getD_eq_getElem?_getD, List.getElem?_eq_getElem hj]; rfl
    unfold Srt at h2
    rw [List.pairwise_iff_getElem] at h2
    unfold apa
    rw [hg j hj, h1 _ (List.getElem_mem hj), Bool.true_and]
    cases j with
    | zero => rfl
    | succ j =>
      rw [Nat.add_sub_cancel, hg j (by omega), h2 j (j + 1) (by omega) hj (by omega)]
      simp

theorem talk_iff (a b : Int) : talk a b = true ↔ 0 ≤ a ∧ a < 16 ∧ 0 ≤ b ∧ b < 16 ∧ a ≠ b := by
  unfold talk site
  simp
  omega
theorem talk_comm (a b : Int) : talk a b = talk b a := by
  rw [Bool.eq_iff_iff, talk_iff, talk_iff]
  omega
theorem btw_comm (a b : Int) : btw a b = btw b a := by
  unfold btw
  rw [Int.min_comm, Int.max_comm]
theorem okr_btw {a b : Int} (h : talk a b = true) : okr (btw a b) = true := by
  rw [talk_iff] at h
  unfold okr btw site
  simp
  omega
theorem btw_eq {a b c d : Int} (h : btw a b = btw c d) : (a = c ∧ b = d) ∨ (a = d ∧ b = c) := by
  unfold btw at h
  simp only [Prod.mk.injEq] at h
  omega
/-- The pairs behind a cut. -/
theorem nodup_cut {l : List (Int × Int)} (h : Srt l) (x : Int × Int) : (oth l x ++ [x]).Nodup := by
  rw [List.nodup_append]
  refine ⟨srt_nodup (srt_oth h x), by simp, fun y hy z hz => ?_⟩
  rw [List.mem_singleton] at hz
  subst hz
  exact (mem_oth.1 hy).2
theorem ctl_srt {l : List (Int × Int)} (h : Srt l) (x : Int × Int) (on : Bool) : Srt (ctl l x on) := by
  unfold ctl
  cases on
  · exact srt_oth h x
  · exact srt_srt (nodup_cut h x)
theorem mem_ctl {l : List (Int × Int)} {x y : Int × Int} {on : Bool} : y ∈ ctl l x on ↔ (y ∈ l ∧ y ≠ x) ∨ (y = x ∧ on = true) := by
  unfold ctl
  cases on
  · simp [mem_oth]
  · simp [mem_srt, mem_oth]
theorem ctl_apk {l : List (Int × Int)} {x : Int × Int} {on : Bool} (h : apk l = true) (hx : okr x = true) : apk (ctl l x on) = true := by
  rw [apk_iff] at h ⊢
  refine ⟨fun y hy => ?_, ctl_srt h.2 x on⟩
  rcases mem_ctl.1 hy with hy | hy
  · exact h.1 y hy.1
  · rw [hy.1]; exact hx
theorem ctl_twice {l : List (Int × Int)} (h : Srt l) (x : Int × Int) (on on2 : Bool) : ctl (ctl l x on) x on2 = ctl l x on2 :=
  srt_uniq (ctl_srt (ctl_srt h x on) x on2) (ctl_srt h x on2) (fun y => by
    rw [mem_ctl, mem_ctl, mem_ctl]
    constructor
    · rintro (⟨(⟨h1, h2⟩ | ⟨h1, _⟩), h3⟩ | h1)
      · exact .inl ⟨h1, h3⟩
      · exact absurd h1 h3
      · exact .inr h1
    · rintro (⟨h1, h2⟩ | h1)
      · exact .inl ⟨.inl ⟨h1, h2⟩, h2⟩
      · exact .inr h1)
theorem ctl_len (l : List (Int × Int)) (x : Int × Int) : (ctl l x true).length = (ctl l x false).length + 1 := by
  show (srt (oth l x ++ [x])).length = (oth l x).length + 1
  rw [srt_length, List.length_append]
  rfl
theorem ct_ok {n : Nt} {a b : Int} {on : Bool} (hv : vld n = true) (ht : talk a b = true) : ct n a b on = ⟨n.q, ctl n.ap (btw a b) on⟩ ∧ cte n a b = 0 ∧ vld ⟨n.q, ctl n.ap (btw a b) on⟩ = true := by
  refine ⟨by unfold ct; rw [hv, ht]; rfl, by unfold cte; rw [hv, ht]; rfl, ?_⟩
  rw [vld_iff] at hv ⊢
  exact ⟨hv.1, hv.2.1, ctl_apk hv.2.2 (okr_btw ht)⟩
theorem vld_srt {n : Nt} (hv : vld n = true) : Srt n.ap := ((apk_iff _).1 ((vld_iff _).1 hv).2.2).2
end Go.Proofs.Ytojijebmipgeeaa
