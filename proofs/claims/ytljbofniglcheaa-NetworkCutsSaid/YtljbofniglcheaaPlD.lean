/- Cuts in plain words: what is delivered. -/
import Derived.Test.YtljbofniglcheaaPlC
namespace Go.Proofs.Ytljbofniglcheaa
set_option linter.unusedVariables false

def cutn (n : Nt) (x : Int × Int) (on : Bool) : Nt := ⟨n.q, ctl n.ap x on⟩
def btn (q : Pk) (a b : Int) : Bool := (q.fr == a && q.to == b) || (q.fr == b && q.to == a)
theorem cutn_vld {n : Nt} {a b : Int} (on : Bool) (hv : vld n = true) (ht : talk a b = true) : vld (cutn n (btw a b) on) = true := (ct_ok (on := on) hv ht).2.2
theorem cutn_twice {n : Nt} (x : Int × Int) (on on2 : Bool) (hv : vld n = true) : cutn (cutn n x on) x on2 = cutn n x on2 := by
  unfold cutn
  rw [ctl_twice (vld_srt hv)]
theorem cuts_plain {n : Nt} {a b : Int} (hv : vld n = true) (ht : talk a b = true) :
    (ct n a b true = cutn n (btw a b) true ∧ cte n a b = 0) ∧ (ct n b a true = cutn n (btw a b) true ∧ cte n b a = 0) ∧ (ct (cutn n (btw a b) true) a b true = cutn n (btw a b) true ∧ cte (cutn n (btw a b) true) a b = 0) ∧
    (ct (cutn n (btw a b) true) b a false = cutn n (btw a b) false ∧ cte (cutn n (btw a b) true) b a = 0) ∧ (ct n a b false = cutn n (btw a b) false ∧ cte n a b = 0) := by
  have ht2 : talk b a = true := by rw [talk_comm]; exact ht
  have hv2 := cutn_vld true hv ht
  have h1 := ct_ok (on := true) hv ht
  have h2 := ct_ok (on := true) hv ht2
  have h3 := ct_ok (on := true) hv2 ht
  have h4 := ct_ok (on := false) hv2 ht2
  have h5 := ct_ok (on := false) hv ht
  refine ⟨⟨h1.1, h1.2.1⟩, ⟨?_, h2.2.1⟩, ⟨?_, h3.2.1⟩, ⟨?_, h4.2.1⟩, ⟨h5.1, h5.2.1⟩⟩
  · rw [h2.1, btw_comm]; rfl
  · rw [h3.1]; exact cutn_twice _ _ _ hv
  · rw [h4.1, btw_comm b a]; exact cutn_twice _ _ _ hv
theorem cutn_len (n : Nt) (x : Int × Int) : (cutn n x true).ap.length = (cutn n x false).ap.length + 1 ∧ (cutn n x true).q.length = n.q.length ∧ (cutn n x false).q.length = n.q.length := ⟨ctl_len _ _, rfl, rfl⟩
theorem cte_bad {n : Nt} {a b : Int} (hv : vld n = true) (ht : talk a b = false) : ct n a b true = nt0 ∧ cte n a b = 1 := by
  unfold ct cte
  rw [hv, ht]
  exact ⟨rfl, rfl⟩
theorem cutd_mem (n : Nt) (p : Pk) : cutd n p = true ↔ btw p.fr p.to ∈ n.ap := by
  unfold cutd
  rw [List.any_eq_true]
  constructor
  · rintro ⟨y, hy, he⟩
    rw [beq_iff_eq] at he
    rw [he]; exact hy
  · intro h
    exact ⟨_, h, by simp⟩
theorem dlp_cut {n : Nt} {a b : Int} {i : Nat} (on : Bool) (hv : vld n = true) (ht : talk a b = true) (hi : i < n.q.length) :
    hle (cutn n (btw a b) on) (i : Int) = 0 ∧ dlp (cutn n (btw a b) on) (i : Int) = (if cutd (cutn n (btw a b) on) (ati n (i : Int)) then pk0 else ati n (i : Int)) := by
  have hc : can (cutn n (btw a b) on) (i : Int) = true := (can_iff _ _).2 ⟨cutn_vld on hv ht, by omega, by show (i : Int) < (n.q.length : Int); omega⟩
  refine ⟨hle_ok hc, ?_⟩
  unfold dlp
  rw [hc]
  rfl
theorem okp_ne {p : Pk} (h : okp p = true) : spk p pk0 = false := by
  unfold okp at h
  simp only [Bool.and_eq_true] at h
  have ht := (talk_iff _ _).1 h.1
  unfold spk pk0
  cases h1 : p.fr == 0 <;> cases h2 : p.to == 0 <;> simp
  rw [beq_iff_eq] at h1 h2
  omega
theorem cuts_dl {n : Nt} {a b : Int} {i : Nat} (hv : vld n = true) (ht : talk a b = true) (hi : i < n.q.length) :
    (btn (dlp (cutn n (btw a b) false) (i : Int)) a b = true → spk (dlp (cutn n (btw a b) true) (i : Int)) pk0 = true) ∧
    (btn (dlp (cutn n (btw a b) false) (i : Int)) a b = false → spk (dlp (cutn n (btw a b) true) (i : Int)) pk0 = spk (dlp (cutn n (btw a b) false) (i : Int)) pk0 ∧ spk (dlp (cutn n (btw a b) true) (i : Int)) (dlp (cutn n (btw a b) false) (i : Int)) = true) := by
  have hp := ati_ok hv hi
  have htt := (talk_iff _ _).1 ht
  rw [(dlp_cut true hv ht hi).2, (dlp_cut false hv ht hi).2]
  have hT := cutd_mem (cutn n (btw a b) true) (ati n (i : Int))
  have hF := cutd_mem (cutn n (btw a b) false) (ati n (i : Int))
  simp only [cutn, mem_ctl] at hT hF
  have hz : btn pk0 a b = false := by
    unfold btn pk0
    cases h1 : (0 : Int) == a <;> cases h2 : (0 : Int) == b <;> simp
    rw [beq_iff_eq] at h1 h2
    omega
  have hb : ∀ q : Pk, talk q.fr q.to = true → (btn q a b = true ↔ btw q.fr q.to = btw a b) := by
    intro q hq
    have hqq := (talk_iff _ _).1 hq
    unfold btn
    simp only [Bool.or_eq_true, Bool.and_eq_true, beq_iff_eq]
    constructor
    · rintro (⟨h1, h2⟩ | ⟨h1, h2⟩)
      · rw [h1, h2]
      · rw [h1, h2, btw_comm]
    · intro h
      exact btw_eq h
  have htp : talk (ati n (i : Int)).fr (ati n (i : Int)).to = true := by
    unfold okp at hp
    simp only [Bool.and_eq_true] at hp
    exact hp.1
  have hbp := hb _ htp
  by_cases hL : btw (ati n (i : Int)).fr (ati n (i : Int)).to = btw a b
  · have c1 : cutd (cutn n (btw a b) true) (ati n (i : Int)) = true := hT.2 (.inr ⟨hL, trivial⟩)
    have c2 : cutd (cutn n (btw a b) false) (ati n (i : Int)) = false := by
      rw [← Bool.not_eq_true]
      intro h
      rcases hF.1 h with h | h
      · exact h.2 hL
      · cases h.2
    rw [c1, c2]
    simp only [if_true, Bool.false_eq_true, if_false]
    refine ⟨fun _ => spk_refl _, fun h => ?_⟩
    rw [hbp.2 hL] at h
    cases h
  · have hn : btn (ati n (i : Int)) a b = false := by
      rw [← Bool.not_eq_true]
      intro h
      exact hL (hbp.1 h)
    by_cases hm : btw (ati n (i : Int)).fr (ati n (i : Int)).to ∈ n.ap
    · have c1 : cutd (cutn n (btw a b) true) (ati n (i : Int)) = true := hT.2 (.inl ⟨hm, hL⟩)
      have c2 : cutd (cutn n (btw a b) false) (ati n (i : Int)) = true := hF.2 (.inl ⟨hm, hL⟩)
      rw [c1, c2]
      simp only [if_true]
      refine ⟨fun h => ?_, fun _ => ⟨trivial, spk_refl _⟩⟩
      rw [hz] at h
      cases h
    · have c1 : cutd (cutn n (btw a b) true) (ati n (i : Int)) = false := by
        rw [← Bool.not_eq_true]
        intro h
        rcases hT.1 h with h | h
        · exact hm h.1
        · exact hL h.1
      have c2 : cutd (cutn n (btw a b) false) (ati n (i : Int)) = false := by
        rw [← Bool.not_eq_true]
        intro h
        rcases hF.1 h with h | h
        · exact hm h.1
        · exact hL h.1
      rw [c1, c2]
      simp only [Bool.false_eq_true, if_false]
      refine ⟨fun h => ?_, fun _ => ⟨trivial, spk_refl _⟩⟩
      rw [hn] at h
      cases h
end Go.Proofs.Ytljbofniglcheaa
