/- Links in plain words: what stays valid. -/
import Derived.Test.YtojijebmipgeeaaCt
namespace Go.Proofs.Ytojijebmipgeeaa
set_option linter.unusedVariables false

theorem vld_iff (n : Nt) : vld n = true ↔ n.q.length ≤ 4096 ∧ (∀ p ∈ n.q, okp p = true) ∧ apk n.ap = true := by
  unfold vld
  simp only [Bool.and_eq_true, decide_eq_true_eq, List.all_eq_true]
  exact ⟨fun h => ⟨h.1.1, h.1.2, h.2⟩, fun h => ⟨⟨h.1, h.2.1⟩, h.2.2⟩⟩
theorem vld_wo {n : Nt} (h : vld n = true) (i : Nat) : vld (wo n i) = true := by
  rw [vld_iff] at h ⊢
  refine ⟨?_, fun p hp => ?_, h.2.2⟩
  · show (n.q.take i ++ n.q.drop (i + 1)).length ≤ 4096
    rw [List.length_append, List.length_take, List.length_drop]
    omega
  · rcases List.mem_append.1 hp with hp | hp
    · exact h.2.1 p (List.mem_of_mem_take hp)
    · exact h.2.1 p (List.mem_of_mem_drop hp)
theorem vld_wi {n : Nt} {p : Pk} (h : vld n = true) (hp : okp p = true) (hl : n.q.length < 4096) : vld (wi n p) = true := by
  rw [vld_iff] at h ⊢
  refine ⟨?_, fun r hr => ?_, h.2.2⟩
  · show (n.q ++ [p]).length ≤ 4096
    rw [List.length_append]
    simp
    omega
  · rcases List.mem_append.1 hr with hr | hr
    · exact h.2.1 r hr
    · rw [List.mem_singleton.1 hr]
      exact hp
theorem can_iff (n : Nt) (i : Int) : can n i = true ↔ vld n = true ∧ 0 ≤ i ∧ i < (n.q.length : Int) := by
  unfold can inq
  simp
theorem hle_ok {n : Nt} {i : Int} (h : can n i = true) : hle n i = 0 := by
  rcases hle_cases n i with ⟨_, h2⟩ | ⟨h1, _⟩
  · exact h2
  · rw [h] at h1
    cases h1
theorem ati_mem {n : Nt} {i : Nat} (h : i < n.q.length) : n.q[i]? = some (ati n (i : Int)) := by
  unfold ati
  rw [Int.toNat_natCast, List.getD_eq_getElem?_getD, List.getElem?_eq_getElem h]
  rfl
theorem ati_ok {n : Nt} {i : Nat} (hv : vld n = true) (h : i < n.q.length) : okp (ati n (i : Int)) = true := ((vld_iff n).1 hv).2.1 _ (List.mem_of_getElem? (ati_mem h))
theorem few_le {n : Nt} (h : few n = true) : n.q.length ≤ 40 ∧ n.ap.length ≤ 40 := by
  unfold few at h
  simpa using h
theorem los_ok {n : Nt} {i : Nat} (h : can n (i : Int) = true) : los n (i : Int) = wo n i := by
  unfold los
  rw [h]
  rfl
theorem wt_ok {n : Nt} {p : Pk} (h : n.q.length < 4096) : wt n p = wi n p ∧ wte n = 0 := wt_room (by omega)
theorem sn_ok {n : Nt} {p : Pk} (hv : vld n = true) (hp : okp p = true) (h : n.q.length < 4096) : sn n p = wi n p ∧ sne n p = 0 := by
  obtain ⟨h1, h2⟩ := wt_ok (p := p) h
  unfold sn sne
  rw [hv, hp, h1, h2]
  exact ⟨rfl, rfl⟩
theorem rp_ok {n : Nt} {i : Nat} (hc : can n (i : Int) = true) (h : n.q.length < 4096) : rp n (i : Int) = wi n (ati n (i : Int)) ∧ rpe n (i : Int) = 0 := by
  obtain ⟨h1, h2⟩ := wt_ok (p := ati n (i : Int)) h
  unfold rp rpe
  rw [hc, h1, h2]
  exact ⟨rfl, rfl⟩
/-- A packet that is repeated and lost at its old place is only later. -/
theorem wo_wi {n : Nt} {i : Nat} (p : Pk) (h : i < n.q.length) : wo (wi n p) i = wi (wo n i) p := by
  unfold wo wi
  simp only
  rw [List.take_append_of_le_length (by omega), List.drop_append_of_le_length (by omega), List.append_assoc]
theorem wo_len {n : Nt} {i : Nat} (h : i < n.q.length) : (wo n i).q.length + 1 = n.q.length := by
  show (n.q.take i ++ n.q.drop (i + 1)).length + 1 = _
  rw [List.length_append, List.length_take, List.length_drop]
  omega
theorem wi_len (n : Nt) (p : Pk) : (wi n p).q.length = n.q.length + 1 := by
  show (n.q ++ [p]).length = _
  rw [List.length_append]
  rfl
theorem lost_plain {n : Nt} {i : Nat} (hf : few n = true) (hv : vld n = true) (hi : i < n.q.length) :
    can n (i : Int) = true ∧ hle n (i : Int) = 0 ∧ los n (i : Int) = wo n i ∧ rp n (i : Int) = wi n (ati n (i : Int)) ∧ rpe n (i : Int) = 0 ∧ los (wi n (ati n (i : Int))) (i : Int) = wi (wo n i) (ati n (i : Int)) ∧ hle (wi n (ati n (i : Int))) (i : Int) = 0 ∧
    sn (wo n i) (ati n (i : Int)) = wi (wo n i) (ati n (i : Int)) ∧ sne (wo n i) (ati n (i : Int)) = 0 := by
  have hl := (few_le hf).1
  have hc : can n (i : Int) = true := (can_iff n _).2 ⟨hv, by omega, by omega⟩
  have hp := ati_ok hv hi
  have hv2 := vld_wi (p := ati n (i : Int)) hv hp (by omega)
  have hc2 : can (wi n (ati n (i : Int))) (i : Int) = true := (can_iff _ _).2 ⟨hv2, by omega, by rw [wi_len]; omega⟩
  have h1 := rp_ok hc (by omega)
  have h2 := sn_ok (vld_wo hv i) hp (by have := wo_len hi; omega)
  refine ⟨hc, hle_ok hc, los_ok hc, h1.1, h1.2, ?_, hle_ok hc2, h2.1, h2.2⟩
  rw [los_ok hc2, wo_wi _ hi]
end Go.Proofs.Ytojijebmipgeeaa
