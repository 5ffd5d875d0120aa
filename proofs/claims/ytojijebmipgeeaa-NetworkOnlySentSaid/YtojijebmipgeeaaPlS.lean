/- What a move does to links, in plain words. -/
import Derived.Test.YtojijebmipgeeaaHap
namespace Go.Proofs.Ytojijebmipgeeaa
set_option linter.unusedVariables false

theorem six (m : Mv) : m.k.toNat % 6 = 0 ∨ m.k.toNat % 6 = 1 ∨ m.k.toNat % 6 = 2 ∨ m.k.toNat % 6 = 3 ∨ m.k.toNat % 6 = 4 ∨ m.k.toNat % 6 = 5 := by
  have := Nat.mod_lt m.k.toNat (show 0 < 6 by decide)
  omega
theorem h0 {n : Nt} {m : Mv} (h : m.k.toNat % 6 = 0) : hx n m = sn n (mpk m) ∧ hp n m = pk0 ∧ he n m = sne n (mpk m) := by unfold hx hp he; rw [h]; exact ⟨rfl, rfl, rfl⟩
theorem h1 {n : Nt} {m : Mv} (h : m.k.toNat % 6 = 1) : hx n m = los n (mat n m : Int) ∧ hp n m = dlp n (mat n m : Int) ∧ he n m = hle n (mat n m : Int) := by unfold hx hp he; rw [h]; exact ⟨rfl, rfl, rfl⟩
theorem h2 {n : Nt} {m : Mv} (h : m.k.toNat % 6 = 2) : hx n m = los n (mat n m : Int) ∧ hp n m = pk0 ∧ he n m = hle n (mat n m : Int) := by unfold hx hp he; rw [h]; exact ⟨rfl, rfl, rfl⟩
theorem h3 {n : Nt} {m : Mv} (h : m.k.toNat % 6 = 3) : hx n m = rp n (mat n m : Int) ∧ hp n m = pk0 ∧ he n m = rpe n (mat n m : Int) := by unfold hx hp he; rw [h]; exact ⟨rfl, rfl, rfl⟩
theorem h4 {n : Nt} {m : Mv} (h : m.k.toNat % 6 = 4) : hx n m = ct n (mpk m).fr (mpk m).to true ∧ hp n m = pk0 ∧ he n m = cte n (mpk m).fr (mpk m).to := by unfold hx hp he; rw [h]; exact ⟨rfl, rfl, rfl⟩
theorem h5 {n : Nt} {m : Mv} (h : m.k.toNat % 6 = 5) : hx n m = ct n (mpk m).fr (mpk m).to false ∧ hp n m = pk0 ∧ he n m = cte n (mpk m).fr (mpk m).to := by unfold hx hp he; rw [h]; exact ⟨rfl, rfl, rfl⟩

theorem wte_zero {n : Nt} (h : wte n = 0) : n.q.length ≠ 4096 := fun e => by rw [(wt_full (p := pk0) e).2] at h; cases h
theorem sne_zero {n : Nt} {p : Pk} (h : sne n p = 0) : vld n = true ∧ okp p = true ∧ n.q.length ≠ 4096 ∧ sn n p = wi n p := by
  unfold sne at h
  split at h
  case isTrue hc =>
    have hq := wte_zero h
    rw [Bool.and_eq_true] at hc
    refine ⟨hc.1, hc.2, hq, ?_⟩
    unfold sn
    rw [hc.1, hc.2]
    exact (wt_room hq).1
  case isFalse => cases h
theorem sne_err {n : Nt} {p : Pk} (h : sne n p ≠ 0) : sn n p = nt0 := by
  unfold sne at h
  unfold sn
  split at h
  case isTrue hc =>
    rw [if_pos hc]
    by_cases hq : n.q.length = 4096
    · exact (wt_full hq).1
    · exact absurd (wt_room (p := p) hq).2 h
  case isFalse hc => rw [if_neg hc]
theorem hle_can {n : Nt} {i : Int} (h : hle n i = 0) : can n i = true := by
  rcases hle_cases n i with ⟨h1, _⟩ | ⟨_, h2 | h2⟩
  · exact h1
  · rw [h2] at h; cases h
  · rw [h2] at h; cases h
theorem los_err {n : Nt} {i : Int} (h : hle n i ≠ 0) : los n i = nt0 := by
  rcases hle_cases n i with ⟨_, h1⟩ | ⟨h1, _⟩
  · exact absurd h1 h
  · unfold los; rw [h1]; rfl
theorem rpe_zero {n : Nt} {i : Int} (h : rpe n i = 0) : can n i = true ∧ n.q.length ≠ 4096 ∧ rp n i = wi n (ati n i) := by
  unfold rpe at h
  split at h
  case isTrue hc =>
    have hq := wte_zero h
    refine ⟨hc, hq, ?_⟩
    unfold rp
    rw [hc]
    exact (wt_room hq).1
  case isFalse hc => exact absurd (hle_can h) hc
theorem rpe_err {n : Nt} {i : Int} (h : rpe n i ≠ 0) : rp n i = nt0 := by
  unfold rpe at h
  unfold rp
  split at h
  case isTrue hc =>
    rw [if_pos hc]
    by_cases hq : n.q.length = 4096
    · exact (wt_full hq).1
    · exact absurd (wt_room (p := pk0) hq).2 h
  case isFalse hc => rw [if_neg hc]
theorem cte_zero {n : Nt} {a b : Int} (h : cte n a b = 0) : vld n = true ∧ talk a b = true := by
  unfold cte at h
  split at h
  case isTrue hv =>
    split at h
    case isTrue ht => exact ⟨hv, ht⟩
    case isFalse => cases h
  case isFalse => cases h
theorem cte_err {n : Nt} {a b : Int} {on : Bool} (h : cte n a b ≠ 0) : ct n a b on = nt0 := by
  unfold cte at h
  unfold ct
  split at h
  case isTrue hv =>
    split at h
    case isTrue ht => exact absurd rfl h
    case isFalse ht =>
      have : talk a b = false := by simpa using ht
      rw [hv, this]; rfl
  case isFalse hv =>
    have : vld n = false := by simpa using hv
    rw [this]; rfl

/-- Where a move fails, no links come back. -/
theorem hx_err {n : Nt} {m : Mv} (h : he n m ≠ 0) : hx n m = nt0 := by
  rcases six m with k | k | k | k | k | k
  · rw [(h0 k).2.2] at h; rw [(h0 k).1]; exact sne_err h
  · rw [(h1 k).2.2] at h; rw [(h1 k).1]; exact los_err h
  · rw [(h2 k).2.2] at h; rw [(h2 k).1]; exact los_err h
  · rw [(h3 k).2.2] at h; rw [(h3 k).1]; exact rpe_err h
  · rw [(h4 k).2.2] at h; rw [(h4 k).1]; exact cte_err h
  · rw [(h5 k).2.2] at h; rw [(h5 k).1]; exact cte_err h
theorem vld_len {n : Nt} (hv : vld n = true) : n.q.length ≤ 4096 := ((vld_iff n).1 hv).1
theorem ati_in {n : Nt} {i : Int} (h : can n i = true) : ati n i ∈ n.q := by
  obtain ⟨_, h1, h2⟩ := (can_iff n i).1 h
  obtain ⟨j, rfl⟩ : ∃ j : Nat, i = (j : Int) := ⟨i.toNat, by omega⟩
  exact List.mem_of_getElem? (ati_mem (by omega))
theorem hx_vld {n : Nt} {m : Mv} (hv : vld n = true) (h : he n m = 0) : vld (hx n m) = true := by
  have hl := vld_len hv
  rcases six m with k | k | k | k | k | k
  · rw [(h0 k).2.2] at h; rw [(h0 k).1]
    obtain ⟨_, hp, hq, e⟩ := sne_zero h
    rw [e]; exact vld_wi hv hp (by omega)
  · rw [(h1 k).1]; exact vld_los hv _
  · rw [(h2 k).1]; exact vld_los hv _
  · rw [(h3 k).2.2] at h; rw [(h3 k).1]
    obtain ⟨hc, hq, e⟩ := rpe_zero h
    rw [e]; exact vld_wi hv (((vld_iff n).1 hv).2.1 _ (ati_in hc)) (by omega)
  · rw [(h4 k).2.2] at h; rw [(h4 k).1]
    have := ct_ok (on := true) hv (cte_zero h).2
    rw [this.1]; exact this.2.2
  · rw [(h5 k).2.2] at h; rw [(h5 k).1]
    have := ct_ok (on := false) hv (cte_zero h).2
    rw [this.1]; exact this.2.2
theorem los_q {n : Nt} {i : Int} : (∀ p ∈ (los n i).q, p ∈ n.q) ∧ ((los n i).q.length ≤ n.q.length) ∧ (n.ap = [] → (los n i).ap = []) := by
  unfold los
  split
  · refine ⟨fun p hp => ?_, ?_, fun h => h⟩
    · rcases List.mem_append.1 hp with h | h
      · exact List.mem_of_mem_take h
      · exact List.mem_of_mem_drop h
    · show (n.q.take i.toNat ++ n.q.drop (i.toNat + 1)).length ≤ n.q.length
      rw [List.length_append, List.length_take, List.length_drop]
      omega
  · exact ⟨(fun p hp => by cases hp), Nat.zero_le _, (fun _ => rfl)⟩
/-- What lies in the queue behind a move, its length, and the cut links. -/
theorem hx_q {n : Nt} {m : Mv} (hv : vld n = true) (h : he n m = 0) :
    (∀ p ∈ (hx n m).q, p ∈ n.q ∨ (m.k.toNat % 6 = 0 ∧ p = mpk m)) ∧ (hx n m).q.length ≤ n.q.length + 1 ∧ (m.k.toNat % 6 ≠ 4 → n.ap = [] → (hx n m).ap = []) := by
  rcases six m with k | k | k | k | k | k
  · rw [(h0 k).2.2] at h; rw [(h0 k).1, (sne_zero h).2.2.2]
    refine ⟨fun p hp => ?_, by unfold wi; simp, fun _ h => h⟩
    rcases List.mem_append.1 hp with hp | hp
    · exact .inl hp
    · exact .inr ⟨k, List.mem_singleton.1 hp⟩
  · rw [(h1 k).1]; exact ⟨fun p hp => .inl (los_q.1 p hp), Nat.le_succ_of_le los_q.2.1, fun _ h => los_q.2.2 h⟩
  · rw [(h2 k).1]; exact ⟨fun p hp => .inl (los_q.1 p hp), Nat.le_succ_of_le los_q.2.1, fun _ h => los_q.2.2 h⟩
  · rw [(h3 k).2.2] at h
    obtain ⟨hc, hq, e⟩ := rpe_zero h
    rw [(h3 k).1, e]
    refine ⟨fun p hp => ?_, by unfold wi; simp, fun _ h => h⟩
    rcases List.mem_append.1 hp with hp | hp
    · exact .inl hp
    · rw [List.mem_singleton.1 hp]; exact .inl (ati_in hc)
  · rw [(h4 k).2.2] at h; rw [(h4 k).1, (ct_ok (on := true) hv (cte_zero h).2).1]
    exact ⟨fun p hp => .inl hp, Nat.le_succ _, fun hk => absurd k hk⟩
  · rw [(h5 k).2.2] at h; rw [(h5 k).1, (ct_ok (on := false) hv (cte_zero h).2).1]
    refine ⟨fun p hp => .inl hp, Nat.le_succ _, fun _ h => ?_⟩
    show ctl n.ap _ false = []
    rw [h]; rfl
theorem hx_send {n : Nt} {m : Mv} (k : m.k.toNat % 6 = 0) (h : he n m = 0) : hx n m = wi n (mpk m) := by
  rw [(h0 k).2.2] at h
  rw [(h0 k).1, (sne_zero h).2.2.2]
/-- A delivered packet lay in the queue, or it is a zero packet and a link was cut. -/
theorem hp_in {n : Nt} {m : Mv} (k : m.k.toNat % 6 = 1) (h : he n m = 0) : hp n m ∈ n.q ∨ (hp n m = pk0 ∧ n.ap ≠ []) := by
  rw [(h1 k).2.2] at h
  have hc := hle_can h
  rw [(h1 k).2.1]
  unfold dlp
  rw [hc, if_pos rfl]
  split
  case isTrue hcd =>
    refine .inr ⟨rfl, fun e => ?_⟩
    unfold cutd at hcd
    rw [e] at hcd
    cases hcd
  case isFalse => exact .inl (ati_in hc)
end Go.Proofs.Ytojijebmipgeeaa
