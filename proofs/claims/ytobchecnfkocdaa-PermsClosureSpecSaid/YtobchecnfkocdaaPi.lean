/- Permutations as lists of numbers: Compose, Inverse, Identity of them. -/
import Derived.Test.YtobchecnfkocdaaOrd
import Derived.Test.YtobchecnfkocdaaEl
namespace Go.Proofs.Ytobchecnfkocdaa
open Go.RowKit
set_option linter.unusedVariables false
set_option linter.unusedSimpArgs false

theorem ints_getD (p : List Nat) (i : Nat) : (ints p).getD i 0 = ((p.getD i 0 : Nat) : Int) := by
  rw [List.getD_eq_getElem?_getD, List.getD_eq_getElem?_getD]
  unfold ints
  rw [List.getElem?_map]
  cases p[i]? <;> rfl
theorem ints_inj {p q : List Nat} (h : ints p = ints q) : p = q := by
  refine ext_getD (by rw [← ints_length, h, ints_length]) (fun i _ => ?_)
  have := ints_getD p i
  rw [h, ints_getD] at this
  omega
theorem isr_ints {l : List Int} {n : Nat} (h : isr l (n : Int) = true) : ∃ p, l = ints p ∧ Pm n p := by
  unfold isr at h
  rw [Bool.and_eq_true, decide_eq_true_eq, Int.toNat_natCast] at h
  obtain ⟨h1, h2⟩ := okl_iff.1 h.2
  have he : l = ints (l.map Int.toNat) := by
    unfold ints
    rw [List.map_map]
    refine (List.map_id l).symm.trans (List.map_congr_left fun x hx => ?_)
    have := h1 x hx
    show x = ((x.toNat : Nat) : Int)
    omega
  refine ⟨l.map Int.toNat, he, by rw [List.length_map]; omega, fun x hx => ?_, ?_⟩
  · obtain ⟨y, hy, rfl⟩ := List.mem_map.1 hx
    have := h1 y hy
    omega
  · unfold List.Nodup
    rw [List.pairwise_map]
    refine List.Pairwise.imp_of_mem (fun {a b} ha hb hab e => ?_) h2
    have h3 := h1 a ha
    have h4 := h1 b hb
    omega
theorem okl_ints {p : List Nat} {n : Nat} (h : Pm n p) : okl (ints p) n = true := by
  refine okl_iff.2 ⟨fun x hx => ?_, ?_⟩
  · obtain ⟨y, hy, rfl⟩ := List.mem_map.1 hx
    have := h.2.1 y hy
    omega
  · unfold ints List.Nodup
    rw [List.pairwise_map]
    exact List.Pairwise.imp (fun {a b} hab e => hab (by omega)) h.2.2
theorem isr_pm {p : List Nat} {n : Nat} (h : Pm n p) : isr (ints p) (n : Int) = true := by
  unfold isr
  rw [Int.toNat_natCast, okl_ints h, decide_eq_true (by rw [ints_length, h.1])]
  rfl
theorem isp_pm {p : List Nat} {n : Nat} (h : Pm n p) (hn : n ≤ 256) : isp (ints p) (n : Int) = true := by
  rw [isp_isr, isr_pm h, decide_eq_true (by omega)]
  rfl
theorem cmi_ints (a b : List Nat) : cmi (ints a) (ints b) = ints (mu a b) := by
  unfold cmi ints mu
  rw [List.map_map, List.map_map]
  refine List.map_congr_left fun x _ => ?_
  show (ints a).getD ((x : Int)).toNat 0 = _
  rw [Int.toNat_natCast, ints_getD]
  rfl
theorem cm_pm {n : Nat} {a b : List Nat} (ha : Pm n a) (hb : Pm n b) (hn : n ≤ 256) : cme (ints a) (ints b) = 0 ∧ cmr (ints a) (ints b) = ints (mu a b) := by
  have := cme_ok (a := ints a) (b := ints b) (by rw [ints_length, hb.1]; exact isp_pm ha hn) (by rw [ints_length, ha.1]; exact isp_pm hb hn)
  rw [cmi_ints] at this
  exact this
theorem vf_ints {n : Nat} {a : List Nat} (ha : Pm n a) {i : Nat} (hi : i < n) : ∀ j, j ≤ n → i < j → vf (ints a) j (a.getD i 0) = (i : Int)
  | 0, _, h => by omega
  | j + 1, hj, h => by
    unfold vf
    rw [ints_getD]
    by_cases e : j = i
    · subst e
      rw [if_pos rfl]
    · rw [if_neg (fun h2 => e (ha.inj (by omega) hi (by omega))), vf_ints ha hi j (by omega) (by omega)]
theorem ivi_ints {n : Nat} {a : List Nat} (ha : Pm n a) : ivi (ints a) = ints (vi a) := by
  apply List.ext_getElem?
  intro y
  unfold ivi
  rw [ints_length, ha.1]
  by_cases hy : y < n
  · rw [ris_at _ hy]
    obtain ⟨i, hi, rfl⟩ := ha.sur hy
    rw [vf_ints ha hi n (Nat.le_refl _) hi]
    have h1 := vi_at ha hi
    rw [getD_get (by rw [vi_length ha]; exact hy)] at h1
    rw [ints_at (List.getElem?_eq_getElem (by rw [vi_length ha]; exact hy)), h1]
  · rw [List.getElem?_eq_none (by rw [ris_length]; omega), List.getElem?_eq_none (by rw [ints_length, vi_length ha]; omega)]
theorem iv_pm {n : Nat} {a : List Nat} (ha : Pm n a) (hn : n ≤ 256) : ive (ints a) = 0 ∧ ivr (ints a) = ints (vi a) := by
  have := ive_ok (l := ints a) (by rw [ints_length, ha.1]; exact isp_pm ha hn)
  rw [ivi_ints ha] at this
  exact this
/-- A list of n numbers, and no error. -/
def PmP (n : Nat) (z : List Nat) (w : World) (e : Ending) (w' : World) : Prop := ∃ A c, e = .returned (.tuple #[.slice A n c, .int .i64 0]) ∧ Si w' A (ints z) c ∧ Below w.heap.size w w'
theorem compose_pm {n : Nat} {a b : List Nat} (ha : Pm n a) (hb : Pm n b) (hn : n ≤ 256) {A B : Option Addr} {c d : Nat} {w : World} (hA : Si w A (ints a) c) (hB : Si w B (ints b) d) :
    Calls Try.prog 11 #[.slice A n c, .slice B n d] w (PmP n (mu a b) w) := by
  have h := compose_any A c (ints a) B d (ints b) w hA hB
  rw [(cm_pm ha hb hn).1, (cm_pm ha hb hn).2, ints_length, ints_length, ha.1, hb.1] at h
  refine h.mono fun e w' ⟨A', c', h1, h2, h3⟩ => ⟨A', c', ?_, h2, h3⟩
  rw [h1, ints_length, mu_length, hb.1]
theorem inverse_pm {n : Nat} {a : List Nat} (ha : Pm n a) (hn : n ≤ 256) {A : Option Addr} {c : Nat} {w : World} (hA : Si w A (ints a) c) :
    Calls Try.prog 13 #[.slice A n c] w (PmP n (vi a) w) := by
  have h := inverse_any A c (ints a) w hA
  rw [(iv_pm ha hn).1, (iv_pm ha hn).2, ints_length, ha.1] at h
  refine h.mono fun e w' ⟨A', c', h1, h2, h3⟩ => ⟨A', c', ?_, h2, h3⟩
  rw [h1, ints_length, vi_length ha]
theorem identity_pm (n : Nat) (hn : n ≤ 256) (w : World) : Calls Try.prog 25 #[.int .i64 (n : Int)] w (fun e w' => ∃ A c, e = .returned (.slice A n c) ∧ Si w' A (ints (List.range n)) c ∧ Below w.heap.size w w') := by
  have h := identity_any (n : Int) w (by omega)
  refine h.mono fun e w' ⟨A', c', h1, h2, h3⟩ => ⟨A', c', ?_, ?_, h3⟩
  · rw [h1, Int.toNat_natCast, ris_length]
  · rw [Int.toNat_natCast] at h2
    exact h2
theorem same_pm {n : Nat} {a : List Nat} (ha : a.length = n) {A B : Option Addr} {c d : Nat} {w : World} (hA : Si w A (ints a) c) (hB : Si w B (ints a) d) :
    Calls Try.prog 17 #[.slice A n c, .slice B n d] w (fun e w' => e = .returned (.bool true) ∧ Below w.heap.size w w') := by
  have h := same_any A c (ints a) B d (ints a) w hA hB
  rw [ints_length, ha, decide_eq_true rfl] at h
  exact h.mono fun e w' ⟨h1, m, h2⟩ => ⟨h1, by rw [h2]; exact ⟨rfl, rfl, rfl, Nat.le_refl _, fun _ _ => rfl⟩⟩
end Go.Proofs.Ytobchecnfkocdaa
