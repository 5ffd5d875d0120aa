/- What 'few' bounds. -/
import Derived.Test.YtkihimafeonibaaFew
import Derived.Test.YtkihimafeonibaaWrite
namespace Go.Proofs.Ytkihimafeonibaa
open Go.RowKit
set_option linter.unusedVariables false

theorem cntTo_mono {g : Nat → Int} {a : Int} (ha : 1 ≤ a) {n : Nat} (h : ∀ i, i < n → 1 ≤ g i) (hs : cntTo g a n ≤ 200) : ∀ j, j ≤ n → 1 ≤ cntTo g a j ∧ cntTo g a j ≤ 200 := by
  have key : ∀ m, m ≤ n → 1 ≤ cntTo g a m ∧ (cntTo g a m ≤ 200 → ∀ j, j ≤ m → 1 ≤ cntTo g a j ∧ cntTo g a j ≤ 200) := by
    intro m
    induction m with
    | zero =>
      intro _
      refine ⟨ha, fun h0 j hj => ?_⟩
      obtain rfl : j = 0 := by omega
      exact ⟨ha, h0⟩
    | succ m ih =>
      intro hm
      have := h m (by omega)
      have ⟨h1, h2⟩ := ih (by omega)
      have hstep : cntTo g a (m + 1) = if cntTo g a m ≤ 1000 then cntTo g a m + g m else cntTo g a m := rfl
      refine ⟨by rw [hstep]; split <;> omega, fun hle j hj => ?_⟩
      have hle2 : cntTo g a m ≤ 200 := by rw [hstep] at hle; split at hle <;> omega
      by_cases e : j = m + 1
      · subst e
        exact ⟨by rw [hstep]; split <;> omega, hle⟩
      · exact h2 hle2 j (by omega)
  exact (key n (Nat.le_refl _)).2 hs

theorem cntTo_child {g : Nat → Int} {a : Int} (ha : 1 ≤ a) {n : Nat} (h : ∀ i, i < n → 1 ≤ g i) (hs : cntTo g a n ≤ 200) {i : Nat} (hi : i < n) : cntTo g a (i + 1) = cntTo g a i + g i ∧ g i ≤ 200 := by
  have h1 := cntTo_mono ha h hs i (by omega)
  have h2 := cntTo_mono ha h hs (i + 1) (by omega)
  have e := cntTo_step g a i (by omega)
  exact ⟨e, by omega⟩

theorem few_small (t : T) : ∀ (d : Int), Short t → cnt t d ≤ 200 → (dep t : Int) ≤ d + 1 ∧ ((enc t).length : Int) ≤ 211 * cnt t d := by
  induction t with
  | nil => intro d h; cases h
  | mk k n s len f ih =>
    rintro d ⟨hs, hf⟩ hc
    by_cases hd : d < 0 ∨ 150 < len
    · simp only [cnt] at hc
      rw [if_pos hd] at hc
      omega
    have hcd : cnt (.mk k n s len f) d = cntTo (fun i => cnt (f i) (d - 1)) (1 + s.size / 200) len := by simp only [cnt]; rw [if_neg hd]
    rw [hcd] at hc
    have hpos : ∀ i, i < len → 1 ≤ (fun i => cnt (f i) (d - 1)) i := fun i hi => (cnt_bound (f i) (d - 1) (hf i hi)).1
    have ha : (1 : Int) ≤ 1 + s.size / 200 := by omega
    have hch : ∀ i, i < len → cntTo (fun i => cnt (f i) (d - 1)) (1 + s.size / 200) (i + 1) = cntTo (fun i => cnt (f i) (d - 1)) (1 + s.size / 200) i + cnt (f i) (d - 1) ∧ cnt (f i) (d - 1) ≤ 200 := fun i hi => cntTo_child ha hpos hc hi
    have hall : ∀ j, j ≤ len → ((catTo (fun i => enc (f i)) j).length : Int) + 211 * (1 + s.size / 200) ≤ 211 * cntTo (fun i => cnt (f i) (d - 1)) (1 + s.size / 200) j := by
      intro j
      induction j with
      | zero => intro _; simp [catTo, cntTo]
      | succ j ihj =>
        intro hj
        have h1 := ihj (by omega)
        have h2 := hch j (by omega)
        have h3 := (ih j (d - 1) (hf j (by omega)) h2.2).2
        rw [h2.1]
        simp only [catTo, List.length_append]
        omega
    have hl := hall len (Nat.le_refl _)
    have hcat : (0 : Int) ≤ (catTo (fun i => enc (f i)) len).length := by omega
    rw [hcd]
    constructor
    · simp only [dep]
      split
      · have := maxTo_le (g := fun i => dep (f i)) (n := len) (M := d.toNat) (fun i hi => by
          have := (ih i (d - 1) (hf i hi) (hch i hi).2).1
          show dep (f i) ≤ d.toNat
          omega)
        omega
      · omega
    · simp only [enc]
      have h1 := num_length (uns n)
      have h2 := num_length s.size
      have h3 := num_length len
      have h4 : s.data.toList.length = s.size := Array.length_toList
      split
      · simp only [List.length_cons]; omega
      · split
        · simp only [List.length_cons, List.length_append]; omega
        · simp only [List.length_cons, List.length_append]; omega

theorem few1_small {t : T} (hs : Short t) (h : few1 t 20 = true) : dep t ≤ 21 ∧ (enc t).length ≤ 42200 := by
  have h := of_decide_eq_true h
  have := few_small t 20 hs h
  omega

theorem cnt_one (t : T) (d : Int) (hs : Short t) : 1 ≤ cnt t d := (cnt_bound t d hs).1

/-- What Encode answers: the encoding of a value that can be encoded, else nothing. -/
def out (t : T) : List UInt8 := if chk t = 0 then enc t else []
end Go.Proofs.Ytkihimafeonibaa
