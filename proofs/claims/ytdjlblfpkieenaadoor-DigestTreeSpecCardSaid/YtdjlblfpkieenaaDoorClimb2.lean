/- climb, Climb: all paths. -/
import Derived.Test.YtdjlblfpkieenaaDoorClimb
namespace Go.Proofs.YtdjlblfpkieenaaDoor
open Go.RowKit Go.Sort
set_option linter.unusedVariables false

/-- The digest to which a path (backward) leads. -/
def clr : List (List UInt8) → List UInt8 → Nat → Nat → List UInt8
  | [], d, _, _ => tr [d]
  | L :: r, d, i, n => if i < half n then tg [110, 111, 100, 101] (clr r d i (half n) ++ L) else tg [110, 111, 100, 101] (L ++ clr r d (i - half n) (n - half n))
theorem clr_length (rs : List (List UInt8)) (d : List UInt8) (i n : Nat) : (clr rs d i n).length = 32 := by
  cases rs with
  | nil => exact tr_length _
  | cons L r =>
    simp only [clr]
    split <;> rfl

theorem climb_any : ∀ (rs : List (List UInt8)) (d : List UInt8) (i n : Nat) (A : Option Addr) (c : Nat) (w : World), rs.length = pl i n → i < n → n ≤ 1099511627776 → KT w → d.length = 32 → Ds w.heap.size w A rs.reverse → rs.length ≤ c → rs.length ≤ 1000000 →
    Calls Tryd.prog 42 #[.agg (dcells d), .int .i64 i, .int .i64 n, .slice A rs.length c] w (DigPost (clr rs d i n) w)
  | [], d, i, n, A, c, w, hp, hi, hn, hK, hd, hD, h1, h2 => by
    have hn1 : n = 1 := by
      by_cases h : n ≤ 1
      · omega
      · by_cases hik : i < half n
        · rw [pl_left i n (by omega) hik] at hp; simp at hp
        · rw [pl_right i n (by omega) hik] at hp; simp at hp
    subst hn1
    obtain rfl : i = 0 := by omega
    exact climb_leaf d A 0 c w hK hd
  | L :: r, d, i, n, A, c, w, hp, hi, hn, hK, hd, hD, h1, h2 => by
    have hn1 : 1 < n := by
      rcases Nat.lt_or_ge 1 n with h | h
      · exact h
      · rw [pl_end i n h] at hp
        simp at hp
    have hkl := half_le n hn1
    have hkp := half_pos n
    rw [List.length_cons] at hp h1 h2
    rw [List.reverse_cons] at hD
    obtain ⟨b, off, rfl, hbl, hc⟩ := hD.2 (by simp)
    have hLl : L.length = 32 := hD.1 L (by simp)
    have hX : w.rangeAt b (off + r.length * 32) (L.map bv) := hc r.length L (by rw [List.getElem?_append_right (by simp)]; simp)
    have hDr : ∀ W, Below w.heap.size w W → Ds W.heap.size W (some ⟨b, off, none⟩) r.reverse := fun W hb => by
      have := (hD.up hb).take r.reverse.length
      rwa [List.take_left] at this
    rw [List.length_cons]
    simp only [clr]
    by_cases hik : i < half n
    · rw [if_pos hik]
      rw [pl_left i n hn1 hik] at hp
      exact climb_left b off n c i (half n) r.length (d.map bv) (L.map bv) ((clr r d i (half n)).map bv) _ w hn1 (by omega) rfl hik h1 (by omega) (by simp [hd]) (by simp [hLl]) rfl hX
        (fun W hb => climb_any r d i (half n) (some ⟨b, off, none⟩) c W (by omega) hik (by omega) (hK.below hb) hd (hDr W hb) (by omega) (by omega))
        (fun W hb => pair_any ⟨#[110, 111, 100, 101]⟩ _ _ W (hK.below hb) (clr_length _ _ _ _) hLl (by decide))
    · rw [if_neg hik]
      rw [pl_right i n hn1 hik] at hp
      refine climb_right b off n c i (half n) r.length (d.map bv) (L.map bv) ((clr r d (i - half n) (n - half n)).map bv) _ w hn1 (by omega) rfl hik hi h1 (by omega) (by simp [hd]) (by simp [hLl]) rfl hX
        (fun W hb => ?_)
        (fun W hb => pair_any ⟨#[110, 111, 100, 101]⟩ _ _ W (hK.below hb) hLl (clr_length _ _ _ _) (by decide))
      have := climb_any r d (i - half n) (n - half n) (some ⟨b, off, none⟩) c W (by omega) (by omega) (by omega) (hK.below hb) hd (hDr W hb) (by omega) (by omega)
      rwa [show ((i - half n : Nat) : Int) = (i : Int) - (half n : Int) by omega, show ((n - half n : Nat) : Int) = (n : Int) - (half n : Int) by omega] at this

/-- Paths lead to the digest of the list. -/
theorem clr_pth (m : Nat) : ∀ (ds : List (List UInt8)) (i : Nat) (d : List UInt8), ds.length ≤ m → ds[i]? = some d → clr (pth ds i).reverse d i ds.length = tr ds := by
  induction m with
  | zero =>
    intro ds i d h hi
    have := (List.getElem?_eq_some_iff.1 hi).1
    omega
  | succ m ih =>
    intro ds i d h hi
    have hlt := (List.getElem?_eq_some_iff.1 hi).1
    by_cases h1 : ds.length ≤ 1
    · rw [pth_end ds i h1]
      match ds, h1, hi, hlt with
      | [x], _, hi, hlt =>
        obtain rfl : i = 0 := by simp at hlt; exact hlt
        simp at hi
        subst hi
        rfl
    · have h2 := half_le ds.length (by omega)
      have h3 := half_pos ds.length
      by_cases hik : i < half ds.length
      · rw [pth_left ds i (by omega) hik, List.reverse_append, List.reverse_singleton, List.singleton_append]
        simp only [clr]
        rw [if_pos hik]
        have hl1 : (ds.take (half ds.length)).length = half ds.length := by rw [List.length_take]; omega
        have := ih (ds.take (half ds.length)) i d (by omega) (by rw [List.getElem?_take_of_lt hik]; exact hi)
        rw [hl1] at this
        rw [this, tr_node ds (by omega)]
      · rw [pth_right ds i (by omega) hik, List.reverse_append, List.reverse_singleton, List.singleton_append]
        simp only [clr]
        rw [if_neg hik]
        have hl2 : (ds.drop (half ds.length)).length = ds.length - half ds.length := List.length_drop
        have := ih (ds.drop (half ds.length)) (i - half ds.length) d (by omega) (by rw [List.getElem?_drop, show half ds.length + (i - half ds.length) = i by omega]; exact hi)
        rw [hl2] at this
        rw [this, tr_node ds (by omega)]
end Go.Proofs.YtdjlblfpkieenaaDoor
