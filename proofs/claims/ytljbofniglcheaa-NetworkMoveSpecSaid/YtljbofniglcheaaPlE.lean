/- All pairs in their order, and those that stay apart. (Nothing here speaks of the program.) -/
import Derived.Test.YtljbofniglcheaaPlC
import Derived.Test.YtljbofniglcheaaRIc
namespace Go.Proofs.Ytljbofniglcheaa
set_option linter.unusedVariables false

/-- The pairs (x, z) with x < z < y. -/
def rowp (x y : Nat) : List (Int × Int) := ((List.range y).filter (fun z => decide (x < z))).map (fun z : Nat => ((x : Int), (z : Int)))
/-- The pairs whose first is before x. -/
def bef (x : Nat) : List (Int × Int) := (List.range x).flatMap (fun u => rowp u 16)
theorem rowp_start (x : Nat) : rowp x (x + 1) = [] := by
  unfold rowp
  rw [List.map_eq_nil_iff, List.filter_eq_nil_iff]
  intro z hz
  have := List.mem_range.1 hz
  simp
  omega
theorem rowp_succ {x y : Nat} (h : x < y) : rowp x (y + 1) = rowp x y ++ [((x : Int), (y : Int))] := by
  unfold rowp
  rw [List.range_succ, List.filter_append, List.map_append]
  simp [h]
theorem bef_succ (x : Nat) : bef (x + 1) = bef x ++ rowp x 16 := by
  unfold bef
  rw [List.range_succ, List.flatMap_append]
  simp
theorem rowp_len (x y : Nat) : (rowp x y).length ≤ y := by
  unfold rowp
  rw [List.length_map]
  exact Nat.le_trans (List.length_filter_le _ _) (by simp)
theorem bef_len : ∀ x, (bef x).length ≤ 16 * x
  | 0 => by simp [bef]
  | x + 1 => by
    rw [bef_succ, List.length_append]
    have := bef_len x
    have := rowp_len x 16
    omega
/-- A pair stays. -/
def keepp (l : List (Int × Int)) (x : Int × Int) (on : Bool) (y : Int × Int) : Bool := if y == x then on else isc l y
def flt (l : List (Int × Int)) (x : Int × Int) (on : Bool) (m : List (Int × Int)) : List (Int × Int) := m.filter (keepp l x on)
theorem flt_nil (l : List (Int × Int)) (x : Int × Int) (on : Bool) : flt l x on [] = [] := rfl
theorem flt_len (l : List (Int × Int)) (x : Int × Int) (on : Bool) (m : List (Int × Int)) : (flt l x on m).length ≤ m.length := List.length_filter_le _ _
theorem flt_no {l : List (Int × Int)} {x y : Int × Int} {on : Bool} {m : List (Int × Int)} (h : keepp l x on y = false) : flt l x on (m ++ [y]) = flt l x on m := by
  unfold flt
  rw [List.filter_append]
  simp [h]
theorem flt_yes {l : List (Int × Int)} {x y : Int × Int} {on : Bool} {m : List (Int × Int)} (h : keepp l x on y = true) : flt l x on (m ++ [y]) = flt l x on m ++ [y] := by
  unfold flt
  rw [List.filter_append]
  simp [h]
set_option maxRecDepth 100000 in
theorem bef_srt : Srt (bef 16) := by
  unfold Srt
  decide +kernel
theorem mem_bef {y : Int × Int} (h : okr y = true) : y ∈ bef 16 := by
  obtain ⟨a, b⟩ := y
  unfold okr site at h
  simp only [Bool.and_eq_true, decide_eq_true_eq] at h
  unfold bef rowp
  rw [List.mem_flatMap]
  refine ⟨a.toNat, List.mem_range.2 (by omega), ?_⟩
  rw [List.mem_map]
  refine ⟨b.toNat, List.mem_filter.2 ⟨List.mem_range.2 (by omega), by simp; omega⟩, ?_⟩
  rw [Prod.mk.injEq]
  omega
theorem isc_iff {l : List (Int × Int)} {y : Int × Int} : isc l y = true ↔ y ∈ l := by
  unfold isc
  rw [List.any_eq_true]
  constructor
  · rintro ⟨z, hz, e⟩
    have : y = z := by simpa using e
    rw [this]; exact hz
  · intro h
    exact ⟨y, h, by simp⟩
theorem flt_ctl {l : List (Int × Int)} {x : Int × Int} {on : Bool} (hl : ∀ y ∈ l, okr y = true) (hs : Srt l) (hx : okr x = true) : flt l x on (bef 16) = ctl l x on := by
  refine srt_uniq (List.Pairwise.filter _ bef_srt) (ctl_srt hs x on) (fun y => ?_)
  unfold flt
  rw [List.mem_filter, mem_ctl]
  unfold keepp
  by_cases hy : y = x
  · subst hy
    rw [if_pos (beq_self_eq_true y)]
    constructor
    · rintro ⟨_, h⟩; exact .inr ⟨rfl, h⟩
    · rintro (⟨_, h⟩ | ⟨_, h⟩)
      · exact absurd rfl h
      · exact ⟨mem_bef hx, h⟩
  · have hne : (y == x) = false := by simpa using hy
    rw [hne]
    simp only [Bool.false_eq_true, if_false]
    rw [isc_iff]
    constructor
    · rintro ⟨_, h⟩; exact .inl ⟨h, hy⟩
    · rintro (⟨h, _⟩ | ⟨h, _⟩)
      · exact ⟨mem_bef (hl y h), h⟩
      · exact absurd h hy
theorem ct_flt {n : Nt} {a b : Int} {on : Bool} (hv : vld n = true) (ht : talk a b = true) : ct n a b on = ⟨n.q, flt n.ap (btw a b) on (bef 16)⟩ ∧ cte n a b = 0 := by
  have h := ct_ok (on := on) hv ht
  have ha := ((apk_iff _).1 ((vld_iff n).1 hv).2.2)
  rw [flt_ctl ha.1 ha.2 (okr_btw ht)]
  exact ⟨h.1, h.2.1⟩
end Go.Proofs.Ytljbofniglcheaa
