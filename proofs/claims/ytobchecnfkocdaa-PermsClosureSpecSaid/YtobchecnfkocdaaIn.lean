/- Inverse. -/
import Derived.Test.YtobchecnfkocdaaCo
namespace Go.Proofs.Ytobchecnfkocdaa
open Go.RowKit
set_option linter.unusedVariables false
set_option linter.unusedSimpArgs false

/-- A row of n numbers. -/
def ris (f : Nat → Int) (n : Nat) : List Int := (List.range n).map f
theorem ris_length (f : Nat → Int) (n : Nat) : (ris f n).length = n := by simp [ris]
theorem ris_at (f : Nat → Int) {n i : Nat} (h : i < n) : (ris f n)[i]? = some (f i) := by
  unfold ris
  rw [List.getElem?_map, List.getElem?_range h]
  rfl
theorem ris_set (f : Nat → Int) (n k : Nat) (v : Int) : ((ris f n).map iv).set k (.int .i64 v) = (ris (fun i => if i = k then v else f i) n).map iv := by
  unfold ris
  rw [List.map_map, List.map_map]
  apply List.ext_getElem?
  intro i
  rw [List.getElem?_set]
  by_cases h : k = i
  · subst h
    rw [if_pos rfl]
    by_cases h2 : k < n
    · rw [if_pos (by simpa using h2), List.getElem?_map, List.getElem?_range h2]
      simp [iv]
    · rw [if_neg (by simpa using h2), List.getElem?_eq_none (by simp; omega)]
  · rw [if_neg h, List.getElem?_map, List.getElem?_map]
    by_cases h2 : i < n
    · rw [List.getElem?_range h2]
      show some (iv (f i)) = some (iv (if i = k then v else f i))
      rw [if_neg (fun e => h e.symm)]
    · rw [List.getElem?_eq_none (by simp; omega)]
      rfl
theorem ris_zero (n : Nat) : List.replicate n (Value.int .i64 0) = (ris (fun _ => 0) n).map iv := by
  unfold ris
  rw [List.map_map, show (iv ∘ fun _ => (0 : Int)) = fun _ => Value.int .i64 0 from rfl, List.map_const', List.length_range]
/-- Where y lies among the first j elements. -/
def vf (l : List Int) : Nat → Nat → Int
  | 0, _ => 0
  | j + 1, y => if l.getD j 0 = (y : Int) then (j : Int) else vf l j y
def ivi (l : List Int) : List Int := ris (vf l l.length) l.length
def ive (l : List Int) : Int := if isp l (l.length : Int) = true then 0 else 110
def ivr (l : List Int) : List Int := if ive l = 0 then ivi l else []
theorem ive_ok {l : List Int} (h : isp l (l.length : Int) = true) : ive l = 0 ∧ ivr l = ivi l := by
  have h : ive l = 0 := if_pos h
  exact ⟨h, if_pos h⟩
theorem ive_no {l : List Int} (h : isp l (l.length : Int) = false) : ive l = 110 ∧ ivr l = [] := by
  have h : ive l = 110 := if_neg (by rw [h]; simp)
  exact ⟨h, by unfold ivr; rw [h, if_neg (by decide)]⟩
theorem vf_step {l : List Int} {j x n : Nat} (hx : l[j]? = some (x : Int)) : ris (fun i => if i = x then (j : Int) else vf l j i) n = ris (vf l (j + 1)) n := by
  unfold ris
  refine List.map_congr_left fun i _ => ?_
  show _ = if l.getD j 0 = (i : Int) then (j : Int) else vf l j i
  rw [List.getD_eq_getElem?_getD, hx]
  show _ = if (x : Int) = (i : Int) then (j : Int) else vf l j i
  by_cases h : i = x
  · rw [if_pos h, if_pos (by omega)]
  · rw [if_neg h, if_neg (by omega)]

set_option maxHeartbeats 4000000 in
set_option maxRecDepth 100000 in
theorem inverse_any (A : Option Addr) (c : Nat) (a : List Int) (w : World) (hA : Si w A a c) :
    Calls Try.prog 13 #[.slice A a.length c] w (IntP (ivr a) (ive a) w) := by
  have hl1 := hA.le
  have H1 := Lib.hid (isp_any A c a (a.length : Int) w hA)
  have HS := Lib.hid hA
  clear hA
  unfold QB at H1
  cases q1 : isp a (a.length : Int) with
  | false =>
    obtain ⟨h1, h2⟩ := ive_no q1
    rw [h1, h2]
    rw [q1] at H1
    clear h1 h2 q1
    generalize a.length = n at *
    go_enter Try.func13, Try.ntmps13
    go_wp2_with fail
    refine H1.out.mono ?_
    rintro e w1 ⟨rfl, hb⟩
    have HB := Lib.hid hb
    clear hb
    go_wp2_with fail
    go_ret2
    exact IntP.no HB.out
  | true =>
  obtain ⟨h1, h2⟩ := ive_ok q1
  obtain ⟨g1, g2, g3⟩ := isp_facts q1
  rw [h1, h2]
  rw [q1] at H1
  have hok := (okl_iff.1 g3).1
  obtain ⟨n, hn⟩ : ∃ n, a.length = n := ⟨_, rfl⟩
  have hil : (ivi a).length = n := by unfold ivi; rw [ris_length, hn]
  have hie : ivi a = ris (vf a n) n := by unfold ivi; rw [hn]
  rw [hn] at hok H1 g1
  have HOK := Lib.hid (And.intro hok (And.intro hie (And.intro hn hil)))
  unfold IntP
  rw [hn, hil]
  clear h1 h2 g2 g3 hok hie hn hil q1 hl1
  obtain ⟨i0, hi0, hz0, hz1, hz2⟩ := info_parts i64_info
  go_enter Try.func13, Try.ntmps13
  go_wp2_with fail
  refine H1.out.mono ?_
  rintro e w2 ⟨rfl, hb⟩
  have HB2 := Lib.hid hb
  clear hb H1
  go_wp2_with (refine wpList_make_full _ rfl (.tmp 12) (.tmp 12) 22 rfl w2.heap.size 3 i0 (.int .i64 0) 1 Try.underlying22 hi0 hz0 hz1 .i64 .i64 n n n rfl rfl rfl rfl (by rw [hz2]; omega) (le_maxLen (by omega)) (Nat.le_refl _) ?_; intro w3 hown hgr; rw [Nat.mul_one, show (Value.int .i64 0).cells = #[.int .i64 0] from rfl, toList_madeCells_one, ris_zero] at hown; have HW := Lib.hid (And.intro hown (grown_below hgr)); clear hown hgr)
  obtain ⟨Z, hZ⟩ : ∃ Z, w2.heap.size = Z := ⟨_, rfl⟩
  rw [hZ] at HW ⊢
  have HZ := Lib.hid (And.intro hZ (show w.heap.size ≤ Z from by rw [← hZ]; exact HB2.out.size))
  have HB3 := Lib.hid (HB2.out.trans (HW.out.2.mono HZ.out.2))
  clear hZ
  go_loopw [16] (fun i wr => ∃ j : Nat, j ≤ n ∧ i = .int .i64 (j : Int) ∧ wr.ownsRow Z 3 1 (.slice (some ⟨Z, 0, none⟩) n n) n ((ris (vf a j) n).map iv) ∧ Below w.heap.size w wr) (fun i _ => n - (intOf i).toNat)
  case atStart => exact ⟨0, Nat.zero_le _, rfl, HW.out.1, HB3.out⟩
  case round =>
    obtain ⟨j, hj, rfl, hown, hb⟩ := hrel
    have KR := Lib.hid (And.intro hown hb)
    clear hown hb HW
    by_cases hlt : j < n
    case neg =>
      have hdj : decide ((j : Int) < (n : Int)) = false := decide_eq_false (by omega)
      obtain rfl : j = n := by omega
      have h := KR.out.1
      rw [← HOK.out.2.1] at h
      have HF := Lib.hid (show Si wr (some ⟨Z, 0, none⟩) (ivi a) j from Sv.of_own h (by rw [List.length_map]; exact HOK.out.2.2.2))
      clear h
      go_wp2_with fail
      go_ret2
      exact ⟨_, _, rfl, HF.out, KR.out.2⟩
    have hdj : decide ((j : Int) < (n : Int)) = true := decide_eq_true (by omega)
    obtain ⟨x, hx⟩ : ∃ x, a[j]? = some x := ⟨_, List.getElem?_eq_getElem (by rw [HOK.out.2.2.1]; exact hlt)⟩
    have hxr := HOK.out.1 x (List.mem_of_getElem? hx)
    obtain ⟨x, rfl⟩ : ∃ x' : Nat, x = (x' : Int) := ⟨x.toNat, by omega⟩
    obtain ⟨ba, oa, rfl, hba, hca⟩ := HS.out.at_ hx
    have z0 : wr.cell? ⟨ba, oa + j, none⟩ = some (.int .i64 (x : Int)) := (KR.out.2.cell (p := ⟨ba, oa + j, none⟩) hba).trans hca
    have f1 := KR.out.1.frozenAt x
    have hzz : ∃ u, wr.cell? ⟨Z, x, none⟩ = some u := by
      refine ⟨_, (KR.out.1.cellAt x (by omega)).trans (List.getElem?_eq_getElem (h := ?_))⟩
      have := KR.out.1.1
      omega
    obtain ⟨u, hu⟩ := hzz
    have hst := KR.out.1.stored x (.int .i64 (j : Int))
    rw [ris_set, vf_step hx] at hst
    have HST := Lib.hid (And.intro hst.1 (KR.out.2.setCell (p := ⟨Z, x, none⟩) HZ.out.2 (.int .i64 (j : Int))))
    have i0 : (0 : Int) ≤ (j : Int) := by omega
    have i1 : (j : Int) < (n : Int) := by omega
    have i2 : (0 : Int) ≤ (x : Int) := by omega
    have i3 : (x : Int) < (n : Int) := by omega
    clear hx hxr hba hca hst KR
    go_wp2_with fail
    go_roundw
    case rel => exact ⟨j + 1, by omega, by go_num, HST.out⟩
    case measure => simp [intOf]; omega
end Go.Proofs.Ytobchecnfkocdaa
