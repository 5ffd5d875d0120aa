/- The reference's Is. -/
import Derived.Test.YtobchecnfkocdaaIs
import Derived.Laws.OwnMore
namespace Go.Proofs.Ytobchecnfkocdaa
open Go.RowKit
set_option linter.unusedVariables false
set_option linter.unusedSimpArgs false

/-- A row of n bools. -/
def rbs (f : Nat → Bool) (n : Nat) : List Value := (List.range n).map fun i => Value.bool (f i)
theorem rbs_length (f : Nat → Bool) (n : Nat) : (rbs f n).length = n := by simp [rbs]
theorem rbs_at (f : Nat → Bool) {n i : Nat} (h : i < n) : (rbs f n)[i]? = some (.bool (f i)) := by
  unfold rbs
  rw [List.getElem?_map, List.getElem?_range h]
  rfl
theorem rbs_set (f : Nat → Bool) (n k : Nat) (v : Bool) : (rbs f n).set k (.bool v) = rbs (fun i => if i = k then v else f i) n := by
  unfold rbs
  apply List.ext_getElem?
  intro i
  rw [List.getElem?_set]
  by_cases h : k = i
  · subst h
    rw [if_pos rfl]
    by_cases h2 : k < n
    · rw [if_pos (by simpa using h2), List.getElem?_map, List.getElem?_range h2]
      simp
    · rw [if_neg (by simpa using h2), List.getElem?_eq_none (by simp; omega)]
  · rw [if_neg h, List.getElem?_map, List.getElem?_map]
    by_cases h2 : i < n
    · rw [List.getElem?_range h2]
      show some (Value.bool (f i)) = some (Value.bool (if i = k then v else f i))
      rw [if_neg (fun e => h e.symm)]
    · rw [List.getElem?_eq_none (by simp; omega)]
      rfl
theorem rbs_eq {f g : Nat → Bool} {n : Nat} (h : ∀ i, i < n → f i = g i) : rbs f n = rbs g n := by
  unfold rbs
  refine List.map_congr_left fun i hi => ?_
  rw [h i (List.mem_range.1 hi)]
theorem rbs_none (n : Nat) : List.replicate n (Value.bool false) = rbs (fun _ => false) n := by
  unfold rbs
  rw [List.map_const', List.length_range]
/-- Is, of as many numbers as there are. -/
def isr (l : List Int) (n : Int) : Bool := decide ((l.length : Int) = n) && okl l n.toNat
theorem isp_isr (l : List Int) (n : Int) : isp l n = (decide (0 ≤ n ∧ n ≤ 256) && isr l n) := by
  unfold isp isr
  rw [Bool.and_assoc]

set_option maxHeartbeats 4000000 in
set_option maxRecDepth 100000 in
theorem isr_big (A : Option Addr) (c : Nat) (l : List Int) (n : Int) (w : World) (hS : Si w A l c) (h1000 : l.length ≤ 17592186044416) :
    Calls Try.prog 24 #[.slice A l.length c, .int .i64 n] w (QB (isr l n) w) := by
  have HS := Lib.hid hS
  unfold QB
  clear hS
  by_cases q2 : (l.length : Int) = n
  case neg =>
    have hr : isr l n = false := by unfold isr; rw [decide_eq_false q2]; rfl
    rw [hr]
    have d1 : ((l.length : Int) != n) = true := by rw [bne_iff_ne]; exact q2
    clear hr
    generalize l.length = L at *
    go_enter Try.func24, Try.ntmps24
    go_wp2_with fail
    go_ret
    exact ⟨rfl, Below.refl _ _⟩
  subst q2
  have hr : isr l (l.length : Int) = okl l l.length := by unfold isr; rw [decide_eq_true rfl, Int.toNat_natCast]; rfl
  rw [hr]
  obtain ⟨N, hN⟩ : ∃ N, l.length = N := ⟨_, rfl⟩
  have HL := Lib.hid hN
  rw [hN] at h1000 ⊢
  obtain ⟨o, ho⟩ : ∃ o, okl l N = o := ⟨_, rfl⟩
  have HO := Lib.hid ho
  rw [ho]
  have d1 : ((N : Int) != (N : Int)) = false := by simp
  clear hr hN ho
  obtain ⟨i0, hi0, hz0, hz1, hz2⟩ := info_parts bool_info
  go_enter Try.func24, Try.ntmps24
  go_wp2_with (refine wpList_make_full _ rfl (.tmp 11) (.tmp 11) 44 rfl w.heap.size 4 i0 (.bool false) 1 Try.underlying44 hi0 hz0 hz1 .i64 .i64 N N N rfl rfl rfl rfl (by rw [hz2]; omega) (le_maxLen (by omega)) (Nat.le_refl _) ?_; intro w1 hown hgr; rw [Nat.mul_one, show (Value.bool false).cells = #[.bool false] from rfl, toList_madeCells_one, rbs_none] at hown; have HW := Lib.hid (And.intro hown (grown_below hgr)); clear hown hgr)
  obtain ⟨B, hB⟩ : ∃ B, w.heap.size = B := ⟨_, rfl⟩
  rw [hB] at HW ⊢
  have HBE := Lib.hid hB
  clear hB
  go_loopw [6] (fun i wr => ∃ j : Nat, j ≤ N ∧ i = .int .i64 (j : Int) ∧ okl (l.take j) N = true ∧ wr.ownsRow B 4 1 (.slice (some ⟨B, 0, none⟩) N N) N (rbs (fun y => decide ((y : Int) ∈ l.take j)) N) ∧ Below B w wr) (fun i _ => N - (intOf i).toNat)
  case atStart => exact ⟨0, Nat.zero_le _, rfl, okl_nil _, by simpa using HW.out.1, HW.out.2⟩
  case round =>
    obtain ⟨j, hj, rfl, hok, hbx, hb⟩ := hrel
    have KR := Lib.hid (And.intro hok (And.intro hbx hb))
    clear hok hbx hb HW
    by_cases hlt : j < N
    case neg =>
      have hdj : decide ((j : Int) < (N : Int)) = false := decide_eq_false (by omega)
      obtain rfl : j = N := by omega
      have hr : okl l j = true := by have h := KR.out.1; rwa [List.take_of_length_le (by rw [HL.out]; exact Nat.le_refl _)] at h
      have HR := Lib.hid hr
      have HF := Lib.hid (show Below w.heap.size w wr from by rw [HBE.out]; exact KR.out.2.2)
      clear hr
      go_wp2_with fail
      go_ret
      exact ⟨ret_bool (by rw [← HO.out, HR.out]), HF.out⟩
    have hdj : decide ((j : Int) < (N : Int)) = true := decide_eq_true (by omega)
    obtain ⟨x, hx⟩ : ∃ x, l[j]? = some x := ⟨_, List.getElem?_eq_getElem (by rw [HL.out]; exact hlt)⟩
    obtain ⟨b, off, rfl, hbl, hc⟩ := HS.out.at_ hx
    have hbB : b < B := by rw [← HBE.out]; exact hbl
    have z0 : wr.cell? ⟨b, off + j, none⟩ = some (.int .i64 x) := (KR.out.2.2.cell (p := ⟨b, off + j, none⟩) hbB).trans hc
    have HF := Lib.hid (show Below w.heap.size w wr from by rw [HBE.out]; exact KR.out.2.2)
    have i0 : (0 : Int) ≤ (j : Int) := by omega
    have i1 : (j : Int) < (N : Int) := by omega
    by_cases h1 : 0 ≤ x ∧ x < (N : Int)
    case neg =>
      have HR := Lib.hid (okl_no hx h1)
      clear hx hc hbl hbB
      by_cases hx0 : x < 0
      · have e0 : decide (x < 0) = true := decide_eq_true hx0
        go_wp2_with fail
        go_ret
        exact ⟨ret_bool (by rw [← HO.out, HR.out]), HF.out⟩
      · have e0 : decide (x < 0) = false := decide_eq_false hx0
        have e1 : decide ((N : Int) ≤ x) = true := decide_eq_true (by omega)
        have e2 : (N : Int) ≤ x := by omega
        go_wp2_with fail
        go_ret
        exact ⟨ret_bool (by rw [← HO.out, HR.out]), HF.out⟩
    obtain ⟨X, rfl⟩ : ∃ X : Nat, x = (X : Int) := ⟨x.toNat, by omega⟩
    have hX : X < N := by omega
    have e0 : decide ((X : Int) < 0) = false := decide_eq_false (by omega)
    have e1 : decide ((N : Int) ≤ (X : Int)) = false := decide_eq_false (by omega)
    have e2 : ¬ (N : Int) ≤ (X : Int) := by omega
    have e3 : ¬ (X : Int) < 0 := by omega
    have i2 : (0 : Int) ≤ (X : Int) := by omega
    have i3 : (X : Int) < (N : Int) := by omega
    have z1 : wr.cell? ⟨B, X, none⟩ = some (.bool (decide ((X : Int) ∈ l.take j))) := by
      rw [KR.out.2.1.cellAt X (by omega)]
      exact rbs_at _ hX
    by_cases h2 : (X : Int) ∈ l.take j
    case pos =>
      have HR := Lib.hid (okl_twice (N := N) hx h2)
      rw [decide_eq_true h2] at z1
      clear hx hc hbl hbB h1 h2
      go_wp2_with fail
      go_ret
      exact ⟨ret_bool (by rw [← HO.out, HR.out]), HF.out⟩
    rw [decide_eq_false h2] at z1
    have f1 := KR.out.2.1.frozenAt X
    have HN := Lib.hid (okl_next hx KR.out.1 h1 h2)
    have hst := KR.out.2.1.stored X (.bool true)
    rw [rbs_set] at hst
    have he : rbs (fun i => if i = X then true else decide ((i : Int) ∈ l.take j)) N = rbs (fun y => decide ((y : Int) ∈ l.take (j + 1))) N := rbs_eq fun i _ => by
      rw [take_next hx]
      by_cases h : i = X
      · subst h
        rw [if_pos rfl, decide_eq_true (by simp)]
      · rw [if_neg h]
        simp only [List.mem_append, List.mem_singleton, decide_eq_decide]
        constructor
        · exact fun h => .inl h
        · rintro (h3 | h3)
          · exact h3
          · omega
    rw [he] at hst
    have HST := Lib.hid (And.intro hst.1 (KR.out.2.2.setCell (p := ⟨B, X, none⟩) (Nat.le_refl _) (.bool true)))
    clear hx hc hbl hbB h1 h2 hst he KR
    go_wp2_with fail
    go_roundw
    case rel => exact ⟨j + 1, by omega, by go_num, HN.out, HST.out⟩
    case measure => simp [intOf]; omega
theorem isr_any (A : Option Addr) (c : Nat) (l : List Int) (n : Int) (w : World) (hS : Si w A l c) (h1000 : l.length ≤ 100000) :
    Calls Try.prog 24 #[.slice A l.length c, .int .i64 n] w (QB (isr l n) w) := isr_big A c l n w hS (by omega)

end Go.Proofs.Ytobchecnfkocdaa
