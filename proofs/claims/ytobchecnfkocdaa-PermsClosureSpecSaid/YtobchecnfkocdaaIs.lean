/- isPermutation, and the reference's Is. -/
import Derived.Test.YtobchecnfkocdaaArr
import Derived.LoopTactic
namespace Go.Proofs.Ytobchecnfkocdaa
open Go.RowKit
set_option linter.unusedVariables false
set_option linter.unusedSimpArgs false

/-- Numbers below N, all different. -/
def okl (l : List Int) (N : Nat) : Bool := decide (∀ x ∈ l, 0 ≤ x ∧ x < (N : Int)) && decide l.Nodup
theorem okl_iff {l : List Int} {N : Nat} : okl l N = true ↔ (∀ x ∈ l, 0 ≤ x ∧ x < (N : Int)) ∧ l.Nodup := by
  unfold okl
  rw [Bool.and_eq_true, decide_eq_true_eq, decide_eq_true_eq]
theorem okl_nil (N : Nat) : okl [] N = true := okl_iff.2 ⟨(fun x h => absurd h (List.not_mem_nil)), List.nodup_nil⟩
theorem okl_take {l : List Int} {N : Nat} (h : okl l N = true) (k : Nat) : okl (l.take k) N = true :=
  okl_iff.2 ⟨fun x hx => (okl_iff.1 h).1 x (List.mem_of_mem_take hx), (okl_iff.1 h).2.sublist (List.take_sublist k l)⟩
theorem take_next {α : Type} {l : List α} {j : Nat} {x : α} (h : l[j]? = some x) : l.take (j + 1) = l.take j ++ [x] := by
  rw [List.take_add_one, h]
  rfl
theorem okl_next {l : List Int} {N j : Nat} {x : Int} (h : l[j]? = some x) (h0 : okl (l.take j) N = true) (h1 : 0 ≤ x ∧ x < (N : Int)) (h2 : x ∉ l.take j) : okl (l.take (j + 1)) N = true := by
  rw [take_next h]
  obtain ⟨a, b⟩ := okl_iff.1 h0
  refine okl_iff.2 ⟨fun y hy => ?_, ?_⟩
  · rcases List.mem_append.1 hy with h3 | h3
    · exact a y h3
    · rw [List.mem_singleton.1 h3]; exact h1
  · rw [List.nodup_append]
    refine ⟨b, by simp, fun y hy z hz e => ?_⟩
    rw [List.mem_singleton.1 hz] at e
    exact h2 (e ▸ hy)
theorem okl_no {l : List Int} {N j : Nat} {x : Int} (h : l[j]? = some x) (h1 : ¬ (0 ≤ x ∧ x < (N : Int))) : okl l N = false := by
  rw [Bool.eq_false_iff]
  intro h2
  exact h1 ((okl_iff.1 h2).1 x (List.mem_of_getElem? h))
theorem okl_twice {l : List Int} {N j : Nat} {x : Int} (h : l[j]? = some x) (h1 : x ∈ l.take j) : okl l N = false := by
  rw [Bool.eq_false_iff]
  intro h2
  have := (okl_iff.1 (okl_take h2 (j + 1))).2
  rw [take_next h, List.nodup_append] at this
  exact this.2.2 x h1 x (by simp) rfl
def isp (l : List Int) (n : Int) : Bool := decide (0 ≤ n ∧ n ≤ 256) && decide ((l.length : Int) = n) && okl l n.toNat
theorem zc_bool : Try.zeroCells60 = bcs fun _ => false := by kernel_rfl
def QB (b : Bool) (w : World) (e : Ending) (w' : World) : Prop := e = .returned (.bool b) ∧ Below w.heap.size w w'

theorem count_any (n : Int) (w : World) : Calls Try.prog 30 #[.int .i64 n] w (fun e w' => e = .returned (.bool (decide (0 ≤ n ∧ n ≤ 256))) ∧ w = w') := by
  by_cases h0 : 0 ≤ n
  · by_cases h1 : n ≤ 256
    · have d0 : decide ((0 : Int) ≤ n) = true := decide_eq_true h0
      have d1 : decide (n ≤ (256 : Int)) = true := decide_eq_true h1
      rw [decide_eq_true ⟨h0, h1⟩]
      go_enter Try.func30, Try.ntmps30
      go_wp2_with fail
      go_ret
      exact ⟨rfl, rfl⟩
    · have d0 : decide ((0 : Int) ≤ n) = true := decide_eq_true h0
      have d1 : decide (n ≤ (256 : Int)) = false := decide_eq_false h1
      rw [decide_eq_false (fun h => h1 h.2)]
      go_enter Try.func30, Try.ntmps30
      go_wp2_with fail
      go_ret
      exact ⟨rfl, rfl⟩
  · have d0 : decide ((0 : Int) ≤ n) = false := decide_eq_false h0
    rw [decide_eq_false (fun h => h0 h.1)]
    go_enter Try.func30, Try.ntmps30
    go_wp2_with fail
    go_ret
    exact ⟨rfl, rfl⟩

set_option maxHeartbeats 4000000 in
set_option maxRecDepth 100000 in
theorem isp_any (A : Option Addr) (c : Nat) (l : List Int) (n : Int) (w : World) (hS : Si w A l c) :
    Calls Try.prog 29 #[.slice A l.length c, .int .i64 n] w (QB (isp l n) w) := by
  have hl9 := hS.le
  have HC := Lib.hid (count_any n w)
  have HS := Lib.hid hS
  unfold QB
  clear hS
  by_cases q1 : 0 ≤ n ∧ n ≤ 256
  case neg =>
    have hr : isp l n = false := by unfold isp; rw [decide_eq_false q1]; rfl
    rw [hr]
    rw [decide_eq_false q1] at HC
    clear hr
    generalize l.length = L at *
    go_enter Try.func29, Try.ntmps29
    go_wp2_with fail
    refine HC.out.mono ?_
    rintro e w1 ⟨rfl, rfl⟩
    go_wp2_with fail
    go_ret
    exact ⟨rfl, Below.refl _ _⟩
  rw [decide_eq_true q1] at HC
  obtain ⟨N, rfl⟩ : ∃ N : Nat, n = (N : Int) := ⟨n.toNat, by omega⟩
  have hN : N ≤ 256 := by omega
  by_cases q2 : l.length = N
  case neg =>
    have hr : isp l N = false := by unfold isp; rw [decide_eq_false (show ¬ (l.length : Int) = (N : Int) by omega), Bool.and_false]; rfl
    rw [hr]
    have d1 : ((l.length : Int) != (N : Int)) = true := by rw [bne_iff_ne]; omega
    have d2 : ¬ (l.length : Int) = (N : Int) := by omega
    clear hr
    generalize l.length = L at *
    go_enter Try.func29, Try.ntmps29
    go_wp2_with fail
    refine HC.out.mono ?_
    rintro e w1 ⟨rfl, rfl⟩
    go_wp2_with fail
    go_ret
    exact ⟨rfl, Below.refl _ _⟩
  have hr : isp l N = okl l N := by unfold isp; rw [decide_eq_true q1, decide_eq_true (show (l.length : Int) = (N : Int) by omega), Int.toNat_natCast]; rfl
  rw [hr]
  obtain ⟨o, ho⟩ : ∃ o, okl l N = o := ⟨_, rfl⟩
  have HO := Lib.hid ho
  rw [ho]
  have HL := Lib.hid q2
  have d1 : ((N : Int) != (N : Int)) = false := by simp
  rw [q2]
  clear hr q1 q2 hl9 ho
  go_enter Try.func29, Try.ntmps29
  go_wp2_with fail
  refine HC.out.mono ?_
  rintro e w1 ⟨rfl, rfl⟩
  go_wp2_with fail
  rw [zc_bool]
  obtain ⟨B, hB⟩ : ∃ B, w.heap.size = B := ⟨_, rfl⟩
  have HX := Lib.hid (show Box (w.alloc (.cells (bcs fun _ => false) 60)) B (bcs fun _ => false) 60 from hB ▸ Box.new w _ _)
  have HB := Lib.hid (show Below B w (w.alloc (.cells (bcs fun _ => false) 60)) from hB ▸ (Below.refl w.heap.size w).alloc (Nat.le_refl _) _)
  have HBE := Lib.hid hB
  rw [hB]
  clear hB
  generalize w.alloc (.cells (bcs fun _ => false) 60) = V at *
  go_loopw [19] (fun i wr => ∃ j : Nat, j ≤ N ∧ i = .int .i64 (j : Int) ∧ okl (l.take j) N = true ∧ Box wr B (bcs fun y => decide ((y : Int) ∈ l.take j)) 60 ∧ Below B w wr) (fun i _ => N - (intOf i).toNat)
  case atStart => exact ⟨0, Nat.zero_le _, rfl, okl_nil _, by simpa using HX.out, HB.out⟩
  case round =>
    obtain ⟨j, hj, rfl, hok, hbx, hb⟩ := hrel
    have KR := Lib.hid (And.intro hok (And.intro hbx hb))
    clear hok hbx hb HX HB
    by_cases hlt : j < N
    case neg =>
      have hdj : decide ((j : Int) < (N : Int)) = false := decide_eq_false (by omega)
      obtain rfl : j = N := by omega
      have hr : okl l j = true := by have h := KR.out.1; rwa [List.take_of_length_le (by rw [HL.out]; exact Nat.le_refl _)] at h
      have HR := Lib.hid hr
      have HF := Lib.hid (show Below w.heap.size w wr from by rw [HBE.out]; exact KR.out.2.2)
      clear hr
      go_wp2_with fail
      go_ret
      exact ⟨ret_bool (by rw [← HO.out, HR.out]), HF.out⟩
    have hdj : decide ((j : Int) < (N : Int)) = true := decide_eq_true (by omega)
    obtain ⟨x, hx⟩ : ∃ x, l[j]? = some x := ⟨_, List.getElem?_eq_getElem (by rw [HL.out]; exact hlt)⟩
    obtain ⟨b, off, rfl, hbl, hc⟩ := HS.out.at_ hx
    have hbB : b < B := by rw [← HBE.out]; exact hbl
    have z0 : wr.cell? ⟨b, off + j, none⟩ = some (.int .i64 x) := (KR.out.2.2.cell (p := ⟨b, off + j, none⟩) hbB).trans hc
    have HF := Lib.hid (show Below w.heap.size w wr from by rw [HBE.out]; exact KR.out.2.2)
    have i0 : (0 : Int) ≤ (j : Int) := by omega
    have i1 : (j : Int) < (N : Int) := by omega
    by_cases h1 : 0 ≤ x ∧ x < (N : Int)
    case neg =>
      have HR := Lib.hid (okl_no hx h1)
      clear hx hc hbl hbB
      by_cases hx0 : x < 0
      · have e0 : decide (x < 0) = true := decide_eq_true hx0
        go_wp2_with fail
        go_ret
        exact ⟨ret_bool (by rw [← HO.out, HR.out]), HF.out⟩
      · have e0 : decide (x < 0) = false := decide_eq_false hx0
        have e1 : decide ((N : Int) ≤ x) = true := decide_eq_true (by omega)
        have e2 : (N : Int) ≤ x := by omega
        go_wp2_with fail
        go_ret
        exact ⟨ret_bool (by rw [← HO.out, HR.out]), HF.out⟩
    obtain ⟨X, rfl⟩ : ∃ X : Nat, x = (X : Int) := ⟨x.toNat, by omega⟩
    have hX : X < N := by omega
    have e0 : decide ((X : Int) < 0) = false := decide_eq_false (by omega)
    have e1 : decide ((N : Int) ≤ (X : Int)) = false := decide_eq_false (by omega)
    have e2 : ¬ (N : Int) ≤ (X : Int) := by omega
    have e3 : ¬ (X : Int) < 0 := by omega
    have i2 : (0 : Int) ≤ (X : Int) := by omega
    have i3 : (X : Int) < 256 := by omega
    have z1 : wr.cell? ⟨B, X, none⟩ = some (.bool (decide ((X : Int) ∈ l.take j))) := (KR.out.2.1.cell X).trans (bcs_at _ (by omega))
    by_cases h2 : (X : Int) ∈ l.take j
    case pos =>
      have HR := Lib.hid (okl_twice (N := N) hx h2)
      rw [decide_eq_true h2] at z1
      clear hx hc hbl hbB h1 h2
      go_wp2_with fail
      go_ret
      exact ⟨ret_bool (by rw [← HO.out, HR.out]), HF.out⟩
    rw [decide_eq_false h2] at z1
    have f1 := KR.out.2.1.frozen X
    have HN := Lib.hid (okl_next hx KR.out.1 h1 h2)
    have hst := KR.out.2.1.set (i := X) (v := .bool true)
    rw [bcs_set] at hst
    have hst2 : Box (wr.setCell ⟨B, X, none⟩ (.bool true)) B (bcs fun y => decide ((y : Int) ∈ l.take (j + 1))) 60 := by
      have he : (bcs fun i => if i = X then true else decide ((i : Int) ∈ l.take j)) = bcs fun y => decide ((y : Int) ∈ l.take (j + 1)) := bcs_eq fun i _ => by
        rw [take_next hx]
        by_cases h : i = X
        · subst h
          rw [if_pos rfl, decide_eq_true (by simp)]
        · rw [if_neg h]
          simp only [List.mem_append, List.mem_singleton, decide_eq_decide]
          constructor
          · exact fun h => .inl h
          · rintro (h3 | h3)
            · exact h3
            · omega
      rwa [he] at hst
    have HST := Lib.hid (And.intro hst2 (KR.out.2.2.setCell (p := ⟨B, X, none⟩) (Nat.le_refl _) (.bool true)))
    clear hx hc hbl hbB h1 h2 hst hst2 KR
    go_wp2_with fail
    go_roundw
    case rel => exact ⟨j + 1, by omega, by go_num, HN.out, HST.out⟩
    case measure => simp [intOf]; omega
end Go.Proofs.Ytobchecnfkocdaa
