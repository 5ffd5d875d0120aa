/- The reference's Valid. -/
import Derived.Test.YtojlibeecpmbnaaDoorRLP
namespace Go.Proofs.YtojlibeecpmbnaaDoor
open Go.RowKit Go.Shelf
set_option linter.unusedVariables false
set_option linter.unusedSimpArgs false
attribute [local go_sem] bs_toList bs_e

set_option maxRecDepth 100000 in
/-- Name, of every string. -/
theorem rName_all (l : List UInt8) (w : World) : Calls Tryd.prog 21 #[.string (bs l)] w (QBool (nm l) w) := by
  by_cases hl : l.length ≤ 1000000
  · exact rName_any l w hl
  · unfold QBool
    have hf : nm l = false := by
      unfold nm
      rw [show decide (l.length ≤ 32) = false from decide_eq_false (by omega), Bool.and_false]
      rfl
    rw [hf]
    obtain ⟨L, hL⟩ : ∃ L, l.length = L := ⟨_, rfl⟩
    have hlen : ∀ wx, (Builtin.len_ #[9] 3 #[.string (bs l)]).run Tryd.prog wx = .ok (.int .i64 (L : Int)) wx := fun wx => by rw [bs_len l _ _ Tryd.underlying9, hL]
    have ha : decide ((L : Int) < 1) = false := decide_eq_false (by omega)
    have ha2 : ¬ (L : Int) < 1 := by omega
    have hd : decide ((32 : Int) < (L : Int)) = true := decide_eq_true (by omega)
    have hd2 : (32 : Int) < (L : Int) := by omega
    clear hL hf
    go_enter Tryd.func21, Tryd.ntmps21
    go_wp2_with fail
    go_ret
    exact ⟨rfl, rfl⟩
set_option maxHeartbeats 1000000 in
set_option maxRecDepth 100000 in
theorem rValid_any (t : Tk) (w : World) : Calls Tryd.prog 34 #[tkv t] w (BoolPost (vtk t) w) := by
  obtain ⟨k, s, n, p⟩ := t
  unfold BoolPost tkv vtk
  simp only
  have hal := (Below.refl w.heap.size w).alloc (Nat.le_refl _) (.cells #[.int .i64 k, .string (bs s), .int .i64 n, .int .i64 p] 35)
  have HB := Lib.hid hal
  have HNM := Lib.hid (rName_all s (w.alloc (.cells #[.int .i64 k, .string (bs s), .int .i64 n, .int .i64 p] 35)))
  have HSG := Lib.hid (fun b => rSign_any b (w.alloc (.cells #[.int .i64 k, .string (bs s), .int .i64 n, .int .i64 p] 35)))
  unfold QBool at HNM HSG
  clear hal
  by_cases h1 : k = 1
  case pos =>
    subst h1
    rw [if_pos rfl]
    cases hn : nm s with
    | false =>
      rw [hn] at HNM
      clear hn
      go_enter Tryd.func34, Tryd.ntmps34
      go_wp2_with fail
      refine HNM.out.mono ?_
      rintro e w1 ⟨rfl, rfl⟩
      go_wp2_with fail
      go_ret
      exact ⟨rfl, HB.out⟩
    | true =>
      rw [hn] at HNM
      clear hn
      by_cases h0 : n = 0
      · subst h0
        go_enter Tryd.func34, Tryd.ntmps34
        go_wp2_with fail
        refine HNM.out.mono ?_
        rintro e w1 ⟨rfl, rfl⟩
        go_wp2_with fail
        go_ret
        exact ⟨rfl, HB.out⟩
      · have hb0 : (n == 0) = false := by simpa using h0
        go_enter Tryd.func34, Tryd.ntmps34
        go_wp2_with fail
        refine HNM.out.mono ?_
        rintro e w1 ⟨rfl, rfl⟩
        go_wp2_with fail
        go_ret
        exact ⟨ret_b (by simp [h0]), HB.out⟩
  rw [if_neg h1]
  have h1b : (k == 1) = false := by simpa using h1
  by_cases h2 : k = 2
  case pos =>
    subst h2
    rw [if_pos rfl]
    by_cases hs : s = []
    · subst hs
      by_cases h0 : 0 ≤ n
      · have hd0 : decide ((0 : Int) ≤ n) = true := decide_eq_true h0
        by_cases hm : n ≤ 1099511627776
        · have hdm : decide (n ≤ (1099511627776 : Int)) = true := decide_eq_true hm
          go_enter Tryd.func34, Tryd.ntmps34
          go_wp2_with fail
          go_ret
          exact ⟨ret_b (by simp [h0, hm]), HB.out⟩
        · have hdm : decide (n ≤ (1099511627776 : Int)) = false := decide_eq_false hm
          go_enter Tryd.func34, Tryd.ntmps34
          go_wp2_with fail
          go_ret
          exact ⟨ret_b (by simp [hm]), HB.out⟩
      · have hd0 : decide ((0 : Int) ≤ n) = false := decide_eq_false h0
        go_enter Tryd.func34, Tryd.ntmps34
        go_wp2_with fail
        go_ret
        exact ⟨ret_b (by simp [h0]), HB.out⟩
    · have hsb : (s == []) = false := by simpa using hs
      go_enter Tryd.func34, Tryd.ntmps34
      go_wp2_with fail
      go_ret
      exact ⟨ret_b (by simp [hs]), HB.out⟩
  rw [if_neg h2]
  have h2b : (k == 2) = false := by simpa using h2
  by_cases h3 : k = 3
  case pos =>
    subst h3
    rw [if_pos rfl]
    have hlen : ∀ wx, (Builtin.len_ #[9] 3 #[.string (bs s)]).run Tryd.prog wx = .ok (.int .i64 (s.length : Int)) wx := fun wx => by rw [bs_len s _ _ Tryd.underlying9]
    by_cases hs : s.length = 1
    · obtain ⟨b, rfl⟩ : ∃ b, s = [b] := by
        cases s with
        | nil => cases hs
        | cons b r =>
          cases r with
          | nil => exact ⟨b, rfl⟩
          | cons c r => simp at hs
      have hlen1 : ∀ wx, (Builtin.len_ #[9] 3 #[.string (bs [b])]).run Tryd.prog wx = .ok (.int .i64 1) wx := fun wx => by rw [bs_len [b] _ _ Tryd.underlying9]; rfl
      have hix : ∀ wx, (Instr.index 9 (.string (bs [b])) (.int .i64 0)).run Tryd.prog wx = .ok (bv b) wx := fun wx => bs_idx (i := 0) rfl _ Tryd.underlying9 wx
      have HSB := Lib.hid (HSG.out b)
      have hh : ([b] : List UInt8).headD 0 = b := rfl
      rw [hh]
      obtain ⟨S, hS⟩ : ∃ S, bs [b] = S := ⟨_, rfl⟩
      rw [hS] at hlen1 hix HSB HB
      rw [hS]
      clear hlen HSG HNM hh hS hs
      cases hg : isSg b with
      | false =>
        rw [hg] at HSB
        clear hg
        go_enter Tryd.func34, Tryd.ntmps34
        go_wp2_with fail
        refine HSB.out.mono ?_
        rintro e w1 ⟨rfl, rfl⟩
        go_wp2_with fail
        go_ret
        exact ⟨rfl, HB.out⟩
      | true =>
        rw [hg] at HSB
        clear hg
        by_cases h0 : n = 0
        · subst h0
          go_enter Tryd.func34, Tryd.ntmps34
          go_wp2_with fail
          refine HSB.out.mono ?_
          rintro e w1 ⟨rfl, rfl⟩
          go_wp2_with fail
          go_ret
          exact ⟨rfl, HB.out⟩
        · have hb0 : (n == 0) = false := by simpa using h0
          go_enter Tryd.func34, Tryd.ntmps34
          go_wp2_with fail
          refine HSB.out.mono ?_
          rintro e w1 ⟨rfl, rfl⟩
          go_wp2_with fail
          go_ret
          exact ⟨ret_b (by simp [h0]), HB.out⟩
    · have hd : ((s.length : Int) == 1) = false := by rw [beq_eq_false_iff_ne]; omega
      have hd2 : ¬ (s.length : Int) = 1 := by omega
      rw [decide_eq_false hs]
      go_enter Tryd.func34, Tryd.ntmps34
      go_wp2_with fail
      go_ret
      exact ⟨rfl, HB.out⟩
  rw [if_neg h3]
  have h3b : (k == 3) = false := by simpa using h3
  clear HNM HSG
  go_enter Tryd.func34, Tryd.ntmps34
  go_wp2_with fail
  go_ret
  exact ⟨rfl, HB.out⟩

end Go.Proofs.YtojlibeecpmbnaaDoor
