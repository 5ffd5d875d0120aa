/- Valid tokens, and their texts. -/
import Derived.Test.YticepaljociefaaDoorSame
import Derived.Test.YticepaljociefaaDoorShelf
import Derived.Lib.ItoaLen
import Derived.Lib.AppendIntMem
namespace Go.Proofs.YticepaljociefaaDoor
open Go.RowKit Go.Shelf
set_option linter.unusedVariables false
set_option linter.unusedSimpArgs false
attribute [local go_sem] bs_toList bs_e

/-- A valid token. -/
def vtk (t : Tk) : Bool := if t.k = 1 then nm t.t && decide (t.n = 0) else if t.k = 2 then decide (t.t = []) && decide (0 ≤ t.n) && decide (t.n ≤ 1099511627776) else if t.k = 3 then decide (t.t.length = 1) && isSg (t.t.headD 0) && decide (t.n = 0) else false
/-- Its text. -/
def txk (t : Tk) : List UInt8 := if t.k = 2 then Lib.itoa t.n else t.t
/-- The table of powers. -/
def PT (w : World) : Prop := Lib.TabIs Tryd.prog w "internal/strconv.uint64pow10" .u64 Lib.pow10Tab
theorem PT.below {w w' : World} (h : PT w) (hb : Below w.heap.size w w') : PT w' := Lib.tabBelow_of_tabIs h w' hb

set_option maxRecDepth 100000 in
/-- Name, of every string. -/
theorem name_all (l : List UInt8) (w : World) (hK : KT w) : Calls Tryd.prog 20 #[.string (bs l)] w (QBool (nm l) w) := by
  by_cases hl : l.length ≤ 1000000
  · exact name_any l w hK hl
  · unfold QBool
    have hf : nm l = false := by
      unfold nm
      rw [show decide (l.length ≤ 32) = false from decide_eq_false (by omega), Bool.and_false]
      rfl
    rw [hf]
    obtain ⟨L, hL⟩ : ∃ L, l.length = L := ⟨_, rfl⟩
    have hlen : ∀ wx, (Builtin.len_ #[9] 3 #[.string (bs l)]).run Tryd.prog wx = .ok (.int .i64 (L : Int)) wx := fun wx => by rw [bs_len l _ _ Tryd.underlying9, hL]
    have hne : (l == []) = false := by
      rw [beq_eq_false_iff_ne]
      intro e
      rw [e] at hl
      simp at hl
    have hd : decide ((L : Int) ≤ 32) = false := decide_eq_false (by omega)
    have hd2 : ¬ (L : Int) ≤ 32 := by omega
    clear hL hf hK
    go_enter Tryd.func20, Tryd.ntmps20
    go_wp2_with fail
    go_ret
    exact ⟨rfl, rfl⟩
set_option maxHeartbeats 1000000 in
set_option maxRecDepth 100000 in
theorem isValid_any (t : Tk) (w : World) (hK : KT w) : Calls Tryd.prog 31 #[tkv t] w (BoolPost (vtk t) w) := by
  obtain ⟨k, s, n, p⟩ := t
  unfold BoolPost tkv vtk
  simp only
  have hal := (Below.refl w.heap.size w).alloc (Nat.le_refl _) (.cells #[.int .i64 k, .string (bs s), .int .i64 n, .int .i64 p] 35)
  have HB := Lib.hid hal
  have HNM := Lib.hid (name_all s _ (hK.below hal))
  have HSG := Lib.hid (fun b => isSign_any b _ (hK.below hal))
  unfold QBool at HNM HSG
  clear hal hK
  by_cases h1 : k = 1
  case pos =>
    subst h1
    rw [if_pos rfl]
    cases hn : nm s with
    | false =>
      rw [hn] at HNM
      clear hn
      go_enter Tryd.func31, Tryd.ntmps31
      go_wp2_with fail
      refine HNM.out.mono ?_
      rintro e w1 ⟨rfl, rfl⟩
      go_wp2_with fail
      go_ret
      exact ⟨rfl, HB.out⟩
    | true =>
      rw [hn] at HNM
      clear hn
      by_cases h0 : n = 0
      · subst h0
        go_enter Tryd.func31, Tryd.ntmps31
        go_wp2_with fail
        refine HNM.out.mono ?_
        rintro e w1 ⟨rfl, rfl⟩
        go_wp2_with fail
        go_ret
        exact ⟨rfl, HB.out⟩
      · have hb0 : (n == 0) = false := by simpa using h0
        go_enter Tryd.func31, Tryd.ntmps31
        go_wp2_with fail
        refine HNM.out.mono ?_
        rintro e w1 ⟨rfl, rfl⟩
        go_wp2_with fail
        go_ret
        exact ⟨ret_b (by simp [h0]), HB.out⟩
  rw [if_neg h1]
  have h1b : (k == 1) = false := by simpa using h1
  by_cases h2 : k = 2
  case pos =>
    subst h2
    rw [if_pos rfl]
    by_cases hs : s = []
    · subst hs
      by_cases h0 : 0 ≤ n
      · have hd0 : decide ((0 : Int) ≤ n) = true := decide_eq_true h0
        by_cases hm : n ≤ 1099511627776
        · have hdm : decide (n ≤ (1099511627776 : Int)) = true := decide_eq_true hm
          go_enter Tryd.func31, Tryd.ntmps31
          go_wp2_with fail
          go_ret
          exact ⟨ret_b (by simp [h0, hm]), HB.out⟩
        · have hdm : decide (n ≤ (1099511627776 : Int)) = false := decide_eq_false hm
          go_enter Tryd.func31, Tryd.ntmps31
          go_wp2_with fail
          go_ret
          exact ⟨ret_b (by simp [hm]), HB.out⟩
      · have hd0 : decide ((0 : Int) ≤ n) = false := decide_eq_false h0
        go_enter Tryd.func31, Tryd.ntmps31
        go_wp2_with fail
        go_ret
        exact ⟨ret_b (by simp [h0]), HB.out⟩
    · have hsb : (s == []) = false := by simpa using hs
      go_enter Tryd.func31, Tryd.ntmps31
      go_wp2_with fail
      go_ret
      exact ⟨ret_b (by simp [hs]), HB.out⟩
  rw [if_neg h2]
  have h2b : (k == 2) = false := by simpa using h2
  by_cases h3 : k = 3
  case pos =>
    subst h3
    rw [if_pos rfl]
    have hlen : ∀ wx, (Builtin.len_ #[9] 3 #[.string (bs s)]).run Tryd.prog wx = .ok (.int .i64 (s.length : Int)) wx := fun wx => by rw [bs_len s _ _ Tryd.underlying9]
    by_cases hs : s.length = 1
    · obtain ⟨b, rfl⟩ : ∃ b, s = [b] := by
        cases s with
        | nil => cases hs
        | cons b r =>
          cases r with
          | nil => exact ⟨b, rfl⟩
          | cons c r => simp at hs
      have hlen1 : ∀ wx, (Builtin.len_ #[9] 3 #[.string (bs [b])]).run Tryd.prog wx = .ok (.int .i64 1) wx := fun wx => by rw [bs_len [b] _ _ Tryd.underlying9]; rfl
      have hix : ∀ wx, (Instr.index 9 (.string (bs [b])) (.int .i64 0)).run Tryd.prog wx = .ok (bv b) wx := fun wx => bs_idx (i := 0) rfl _ Tryd.underlying9 wx
      have HSB := Lib.hid (HSG.out b)
      have hh : ([b] : List UInt8).headD 0 = b := rfl
      rw [hh]
      obtain ⟨S, hS⟩ : ∃ S, bs [b] = S := ⟨_, rfl⟩
      rw [hS] at hlen1 hix HSB HB
      rw [hS]
      clear hlen HSG HNM hh hS hs
      cases hg : isSg b with
      | false =>
        rw [hg] at HSB
        clear hg
        go_enter Tryd.func31, Tryd.ntmps31
        go_wp2_with fail
        refine HSB.out.mono ?_
        rintro e w1 ⟨rfl, rfl⟩
        go_wp2_with fail
        go_ret
        exact ⟨rfl, HB.out⟩
      | true =>
        rw [hg] at HSB
        clear hg
        by_cases h0 : n = 0
        · subst h0
          go_enter Tryd.func31, Tryd.ntmps31
          go_wp2_with fail
          refine HSB.out.mono ?_
          rintro e w1 ⟨rfl, rfl⟩
          go_wp2_with fail
          go_ret
          exact ⟨rfl, HB.out⟩
        · have hb0 : (n == 0) = false := by simpa using h0
          go_enter Tryd.func31, Tryd.ntmps31
          go_wp2_with fail
          refine HSB.out.mono ?_
          rintro e w1 ⟨rfl, rfl⟩
          go_wp2_with fail
          go_ret
          exact ⟨ret_b (by simp [h0]), HB.out⟩
    · have hd : ((s.length : Int) == 1) = false := by rw [beq_eq_false_iff_ne]; omega
      have hd2 : ¬ (s.length : Int) = 1 := by omega
      rw [decide_eq_false hs]
      go_enter Tryd.func31, Tryd.ntmps31
      go_wp2_with fail
      go_ret
      exact ⟨rfl, HB.out⟩
  rw [if_neg h3]
  have h3b : (k == 3) = false := by simpa using h3
  clear HNM HSG
  go_enter Tryd.func31, Tryd.ntmps31
  go_wp2_with fail
  go_ret
  exact ⟨rfl, HB.out⟩

theorem grow_below (w : World) (k : Nat) (os : Array Obj) : Below w.heap.size w (Go.Sort.grow (w.drewN k) os) := by
  refine ⟨rfl, rfl, rfl, by simp [Go.Sort.grow], fun k hk => ?_⟩
  show (w.heap ++ os)[k]? = _
  rw [Array.getElem?_append_left hk]
set_option maxHeartbeats 1000000 in
set_option maxRecDepth 100000 in
theorem textOf_any (t : Tk) (w : World) (hP : PT w) (h0 : -9223372036854775808 ≤ t.n) (h1 : t.n ≤ 9223372036854775807) : Calls Tryd.prog 32 #[tkv t] w (LStr (txk t) w) := by
  obtain ⟨k, s, n, p⟩ := t
  unfold LStr tkv txk
  simp only at h0 h1 ⊢
  have hal := (Below.refl w.heap.size w).alloc (Nat.le_refl _) (.cells #[.int .i64 k, .string (bs s), .int .i64 n, .int .i64 p] 35)
  have HB := Lib.hid hal
  have HIT := Lib.hid (strconv_Itoa n h0 h1 _ (hP.below hal))
  clear hal hP
  by_cases h2 : k = 2
  · subst h2
    rw [if_pos rfl]
    go_enter Tryd.func32, Tryd.ntmps32
    go_wp2_with fail
    refine HIT.out.mono ?_
    rintro e w1 ⟨rfl, kk, os, rfl⟩
    have HG := Lib.hid (HB.out.trans ((grow_below _ kk os).mono HB.out.size))
    go_wp2_with fail
    go_ret
    exact ⟨rfl, HG.out⟩
  · have h2b : (k == 2) = false := by simpa using h2
    rw [if_neg h2]
    go_enter Tryd.func32, Tryd.ntmps32
    go_wp2_with fail
    go_ret
    exact ⟨rfl, HB.out⟩
end Go.Proofs.YticepaljociefaaDoor
