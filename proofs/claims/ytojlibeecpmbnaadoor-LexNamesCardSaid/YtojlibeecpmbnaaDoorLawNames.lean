/- LexNames. -/
import Derived.Test.YtojlibeecpmbnaaDoorPlL
namespace Go.Proofs.YtojlibeecpmbnaaDoor
open Go.RowKit Go.Shelf
set_option linter.unusedVariables false
set_option linter.unusedSimpArgs false
attribute [local go_sem] bs_toList bs_e

theorem not_name {s : List UInt8} (hl : s.length ≤ 65536) (h : ∀ t : Tk, lxo s = ([t], 0, 0) → ¬ (t.k = 1 ∧ t.t = s ∧ t.p = 0 ∧ t.n = 0)) : nm s = false := by
  cases hn : nm s with
  | false => rfl
  | true =>
    obtain ⟨t, h1, h2⟩ := (one_name hl).1 hn
    exact absurd h2 (h t h1)
/-- What Lex hands back has no tokens where there is an error, and no place where there is none. -/
theorem lxo_cases (s : List UInt8) : ((lxo s).2.2 = 0 ∧ (lxo s).2.1 = 0) ∨ ((lxo s).2.2 ≠ 0 ∧ (lxo s).1 = []) := by
  unfold lxo
  split
  · exact .inr ⟨by decide, rfl⟩
  · cases lex s with
    | ok ts => exact .inl ⟨rfl, rfl⟩
    | no j => exact .inr ⟨(fun h => by cases h), rfl⟩

set_option maxHeartbeats 8000000 in
set_option maxRecDepth 100000 in
theorem lawNames_any (s : List UInt8) (w : World) (hK : KT w ∧ PT w) (hl : s.length ≤ 9223372036854775807) :
    Calls Tryd.prog 10 #[.string (bs s)] w (BoolPost true w) := by
  have HSN := Lib.hid (sane_any w hK.1 hK.2)
  have HKP := Lib.hid hK
  unfold BoolPost at HSN ⊢
  obtain ⟨L, hL⟩ : ∃ L, s.length = L := ⟨_, rfl⟩
  have HL := Lib.hid hL
  have hlen : ∀ wx, (Builtin.len_ #[9] 3 #[.string (bs s)]).run Tryd.prog wx = .ok (.int .i64 (L : Int)) wx := fun wx => by rw [bs_len s _ _ Tryd.underlying9, hL]
  rw [hL] at hl
  clear hK hL
  go_enter Tryd.func10, Tryd.ntmps10
  go_wp2_with fail
  refine HSN.out.mono ?_
  rintro e ws ⟨rfl, hbs⟩
  have HB := Lib.hid hbs
  clear hbs HSN
  by_cases h1000 : 1000 < L
  case pos =>
    have hd : decide ((1000 : Int) < (L : Int)) = true := decide_eq_true (by omega)
    have hd2 : (1000 : Int) < (L : Int) := by omega
    go_wp2_with fail
    go_ret
    exact ⟨rfl, HB.out⟩
  have hd : decide ((1000 : Int) < (L : Int)) = false := decide_eq_false (by omega)
  have hd2 : ¬ (1000 : Int) < (L : Int) := by omega
  have HLX := Lib.hid (lex_any s ws (HKP.out.1.below HB.out) (by have := HL.out; omega))
  have HOC := Lib.hid (lxo_cases s)
  have HNT := Lib.hid (fun (h : ∀ t : Tk, lxo s = ([t], 0, 0) → ¬ (t.k = 1 ∧ t.t = s ∧ t.p = 0 ∧ t.n = 0)) => not_name (by have := HL.out; omega) h)
  have HON := Lib.hid (one_name (s := s) (by have := HL.out; omega))
  have HTN := Lib.hid (fun V (hb : Below w.heap.size w V) => name_any s V (HKP.out.1.below hb) (by have := HL.out; omega))
  obtain ⟨o, ho⟩ : ∃ o, lxo s = o := ⟨_, rfl⟩
  have HO := Lib.hid ho
  rw [ho] at HLX HOC HNT HON
  obtain ⟨ts, at_, er⟩ := o
  unfold LexP at HLX
  simp only at HLX HOC
  clear ho
  go_wp2_with fail
  refine HLX.out.mono ?_
  rintro e wl ⟨A, c, rfl, hT, hb⟩
  have HB := Lib.hid (HB.out.trans (hb.mono HB.out.size))
  have HT := Lib.hid hT
  clear hT hb HLX
  have hal := (Below.refl wl.heap.size wl).alloc (Nat.le_refl _) (.cells #[.int .i64 1, .string (bs s), .int .i64 0, .int .i64 0] 35)
  have HTT := Lib.hid (text_any [⟨1, s, 0, 0⟩] (some ⟨wl.heap.size, 0, none⟩) 1 (wl.alloc (.cells #[.int .i64 1, .string (bs s), .int .i64 0, .int .i64 0] 35)) (TT.of_box (l := [⟨1, s, 0, 0⟩]) (Box.new wl #[.int .i64 1, .string (bs s), .int .i64 0, .int .i64 0] 35) (by simp)) ((HKP.out.1.below HB.out).below hal) ((HKP.out.2.below HB.out).below hal) (by simp) (by intro t ht; simp at ht; subst ht; have := HL.out; show s.length ≤ _; omega))
  have HBA := Lib.hid (HB.out.trans (hal.mono HB.out.size))
  clear hal
  unfold TextP at HTT
  rw [txo_name] at HTT
  unfold QBool at HTN
  by_cases hE : er = 0
  case neg =>
    have hEb : (er == 0) = false := by simpa using hE
    have HNM := Lib.hid (HNT.out (fun t h => by injection h with _ h; injection h with _ h; exact absurd h hE))
    rw [HNM.out] at HTT HTN
    simp only [if_true, Bool.false_eq_true, if_false] at HTT
    clear HNM HNT HON
    go_wp2_with fail
    refine HTT.out.mono ?_
    rintro e wt ⟨rfl, hbt⟩
    have HBT := Lib.hid (HBA.out.trans (hbt.mono HBA.out.size))
    clear hbt HTT
    go_wp2_with fail
    refine (HTN.out wt HBT.out).mono ?_
    rintro e wz ⟨rfl, rfl⟩
    go_wp2_with fail
    go_ret
    exact ⟨rfl, HBT.out⟩
  subst hE
  obtain rfl : at_ = 0 := by
    rcases HOC.out with h | h
    · exact h.2
    · exact absurd rfl h.1
  by_cases h1 : ts.length = 1
  case neg =>
    have hd1 : ((ts.length : Int) == 1) = false := by rw [beq_eq_false_iff_ne]; omega
    have hd3 : ¬ (ts.length : Int) = 1 := by omega
    have HNM := Lib.hid (HNT.out (fun t h => by injection h with h; subst h; exact absurd rfl h1))
    rw [HNM.out] at HTT HTN
    simp only [if_true, Bool.false_eq_true, if_false] at HTT
    clear HNM HNT HON
    go_wp2_with fail
    refine HTT.out.mono ?_
    rintro e wt ⟨rfl, hbt⟩
    have HBT := Lib.hid (HBA.out.trans (hbt.mono HBA.out.size))
    clear hbt HTT
    go_wp2_with fail
    refine (HTN.out wt HBT.out).mono ?_
    rintro e wz ⟨rfl, rfl⟩
    go_wp2_with fail
    go_ret
    exact ⟨rfl, HBT.out⟩
  obtain ⟨t, rfl⟩ : ∃ t, ts = [t] := by
    cases ts with
    | nil => cases h1
    | cons t r =>
      cases r with
      | nil => exact ⟨t, rfl⟩
      | cons x r => simp at h1
  obtain ⟨b0, o0, e0, hb0, x0, x1, x2, x3⟩ := HT.out.at_ (i := 0) rfl
  subst e0
  rw [Nat.zero_mul, Nat.add_zero] at x0 x1 x2 x3
  obtain ⟨tk, tt, tn, tp⟩ := t
  simp only at x0 x1 x2 x3
  clear h1 hb0
  by_cases hk : tk = 1
  case neg =>
    have hbk : (tk == 1) = false := by simpa using hk
    have HNM := Lib.hid (HNT.out (fun t h2 h => by injection h2 with h2; injection h2 with h2; subst h2; exact hk h.1))
    rw [HNM.out] at HTT HTN
    simp only [if_true, Bool.false_eq_true, if_false] at HTT
    clear HNM HNT HON
    go_wp2_with fail
    refine HTT.out.mono ?_
    rintro e wt ⟨rfl, hbt⟩
    have HBT := Lib.hid (HBA.out.trans (hbt.mono HBA.out.size))
    clear hbt HTT
    go_wp2_with fail
    refine (HTN.out wt HBT.out).mono ?_
    rintro e wz ⟨rfl, rfl⟩
    go_wp2_with fail
    go_ret
    exact ⟨rfl, HBT.out⟩
  subst hk
  by_cases ht : tt = s
  case neg =>
    have hbt : (tt == s) = false := by simpa using ht
    have HNM := Lib.hid (HNT.out (fun t h2 h => by injection h2 with h2; injection h2 with h2; subst h2; exact ht h.2.1))
    rw [HNM.out] at HTT HTN
    simp only [if_true, Bool.false_eq_true, if_false] at HTT
    clear HNM HNT HON
    go_wp2_with fail
    refine HTT.out.mono ?_
    rintro e wt ⟨rfl, hbt⟩
    have HBT := Lib.hid (HBA.out.trans (hbt.mono HBA.out.size))
    clear hbt HTT
    go_wp2_with fail
    refine (HTN.out wt HBT.out).mono ?_
    rintro e wz ⟨rfl, rfl⟩
    go_wp2_with fail
    go_ret
    exact ⟨rfl, HBT.out⟩
  subst ht
  by_cases hp : tp = 0
  case neg =>
    have hbp : (tp == 0) = false := by simpa using hp
    have HNM := Lib.hid (HNT.out (fun t h2 h => by injection h2 with h2; injection h2 with h2; subst h2; exact hp h.2.2.1))
    rw [HNM.out] at HTT HTN
    simp only [if_true, Bool.false_eq_true, if_false] at HTT
    clear HNM HNT HON
    go_wp2_with fail
    refine HTT.out.mono ?_
    rintro e wt ⟨rfl, hbt⟩
    have HBT := Lib.hid (HBA.out.trans (hbt.mono HBA.out.size))
    clear hbt HTT
    go_wp2_with fail
    refine (HTN.out wt HBT.out).mono ?_
    rintro e wz ⟨rfl, rfl⟩
    go_wp2_with fail
    go_ret
    exact ⟨rfl, HBT.out⟩
  subst hp
  by_cases hn : tn = 0
  case neg =>
    have hbn : (tn == 0) = false := by simpa using hn
    have HNM := Lib.hid (HNT.out (fun t h2 h => by injection h2 with h2; injection h2 with h2; subst h2; exact hn h.2.2.2))
    rw [HNM.out] at HTT HTN
    simp only [if_true, Bool.false_eq_true, if_false] at HTT
    clear HNM HNT HON
    go_wp2_with fail
    refine HTT.out.mono ?_
    rintro e wt ⟨rfl, hbt⟩
    have HBT := Lib.hid (HBA.out.trans (hbt.mono HBA.out.size))
    clear hbt HTT
    go_wp2_with fail
    refine (HTN.out wt HBT.out).mono ?_
    rintro e wz ⟨rfl, rfl⟩
    go_wp2_with fail
    go_ret
    exact ⟨rfl, HBT.out⟩
  subst hn
  have HNM := Lib.hid (show nm _ = true from HON.out.2 ⟨_, rfl, rfl, rfl, rfl, rfl⟩)
  rw [HNM.out] at HTT HTN
  simp only [if_true, Bool.false_eq_true, if_false] at HTT
  clear HNM HNT HON
  go_wp2_with fail
  refine HTT.out.mono ?_
  rintro e wt ⟨rfl, hbt⟩
  have HBT := Lib.hid (HBA.out.trans (hbt.mono HBA.out.size))
  clear hbt HTT
  go_wp2_with fail
  refine (HTN.out wt HBT.out).mono ?_
  rintro e wz ⟨rfl, rfl⟩
  go_wp2_with fail
  go_ret
  exact ⟨rfl, HBT.out⟩
end Go.Proofs.YtojlibeecpmbnaaDoor
