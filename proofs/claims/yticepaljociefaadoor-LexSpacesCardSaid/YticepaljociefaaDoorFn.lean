/- What the lexer asks of bytes. -/
import Derived.Test.YticepaljociefaaDoorStr
namespace Go.Proofs.YticepaljociefaaDoor
open Go.RowKit
set_option linter.unusedVariables false

theorem dq2 (c : Nat) : ((c : Int) == 2) = decide (c = 2) := by rw [Bool.eq_iff_iff]; simp; omega
theorem dq3 (c : Nat) : ((c : Int) == 3) = decide (c = 3) := by rw [Bool.eq_iff_iff]; simp; omega
theorem dq4 (c : Nat) : ((c : Int) == 4) = decide (c = 4) := by rw [Bool.eq_iff_iff]; simp; omega
theorem dq5 (c : Nat) : ((c : Int) == 5) = decide (c = 5) := by rw [Bool.eq_iff_iff]; simp; omega
theorem dq6 (c : Nat) : ((c : Int) == 6) = decide (c = 6) := by rw [Bool.eq_iff_iff]; simp; omega
theorem isLetter_any (b : UInt8) (w : World) (hK : KT w) : Calls Tryd.prog 38 #[bv b] w (QBool (isL b) w) := by
  have HC := Lib.hid (classOf_any b w hK)
  unfold QBool
  unfold QInt bv at HC
  unfold bv
  rw [← cl_L b]
  obtain ⟨n, hn⟩ : ∃ n, b.toNat = n := ⟨_, rfl⟩
  obtain ⟨c, hc⟩ : ∃ c, cl b = c := ⟨_, rfl⟩
  rw [hc, hn] at HC
  rw [hc, hn]
  clear hc hn hK
  go_enter Tryd.func38, Tryd.ntmps38
  go_wp2_with fail
  refine HC.out.mono ?_
  rintro e w' ⟨rfl, rfl⟩
  go_wp2_with fail
  go_ret
  exact ⟨congrArg (fun b => Ending.returned (.bool b)) (dq2 c), rfl⟩
theorem isDigit_any (b : UInt8) (w : World) (hK : KT w) : Calls Tryd.prog 55 #[bv b] w (QBool (isD b) w) := by
  have HC := Lib.hid (classOf_any b w hK)
  unfold QBool
  unfold QInt bv at HC
  unfold bv
  rw [← cl_D b]
  obtain ⟨n, hn⟩ : ∃ n, b.toNat = n := ⟨_, rfl⟩
  obtain ⟨c, hc⟩ : ∃ c, cl b = c := ⟨_, rfl⟩
  rw [hc, hn] at HC
  rw [hc, hn]
  clear hc hn hK
  go_enter Tryd.func55, Tryd.ntmps55
  go_wp2_with fail
  refine HC.out.mono ?_
  rintro e w' ⟨rfl, rfl⟩
  go_wp2_with fail
  go_ret
  exact ⟨congrArg (fun b => Ending.returned (.bool b)) (dq3 c), rfl⟩
theorem isSign_any (b : UInt8) (w : World) (hK : KT w) : Calls Tryd.prog 48 #[bv b] w (QBool (isSg b) w) := by
  have HC := Lib.hid (classOf_any b w hK)
  unfold QBool
  unfold QInt bv at HC
  unfold bv
  rw [← cl_S b]
  obtain ⟨n, hn⟩ : ∃ n, b.toNat = n := ⟨_, rfl⟩
  obtain ⟨c, hc⟩ : ∃ c, cl b = c := ⟨_, rfl⟩
  rw [hc, hn] at HC
  rw [hc, hn]
  clear hc hn hK
  by_cases h5 : c = 5
  case pos =>
    subst h5
    go_enter Tryd.func48, Tryd.ntmps48
    go_wp2_with fail
    refine HC.out.mono ?_
    rintro e w' ⟨rfl, rfl⟩
    go_wp2_with fail
    go_ret
    exact ⟨rfl, rfl⟩
  have hd5 : decide ((c : Int) = 5) = false := decide_eq_false (by omega)
  have he5 : ¬ (c : Int) = 5 := by omega
  by_cases h6 : c = 6
  case pos =>
    subst h6
    go_enter Tryd.func48, Tryd.ntmps48
    go_wp2_with fail
    refine HC.out.mono ?_
    rintro e w' ⟨rfl, rfl⟩
    go_wp2_with fail
    go_ret
    exact ⟨rfl, rfl⟩
  have hd6 : decide ((c : Int) = 6) = false := decide_eq_false (by omega)
  have he6 : ¬ (c : Int) = 6 := by omega
  go_enter Tryd.func48, Tryd.ntmps48
  go_wp2_with fail
  refine HC.out.mono ?_
  rintro e w' ⟨rfl, rfl⟩
  go_wp2_with fail
  go_ret
  exact ⟨congrArg (fun b => Ending.returned (.bool b)) (by rw [dq5, dq6]), rfl⟩
theorem continuesName_any (b : UInt8) (w : World) (hK : KT w) : Calls Tryd.prog 40 #[bv b] w (QBool (isP b) w) := by
  have HC := Lib.hid (classOf_any b w hK)
  unfold QBool
  unfold QInt bv at HC
  unfold bv
  rw [← cl_P b]
  obtain ⟨n, hn⟩ : ∃ n, b.toNat = n := ⟨_, rfl⟩
  obtain ⟨c, hc⟩ : ∃ c, cl b = c := ⟨_, rfl⟩
  rw [hc, hn] at HC
  rw [hc, hn]
  clear hc hn hK
  by_cases h2 : c = 2
  case pos =>
    subst h2
    go_enter Tryd.func40, Tryd.ntmps40
    go_wp2_with fail
    refine HC.out.mono ?_
    rintro e w' ⟨rfl, rfl⟩
    go_wp2_with fail
    go_ret
    exact ⟨rfl, rfl⟩
  have hd2 : decide ((c : Int) = 2) = false := decide_eq_false (by omega)
  have he2 : ¬ (c : Int) = 2 := by omega
  by_cases h3 : c = 3
  case pos =>
    subst h3
    go_enter Tryd.func40, Tryd.ntmps40
    go_wp2_with fail
    refine HC.out.mono ?_
    rintro e w' ⟨rfl, rfl⟩
    go_wp2_with fail
    go_ret
    exact ⟨rfl, rfl⟩
  have hd3 : decide ((c : Int) = 3) = false := decide_eq_false (by omega)
  have he3 : ¬ (c : Int) = 3 := by omega
  by_cases h4 : c = 4
  case pos =>
    subst h4
    go_enter Tryd.func40, Tryd.ntmps40
    go_wp2_with fail
    refine HC.out.mono ?_
    rintro e w' ⟨rfl, rfl⟩
    go_wp2_with fail
    go_ret
    exact ⟨rfl, rfl⟩
  have hd4 : decide ((c : Int) = 4) = false := decide_eq_false (by omega)
  have he4 : ¬ (c : Int) = 4 := by omega
  go_enter Tryd.func40, Tryd.ntmps40
  go_wp2_with fail
  refine HC.out.mono ?_
  rintro e w' ⟨rfl, rfl⟩
  go_wp2_with fail
  go_ret
  exact ⟨congrArg (fun b => Ending.returned (.bool b)) (by rw [dq2, dq3, dq4]), rfl⟩
theorem continuesLine_any (b : UInt8) (w : World) : Calls Tryd.prog 58 #[bv b] w (QBool (noLf b) w) := by
  unfold QBool bv noLf
  obtain ⟨n, hn⟩ : ∃ n, b.toNat = n := ⟨_, rfl⟩
  rw [hn]
  clear hn
  go_enter Tryd.func58, Tryd.ntmps58
  go_wp2_with fail
  go_ret
  exact ⟨congrArg (fun b => Ending.returned (.bool b)) (by rw [Bool.eq_iff_iff]; simp; omega), rfl⟩

/-- The first bytes of a string that belong. -/
theorem tw_take (p : UInt8 → Bool) : ∀ (l : List UInt8) (j : Nat), j ≤ l.length → (∀ i, i < j → ∀ b, l[i]? = some b → p b = true) → (∀ b, l[j]? = some b → p b = false) → l.takeWhile p = l.take j
  | [], j, h, _, _ => by simp
  | c :: r, 0, _, _, h => by
    have := h c rfl
    simp [this]
  | c :: r, j + 1, hj, h1, h2 => by
    have hc := h1 0 (by omega) c rfl
    rw [tw_cons hc, tw_take p r j (by simpa using hj) (fun i hi b hb => h1 (i + 1) (by omega) b (by simpa using hb)) (fun b hb => h2 b (by simpa using hb))]
    rfl
set_option maxRecDepth 100000 in
theorem beginning_of (fn : FuncId) (p : UInt8 → Bool) (l : List UInt8) (w : World) (hl : l.length ≤ 1000000) (hf : ∀ b, Calls Tryd.prog fn #[bv b] w (QBool (p b) w)) (eg : ∀ args w, (callFunc fn args).run Tryd.prog w = .ok (.enter fn args) w) :
    Calls Tryd.prog 39 #[.string (bs l), .func (.func fn) #[] #[]] w (QStr (l.takeWhile p) w) := by
  unfold QStr
  have HF := Lib.hid hf
  obtain ⟨L, hL⟩ : ∃ L, l.length = L := ⟨_, rfl⟩
  have hlen : ∀ wx, (Builtin.len_ #[9] 3 #[.string (bs l)]).run Tryd.prog wx = .ok (.int .i64 (L : Int)) wx := fun wx => by rw [bs_len l _ _ Tryd.underlying9, hL]
  have HL := Lib.hid hL
  rw [hL] at hl
  clear hf hL
  go_enter Tryd.func39, Tryd.ntmps39
  go_wp2_with fail
  go_loopw [5, 8] (fun x i wr => ∃ j : Nat, j ≤ L ∧ i = .int .i64 (j : Int) ∧ (∀ k, k < j → ∀ b, l[k]? = some b → p b = true) ∧ wr = w) (fun _ i _ => L - (intOf i).toNat)
  case atStart => exact ⟨0, Nat.zero_le _, rfl, fun k hk => absurd hk (by omega), rfl⟩
  case round =>
    obtain ⟨j, hj, rfl, hin, rfl⟩ := hrel
    have HIN := Lib.hid hin
    clear hin
    by_cases hlt : j < L
    case neg =>
      have hd : decide ((j : Int) < (L : Int)) = false := decide_eq_false (by omega)
      have he : l.takeWhile p = l := by
        obtain rfl : j = L := by omega
        rw [tw_take p l j (by rw [HL.out]; exact Nat.le_refl _) HIN.out (fun b hb => by rw [List.getElem?_eq_none (by rw [HL.out]; exact Nat.le_refl _)] at hb; cases hb)]
        exact List.take_of_length_le (by rw [HL.out]; exact Nat.le_refl _)
      have HE := Lib.hid he
      clear he
      go_wp2_with fail
      go_ret
      exact ⟨congrArg (fun x => Ending.returned (.string (bs x))) HE.out.symm, rfl⟩
    have hd : decide ((j : Int) < (L : Int)) = true := decide_eq_true (by omega)
    obtain ⟨b, hb⟩ : ∃ b, l[j]? = some b := ⟨_, List.getElem?_eq_getElem (by rw [HL.out]; exact hlt)⟩
    have hix : ∀ wx, (Instr.index 9 (.string (bs l)) (.int .i64 (j : Int))).run Tryd.prog wx = .ok (bv b) wx := fun wx => bs_idx hb _ Tryd.underlying9 wx
    have hcut : ∀ wx, (Instr.slice 9 (.string (bs l)) none (some (.int .i64 (j : Int))) none).run Tryd.prog wx = .ok (.string (bs (l.take j))) wx := fun wx => bs_upto (by rw [HL.out]; omega) _ Tryd.underlying9 wx
    have HB := Lib.hid hb
    clear hb
    cases hp : p b with
    | true =>
      have HC := Lib.hid (HF.out b)
      rw [hp] at HC
      unfold QBool at HC
      go_wp2_with fail
      refine HC.out.mono ?_
      rintro e w' ⟨rfl, rfl⟩
      go_wp2_with fail
      go_roundw
      case rel => exact ⟨j + 1, by omega, by go_num, fun k hk b' hb' => by
        rcases Nat.lt_or_ge k j with h | h
        · exact HIN.out k h b' hb'
        · obtain rfl : k = j := by omega
          rw [HB.out] at hb'
          cases hb'
          exact hp, trivial⟩
      case measure => simp [intOf]; omega
    | false =>
      have HC := Lib.hid (HF.out b)
      rw [hp] at HC
      unfold QBool at HC
      have HE := Lib.hid (tw_take p l j (by rw [HL.out]; omega) HIN.out (fun b' hb' => by rw [HB.out] at hb'; cases hb'; exact hp))
      go_wp2_with fail
      refine HC.out.mono ?_
      rintro e w' ⟨rfl, rfl⟩
      go_wp2_with fail
      go_ret
      exact ⟨congrArg (fun x => Ending.returned (.string (bs x))) HE.out.symm, rfl⟩
end Go.Proofs.YticepaljociefaaDoor
