/- RMul Lat Sumq OwB RfEv RfFew RfAlike RfCheck RfPoi RfPts RfTmP RfTimes RfCoef RfSplit RfExp RfRfP RfRfr RfSame LawEx in one text (for the limit of files). -/
import Derived.Test.YtjkojjimlebmjaaDoorInv
import Derived.Test.YtjkojjimlebmjaaDoorMem
import Derived.OrdersHeld
import Derived.Deep.RegionHeld
import Derived.Test.YtjkojjimlebmjaaDoorAnyP
import Derived.Test.YtjkojjimlebmjaaDoorSum
import Derived.Test.YtjkojjimlebmjaaDoorAdd
import Derived.Test.YtjkojjimlebmjaaDoorSl
import Derived.LoopTactic
import Derived.Test.YtjkojjimlebmjaaDoorSh
import Derived.Test.YtjkojjimlebmjaaDoorAlike
import Derived.Deep.QuietTactic
import Derived.BigQuiet
import Derived.Deep.Cut
import Derived.Deep.CutRange
import Derived.Test.YtjkojjimlebmjaaDoorCheck
import Derived.Test.YtjkojjimlebmjaaDoorCol
import Derived.Deep.AppendLies
import Derived.Test.YtjkojjimlebmjaaDoorTail
import Derived.Deep.RegionHeld3
import Derived.Test.YtjkojjimlebmjaaDoorSplit
import Derived.Test.YtjkojjimlebmjaaDoorExplain
import Derived.Test.YtjkojjimlebmjaaDoorRef
import Derived.Test.YtjkojjimlebmjaaDoorQl
import Derived.Lib.QuietBelow
import Derived.Test.YtjkojjimlebmjaaDoorRefresh
import Derived.Test.YtjkojjimlebmjaaDoorSane
namespace Go.Proofs.YtjkojjimlebmjaaDoor
section
open Go.RowKit
set_option linter.unusedVariables false

/-- The reduction, one power after the other: j steps. -/
def rs (p : Nat) : Nat → Nat
  | 0 => p
  | j + 1 => if (rs p j).testBit (14 - j) then rs p j ^^^ 283 <<< (6 - j) else rs p j
theorem rs_lt (p : Nat) (hp : p < 32768) : ∀ j, rs p j < 32768
  | 0 => hp
  | j + 1 => by
    have ih := rs_lt p hp j
    have h2 : (283 : Nat) <<< (6 - j) < 2 ^ 15 := by
      have h1 : 2 ^ (6 - j) ≤ 2 ^ 6 := Nat.pow_le_pow_right (by omega) (by omega)
      rw [Nat.shiftLeft_eq]
      have := Nat.mul_le_mul (Nat.le_refl 283) h1
      omega
    unfold rs
    split
    · exact Nat.xor_lt_two_pow (n := 15) ih h2
    · exact ih
theorem rs_xor (p q : Nat) : ∀ j, rs (p ^^^ q) j = rs p j ^^^ rs q j
  | 0 => rfl
  | j + 1 => by
    simp only [rs]
    rw [rs_xor p q j, Nat.testBit_xor]
    generalize rs p j = x
    generalize rs q j = y
    generalize (283 : Nat) <<< (6 - j) = z
    cases x.testBit (14 - j) <;> cases y.testBit (14 - j)
    · rfl
    · exact Nat.xor_assoc x y z
    · show (x ^^^ y) ^^^ z = (x ^^^ z) ^^^ y
      rw [Nat.xor_assoc, Nat.xor_comm y z, Nat.xor_assoc]
    · show x ^^^ y = (x ^^^ z) ^^^ (y ^^^ z)
      rw [xor4, Nat.xor_self, Nat.xor_zero]
/-- Two functions that keep sums and agree at the single bits agree. -/
theorem lin_all (N : Nat) (f g : Nat → Nat) (hf : ∀ x y, x < 2 ^ N → y < 2 ^ N → f (x ^^^ y) = f x ^^^ f y) (hg : ∀ x y, x < 2 ^ N → y < 2 ^ N → g (x ^^^ y) = g x ^^^ g y)
    (h : ∀ i, i < N → f (2 ^ i) = g (2 ^ i)) : ∀ k, k ≤ N → ∀ p, p < 2 ^ k → f p = g p
  | 0, _, p, hp => by
    obtain rfl : p = 0 := by simpa using hp
    have e1 := hf 0 0 (Nat.two_pow_pos N) (Nat.two_pow_pos N)
    have e2 := hg 0 0 (Nat.two_pow_pos N) (Nat.two_pow_pos N)
    rw [Nat.xor_self] at e1 e2
    rw [Nat.xor_self] at e1 e2
    rw [e1, e2]
  | k + 1, hk, p, hp => by
    by_cases hlt : p < 2 ^ k
    · exact lin_all N f g hf hg h k (by omega) p hlt
    · have hN : 2 ^ k < 2 ^ N := Nat.pow_lt_pow_right (by omega) (by omega)
      have hpb : p / 2 ^ k = 1 := by
        apply Nat.div_eq_of_lt_le
        · omega
        · rw [Nat.pow_succ] at hp; omega
      have hq : p ^^^ 2 ^ k < 2 ^ k := by
        apply Nat.lt_pow_two_of_testBit
        intro i hi
        rw [Nat.testBit_xor, Nat.testBit_two_pow]
        by_cases e : k = i
        · subst e
          rw [Nat.testBit_eq_decide_div_mod_eq, hpb]
          simp
        · rw [Nat.testBit_lt_two_pow (Nat.lt_of_lt_of_le hp (Nat.pow_le_pow_right (by omega) (by omega)))]
          simp [e]
      have e : p = (p ^^^ 2 ^ k) ^^^ 2 ^ k := by rw [Nat.xor_assoc, Nat.xor_self, Nat.xor_zero]
      have ih := lin_all N f g hf hg h k (by omega) _ hq
      rw [e, hf _ _ (Nat.lt_trans hq hN) hN, hg _ _ (Nat.lt_trans hq hN) hN, ih, h k (by omega)]
theorem rs_red (p : Nat) (hp : p < 32768) : rs p 7 = red p := by
  have hd : allB (fun i => rs (2 ^ i) 7 == red (2 ^ i)) 15 = true := by decide +kernel
  exact lin_all 15 (fun p => rs p 7) red (fun x y _ _ => rs_xor x y 7) (fun x y hx hy => red_xor x y hx hy) (fun i hi => by simpa using allB_at hd i hi) 15 (Nat.le_refl _) p hp
theorem bit_rem (p k : Nat) : ((p : Int) / 2 ^ k).tmod 2 = if p.testBit k then 1 else 0 := by
  have h1 : ((p : Int) / 2 ^ k) = ((p / 2 ^ k : Nat) : Int) := by simp
  rw [h1, Nat.testBit_eq_decide_div_mod_eq]
  generalize p / 2 ^ k = d
  rw [Int.tmod_eq_emod_of_nonneg (by omega)]
  by_cases e : d % 2 = 1
  · rw [if_pos (decide_eq_true e)]; omega
  · rw [if_neg (by rw [decide_eq_false e]; simp)]; omega

theorem red_int (q j : Nat) (hq : q < 32768) (hj : j < 7) : bits .xor .i64 (rs q j : Int) (wrap64 (283 * 2 ^ (14 - j - 8))) = ((rs q j ^^^ 283 <<< (6 - j) : Nat) : Int) := by
  have h1 := rs_lt q hq j
  have h2 : (283 : Nat) <<< (6 - j) < 2 ^ 15 := by
    have h1 : 2 ^ (6 - j) ≤ 2 ^ 6 := Nat.pow_le_pow_right (by omega) (by omega)
    rw [Nat.shiftLeft_eq]
    have := Nat.mul_le_mul (Nat.le_refl 283) h1
    omega
  have h3 : (283 : Int) * (2 : Int) ^ (14 - j - 8) = (((283 : Nat) <<< (6 - j) : Nat) : Int) := by
    rw [Nat.shiftLeft_eq, show 14 - j - 8 = 6 - j by omega]
    simp
  rw [h3]
  generalize (283 : Nat) <<< (6 - j) = z at *
  rw [IntWalk.wrap64_in _ ⟨by omega, by omega⟩, xor_i _ _ (by omega) (by omega)]

set_option maxHeartbeats 400000 in
set_option maxRecDepth 100000 in
theorem rmul_any (a b : UInt8) (w : World) :
    Calls Tryd.prog 55 #[bv a, bv b] w fun e w' => e = .returned (bv (gm a b)) ∧ w = w' := by
  have e0 : bv (gm a b) = .int .u8 (rs (pr a.toNat b.toNat 8) 7 : Int) := by
    unfold bv
    rw [gm_nat, rs_red _ (pr8_lt _ _ (u8_lt a))]
    rfl
  rw [e0]
  clear e0
  unfold bv
  have ha := u8_lt a
  have hb := u8_lt b
  have hp8 := pr8_lt a.toNat b.toNat ha
  have hr7 : rs (pr a.toNat b.toNat 8) 7 < 256 := by
    rw [rs_red _ hp8]
    exact red2_lt _
  generalize a.toNat = a at *
  generalize b.toNat = b at *
  obtain ⟨q, hq8⟩ : ∃ q, pr a b 8 = q := ⟨_, rfl⟩
  rw [hq8] at hp8 hr7 ⊢
  have HP8 := Lib.hid (And.intro hp8 hr7)
  have HQ8 := Lib.hid hq8
  clear hp8 hr7 hq8
  go_enter Tryd.func55, Tryd.ntmps55
  go_wp2_with fail
  go_loop [5, 6] (fun p i => ∃ k : Nat, k ≤ 8 ∧ i = .int .i64 k ∧ p = .int .i64 (pr a b k : Nat)) (fun _ i => 8 - (intOf i).toNat)
  case atStart => exact ⟨0, by omega, rfl, rfl⟩
  case round =>
    obtain ⟨k, hk, rfl, rfl⟩ := hrel
    by_cases hlt : k < 8
    · have hbit := bit_rem b k
      by_cases ht : b.testBit k = true
      · rw [if_pos ht] at hbit
        go_wp2_with fail
        go_round
        case rel =>
          refine ⟨k + 1, by omega, by go_num, ?_⟩
          simp only [pr]
          rw [if_pos ht]
          exact congrArg (Value.int .i64) (step_int a b k ha hlt)
        case measure => simp [intOf]; omega
      · rw [if_neg ht] at hbit
        go_wp2_with fail
        go_round
        case rel =>
          refine ⟨k + 1, by omega, by go_num, ?_⟩
          simp only [pr]
          rw [if_neg ht]
        case measure => simp [intOf]; omega
    · obtain rfl : k = 8 := by omega
      rw [HQ8.out]
      go_wp2_with fail
      go_loop [5, 7] (fun p i => ∃ j : Nat, j ≤ 7 ∧ i = .int .i64 ((14 - j : Nat) : Int) ∧ p = .int .i64 (rs q j : Nat)) (fun _ i => (intOf i).toNat)
      case atStart => exact ⟨0, by omega, rfl, rfl⟩
      case round =>
        obtain ⟨j, hj, rfl, rfl⟩ := hrel
        by_cases hlt : j < 7
        · have hbit := bit_rem (rs q j) (14 - j)
          have hq := rs_lt q HP8.out.1 j
          have HQ := Lib.hid hq
          have hi : 8 ≤ 14 - j := by omega
          have hi2 : 14 - j ≤ 14 := by omega
          by_cases ht : (rs q j).testBit (14 - j) = true
          · rw [if_pos ht] at hbit
            go_wp2_with fail
            go_round
            case rel =>
              refine ⟨j + 1, by omega, by rw [show ((14 - (j + 1) : Nat) : Int) = ((14 - j : Nat) : Int) - 1 by omega], ?_⟩
              simp only [rs]
              rw [if_pos ht]
              exact congrArg (Value.int .i64) (red_int q j HP8.out.1 hlt)
            case measure => simp [intOf]; omega
          · rw [if_neg ht] at hbit
            go_wp2_with fail
            go_round
            case rel =>
              refine ⟨j + 1, by omega, by rw [show ((14 - (j + 1) : Nat) : Int) = ((14 - j : Nat) : Int) - 1 by omega], ?_⟩
              simp only [rs]
              rw [if_neg ht]
            case measure => simp [intOf]; omega
        · obtain rfl : j = 7 := by omega
          have hq := HP8.out.2
          go_wp2_with fail
          go_ret
          exact ⟨rfl, rfl⟩

/-- The inverse and the error. -/
def iv (a : UInt8) : UInt8 := if a = 0 then 0 else ginv a
def ie (a : UInt8) : Int := if a = 0 then 1 else 0
theorem iv_zero : iv 0 = 0 ∧ ie 0 = 1 := ⟨rfl, rfl⟩
theorem iv_pos {a : UInt8} (h : a ≠ 0) : iv a = ginv a ∧ ie a = 0 := ⟨if_neg h, if_neg h⟩
theorem u8_of {a : UInt8} {k : Nat} (h : k < 256) (e : UInt8.ofNat k = a) : k = a.toNat := by
  rw [← e, UInt8.toNat_ofNat_of_lt' (by simpa [UInt8.size] using h)]
set_option maxHeartbeats 400000 in
set_option maxRecDepth 100000 in
theorem rinv_any (a : UInt8) (w : World) :
    Calls Tryd.prog 66 #[bv a] w fun e w' => e = .returned (.tuple #[bv (iv a), .int .i64 (ie a)]) ∧ w = w' := by
  have hM : ∀ k : Nat, k < 256 → Calls Tryd.prog 55 #[bv a, .int .u8 (k : Int)] w fun e w' => e = .returned (.int .u8 ((gm a (UInt8.ofNat k)).toNat : Int)) ∧ w = w' := fun k hk => by
    rw [← bv_of k hk]
    exact rmul_any a (UInt8.ofNat k) w
  have HM := Lib.hid hM
  clear hM
  generalize hAV : bv a = av at *
  go_enter Tryd.func66, Tryd.ntmps66
  go_wp2_with fail
  go_loop [4] (fun i => ∃ k : Nat, 1 ≤ k ∧ k ≤ 256 ∧ i = .int .i64 k ∧ ∀ j, 1 ≤ j → j < k → gm a (UInt8.ofNat j) ≠ 1) (fun i => 256 - (intOf i).toNat)
  case atStart => exact ⟨1, by omega, by omega, rfl, fun j h1 h2 => by omega⟩
  case round =>
    obtain ⟨k, hk1, hk, rfl, hno⟩ := hrel
    have HNO := Lib.hid hno
    clear hno
    by_cases hlt : k < 256
    · have HMK := Lib.hid (HM.out k hlt)
      obtain ⟨z, hz⟩ : ∃ z, gm a (UInt8.ofNat k) = z := ⟨_, rfl⟩
      rw [hz] at HMK
      have HZ := Lib.hid hz
      clear hz
      by_cases h1 : z = 1
      · subst h1
        go_wp2_with fail
        refine HMK.out.mono ?_
        rintro e w1 ⟨rfl, rfl⟩
        go_wp2_with fail
        go_ret2
        have hu := inv_unique HZ.out
        have ha : a ≠ 0 := by
          rintro rfl
          have := HZ.out
          rw [zero_gm] at this
          exact absurd this (by decide)
        refine ⟨?_, rfl⟩
        rw [(iv_pos ha).1, (iv_pos ha).2, ← hu, bv_of k hlt]
        rfl
      · have hd : ((z.toNat : Int) == 1) = false := by
          rw [beq_eq_false_iff_ne]
          exact fun e => h1 (bv_inj.1 (e.trans rfl))
        go_wp2_with fail
        refine HMK.out.mono ?_
        rintro e w1 ⟨rfl, rfl⟩
        go_wp2_with fail
        go_round
        case rel =>
          refine ⟨k + 1, by omega, by omega, by go_num, fun j hj1 hj2 => ?_⟩
          by_cases e : j = k
          · subst e
            rw [HZ.out]
            exact h1
          · exact HNO.out j hj1 (by omega)
        case measure => simp [intOf]; omega
    · obtain rfl : k = 256 := by omega
      have ha : a = 0 := by
        refine Classical.byContradiction fun ha => ?_
        have h0 := inv_ne a ha
        have h1 := HNO.out (ginv a).toNat (by
          rcases Nat.eq_zero_or_pos (ginv a).toNat with e | e
          · exact absurd (UInt8.toNat_inj.1 (e.trans rfl)) h0
          · exact e) (u8_lt _)
        rw [UInt8.ofNat_toNat] at h1
        exact h1 (gm_inv a ha)
      go_wp2_with fail
      go_ret2
      refine ⟨?_, rfl⟩
      subst ha
      rfl

end
section
set_option linter.unusedVariables false
section
variable {P : Program} {md : Region.Mode} {ops : Array Oper} {Q : Exit → Act → World → Prop} {st : Nat} {D : World → Prop}

/-- D holds as long as operation st has not come up. -/
def Lt (st : Nat) (D : World → Prop) (listed : Array Bool) (w : World) : Prop := listed.getD st true = false → D w
def wpAnyL (P : Program) (md : Region.Mode) (ops : Array Oper) (Q : Exit → Act → World → Prop) (st : Nat) (D : World → Prop) : Nat → Array Bool → Act → World → Prop
  | 0, listed, a, w => Region.ready md ops listed = [] ∧ Q .normal a w
  | fuel + 1, listed, a, w =>
    (Region.ready md ops listed = [] → Q .normal a w) ∧
    ∀ i ∈ Region.ready md ops listed, wpOp P ops Q i (fun a' w' => Lt st D (listed.setIfInBounds i true) w' ∧ wpAnyL P md ops Q st D fuel (listed.setIfInBounds i true) a' w') a w
theorem wpAny_of_later : ∀ (fuel : Nat) (listed : Array Bool) (a : Act) (w : World), wpAnyL P md ops Q st D fuel listed a w → wpAny P md ops Q fuel listed a w
  | 0, _, _, _, h => h
  | fuel + 1, _, _, _, h => ⟨h.1, fun i hi => wpOp_mono (fun a' w' h' => wpAny_of_later fuel _ a' w' h'.2) (h.2 i hi)⟩
theorem wpAnyL_first {i : Nat} {oi : Oper} {v : Value} (hi : ops[i]? = some oi) (hsel : ∀ (j : Nat) (o : Oper) cs b, ops[j]? = some o → o.op ≠ .select cs b)
    (hQ : ∀ c a w, Q (.panic c) (a.put oi.dst v) w → Q (.panic c) a w) (hne : i ≠ st) {os : Oper} (hos : ops[st]? = some os) (hst : ∃ e ∈ os.after, Region.binds md e = true ∧ e.on = i) :
    ∀ (fuel : Nat) (listed : Array Bool) (a : Act) (w : World),
      (∀ j oj, ops[j]? = some oj → j ≠ i → listed.getD j true = false → (∀ e ∈ oj.after, Region.binds md e = true → e.on ≠ i) → oi.apart ops oj = true) →
      i ∈ Region.ready md ops listed → listed.getD st true = false → YieldsIf P ops D oi v a → D w →
      wpAnyL P md ops Q st D fuel (listed.setIfInBounds i true) (a.put oi.dst v) w → wpAnyL P md ops Q st D (fuel + 1) listed a w := by
  intro fuel
  induction fuel with
  | zero =>
    intro listed a w _ hr hs hy hS H
    refine ⟨fun h => (by rw [h] at hr; cases hr), fun j hj => ?_⟩
    by_cases hji : j = i
    · subst hji; exact hy.wpOp hi hS ⟨fun _ => hS, H⟩
    · have := ready_mono hj hji
      rw [H.1] at this
      cases this
  | succ fuel ih =>
    intro listed a w hfree hr hs hy hS H
    refine ⟨fun h => (by rw [h] at hr; cases hr), fun j hj => ?_⟩
    by_cases hji : j = i
    · subst hji; exact hy.wpOp hi hS ⟨fun _ => hS, H⟩
    · have h1 := H.2 j (ready_mono hj hji)
      obtain ⟨hjun, oj, hoj, hall⟩ := mem_ready.1 hj
      have hnot : ∀ e ∈ oj.after, Region.binds md e = true → e.on ≠ i := fun e he hb heq => by
        have h1 := hall e he hb
        have h0 := (mem_ready.1 hr).1
        rw [heq] at h1
        rcases Nat.lt_or_ge i listed.size with h' | h'
        · simp [h'] at h0 h1; rw [h0] at h1; cases h1
        · simp [Array.getElem?_eq_none h'] at h1
      have hjst : j ≠ st := fun e => by
        subst e
        rw [hoj] at hos
        cases hos
        obtain ⟨e, he, hb, ho⟩ := hst
        exact hnot e he hb ho
      have h2 := wpOp_putIf hoj (hfree j oj hoj hji hjun hnot) (fun cs b => hsel i oi cs b hi) (fun cs b => hsel j oj cs b hoj) hQ hy h1
      have hfree' : ∀ k ok, ops[k]? = some ok → k ≠ i → (listed.setIfInBounds j true).getD k true = false →
          (∀ e ∈ ok.after, Region.binds md e = true → e.on ≠ i) → oi.apart ops ok = true := fun k ok hk hki hun hno => by
        refine hfree k ok hk hki ?_ hno
        by_cases hjk : j = k
        · subst hjk; exact hjun
        · rw [getD_set_ne true hjk] at hun; exact hun
      have hs2 : (listed.setIfInBounds j true).getD st true = false := by rw [getD_set_ne true hjst]; exact hs
      have hD : ∀ w', Lt st D ((listed.setIfInBounds i true).setIfInBounds j true) w' → D w' := fun w' h => h (by rw [getD_set_ne true hjst, getD_set_ne true hne]; exact hs)
      refine wpOp_mono (fun a' w' h3 => ⟨fun _ => hD w' h3.2.1, ih (listed.setIfInBounds j true) a' w' hfree' (ready_mono hr (Ne.symm hji)) hs2 h3.1 (hD w' h3.2.1) ?_⟩) h2
      rw [Array.setIfInBounds_comm _ _ hji]
      exact h3.2.2
/-- An operation is taken first; its slot is told. -/
theorem takeL {i : Nat} {oi os : Oper} {d : Option Tmp} {v : Value} {fuel : Nat} {listed : Array Bool} {a : Act} {w : World} (hi : ops[i]? = some oi) (hd : oi.dst = d) (hs : Region.noSelect ops = true) (hf : Region.free md ops listed i = true)
    (hr : (Region.ready md ops listed).contains i = true) (hQ : ∀ c a w, Q (.panic c) (a.put oi.dst v) w → Q (.panic c) a w) (hos : ops[st]? = some os) (hst : (i != st && !(listed.getD st true) && os.after.any (fun e => Region.binds md e && e.on == i)) = true)
    (hy : YieldsIf P ops D oi v a) (hD : D w) (h : wpAnyL P md ops Q st D fuel (listed.setIfInBounds i true) (a.put d v) w) : wpAnyL P md ops Q st D (fuel + 1) listed a w := by
  simp only [Bool.and_eq_true, bne_iff_ne, ne_eq, Bool.not_eq_true'] at hst
  refine wpAnyL_first hi (Region.noSelect_spec hs) hQ hst.1.1 hos ?_ fuel listed a w (Region.free_spec hi hf) (by simpa using hr) hst.1.2 hy hD (hd ▸ h)
  obtain ⟨k, hk, he⟩ := Array.any_eq_true.1 hst.2
  simp only [Bool.and_eq_true, beq_iff_eq] at he
  exact ⟨_, Array.getElem_mem hk, he⟩
/-- The only operation that may come up. -/
theorem oneL {i : Nat} {o : Oper} {fuel : Nat} {listed : Array Bool} {a : Act} {w : World} (hr : Region.ready md ops listed = [i]) (ho : ops[i]? = some o)
    (h : ∀ K' : Act → World → Prop, Shut (∀ a w, Lt st D (listed.setIfInBounds i true) w → wpAnyL P md ops Q st D fuel (listed.setIfInBounds i true) a w → K' a w) → if Region.wanted o (yielded ops a.tmps) = true then Oper.wp P o a w K' Q else K' (a.put o.dst undef) w) :
    wpAnyL P md ops Q st D (fuel + 1) listed a w := by
  refine ⟨fun h0 => absurd (hr ▸ h0) (by simp), fun j hj => ?_⟩
  rw [hr] at hj
  rw [List.mem_singleton.1 hj]
  exact wpOp_step ho (fun K' hK => h K' (fun a w hS hW => hK a w ⟨hS, hW⟩))
theorem doneL {listed : Array Bool} {a : Act} {w : World} (hr : Region.ready md ops listed = []) (h : Q .normal a w) : ∀ fuel, wpAnyL P md ops Q st D fuel listed a w
  | 0 => ⟨hr, h⟩
  | _ + 1 => ⟨fun _ => h, by rw [hr]; simp⟩
theorem wp_region_later {id : Nat} {a : Act} {w : World} (st : Nat) (D : World → Prop) (hm : P.follows .mixedOrders = true)
    (h : wpAnyL P .any ops Q st D ops.size (Array.replicate ops.size false) a w.drew) : (Code.region id ops true).wp P Q a w := wp_region_any hm (wpAny_of_later _ _ _ _ h)
end

end
section
set_option linter.unusedVariables false

theorem hv_xor (x : UInt8) : ∀ (l v : List UInt8), l.length = v.length → hv (List.zipWith (· ^^^ ·) l v) x = hv l x ^^^ hv v x
  | [], [], _ => by simp [hv]
  | a :: l, b :: v, h => by
    show (a ^^^ b) ^^^ gm x (hv (List.zipWith (· ^^^ ·) l v) x) = (a ^^^ gm x (hv l x)) ^^^ (b ^^^ gm x (hv v x))
    rw [hv_xor x l v (by simpa using h), gm_right]
    exact x4 _ _ _ _
theorem sumb_zip {a b : List UInt8} (h : a.length = b.length) : sumb a b = List.zipWith (· ^^^ ·) a b := by
  apply List.ext_getElem
  · rw [sumb_length, List.length_zipWith]; omega
  · intro i h1 h2
    rw [sumb_length] at h1
    simp only [sumb, List.getElem_map, List.getElem_range, List.getElem_zipWith]
    rw [List.getD_eq_getElem?_getD, List.getD_eq_getElem?_getD, List.getElem?_eq_getElem h1, List.getElem?_eq_getElem (by omega : i < b.length)]
    rfl
theorem sumb_getD {a b : List UInt8} (h : a.length = b.length) (i : Nat) : (sumb a b).getD i 0 = a.getD i 0 ^^^ b.getD i 0 := by
  rw [sumb_zip h]
  simp only [List.getD_eq_getElem?_getD]
  by_cases hi : i < a.length
  · rw [List.getElem?_zipWith, List.getElem?_eq_getElem hi, List.getElem?_eq_getElem (by omega : i < b.length)]
    rfl
  · rw [List.getElem?_eq_none (by rw [List.length_zipWith]; omega), List.getElem?_eq_none (by omega), List.getElem?_eq_none (by omega)]
    rfl
theorem pcf_sum {a b p q : List UInt8} (each i : Nat) (h : a.length = b.length) (hp : p.length = q.length) : pcf (sumb a b) (sumb p q) each i = List.zipWith (· ^^^ ·) (pcf a p each i) (pcf b q each i) := by
  unfold pcf
  rw [sumb_getD h, sumb_zip hp, List.drop_zipWith, List.take_zipWith]
  rfl
theorem pols_getD {s coins : List UInt8} {each k : Nat} (h : k < s.length) : (pols s coins each).getD k [] = pcf s coins each k := by
  unfold pols
  rw [List.getD_eq_getElem?_getD, List.getElem?_map, List.getElem?_range h]
  rfl
theorem psh_data {s coins : List UInt8} {each i k : Nat} {ep th mn : Int} (h : k < s.length) : (psh ep th mn (pols s coins each) i).data.getD k 0 = hv (pcf s coins each k) (UInt8.ofNat (i + 1)) := by
  show (((List.range (pols s coins each).length).map fun k => hv ((pols s coins each).getD k []) (UInt8.ofNat (i + 1))).getD k 0) = _
  rw [pols_length, List.getD_eq_getElem?_getD, List.getElem?_map, List.getElem?_range h]
  show hv ((pols s coins each).getD k []) _ = _
  rw [pols_getD h]
theorem psh_len {s coins : List UInt8} {each i : Nat} {ep th mn : Int} : (psh ep th mn (pols s coins each) i).data.length = s.length := by simp [psh, pols]
/-- A share of the sum. -/
theorem psh_sum {a b p q : List UInt8} {each i : Nat} {ep ep2 th mn : Int} (h : a.length = b.length) (hp : p.length = a.length * each) (hq : q.length = b.length * each) :
    psh ep th mn (pols (sumb a b) (sumb p q) each) i = rsh (psh ep th mn (pols a p each) i) (psh ep2 th mn (pols b q each) i) := by
  have hd : (psh ep th mn (pols (sumb a b) (sumb p q) each) i).data = sumb (psh ep th mn (pols a p each) i).data (psh ep2 th mn (pols b q each) i).data := by
    apply List.ext_getElem
    · rw [psh_len, sumb_length, sumb_length, psh_len]
    · intro k h1 h2
      rw [psh_len, sumb_length] at h1
      have e1 : (psh ep th mn (pols (sumb a b) (sumb p q) each) i).data.getD k 0 = hv (pcf (sumb a b) (sumb p q) each k) (UInt8.ofNat (i + 1)) := psh_data (by rw [sumb_length]; exact h1)
      have e2 : (sumb (psh ep th mn (pols a p each) i).data (psh ep2 th mn (pols b q each) i).data).getD k 0 = hv (pcf a p each k) (UInt8.ofNat (i + 1)) ^^^ hv (pcf b q each k) (UInt8.ofNat (i + 1)) := by
        rw [sumb_getD (by rw [psh_len, psh_len]; exact h), psh_data h1, psh_data (by omega)]
      rw [pcf_sum each k h (by rw [hp, hq, h]), hv_xor _ _ _ (by rw [pcf_length hp h1, pcf_length hq (by omega)]), ← e2] at e1
      rw [List.getD_eq_getElem?_getD, List.getD_eq_getElem?_getD, List.getElem?_eq_getElem (by rw [psh_len, sumb_length]; exact h1), List.getElem?_eq_getElem h2] at e1
      exact e1
  unfold rsh
  rw [← hd]
  rfl
theorem spe_of {s coins : List UInt8} {ep th mn : Int} (h1 : s.length ≤ 64) (h2 : 1 ≤ th ∧ th ≤ mn ∧ mn ≤ 8) (h3 : 0 ≤ ep ∧ ep ≤ 1048576) (h4 : coins.length = s.length * (th.toNat - 1)) : spe s ep th mn coins = 0 := by
  unfold spe
  rw [if_neg (by omega), if_neg (fun h => h h2), if_neg (fun h => h h3), if_neg (fun h => h h4)]
theorem spl_length {s coins : List UInt8} {ep th mn : Int} (h : spe s ep th mn coins = 0) : (spl s ep th mn coins).length = mn.toNat := by
  rw [spl_eq h]; simp
theorem spl_at {s coins : List UInt8} {ep th mn : Int} (h : spe s ep th mn coins = 0) {i : Nat} (hi : i < mn.toNat) : (spl s ep th mn coins)[i]? = some (psh ep th mn (pols s coins (th.toNat - 1)) i) := by
  rw [spl_eq h, List.getElem?_map, List.getElem?_range hi]
  rfl
/-- Sums of shares are the shares of the sum. -/
theorem spl_sum {a b p q : List UInt8} {ep ep2 th mn : Int} (ha : spe a ep th mn p = 0) (hb : spe b ep2 th mn q = 0) (h : a.length = b.length) :
    spe (sumb a b) ep th mn (sumb p q) = 0 ∧ ∀ (i : Nat) (u v : Shr), (spl a ep th mn p)[i]? = some u → (spl b ep2 th mn q)[i]? = some v → (spl (sumb a b) ep th mn (sumb p q))[i]? = some (rsh u v) := by
  obtain ⟨h1, h2, h3, h4⟩ := spe_zero ha
  obtain ⟨_, _, _, h5⟩ := spe_zero hb
  have h0 : spe (sumb a b) ep th mn (sumb p q) = 0 := spe_of (by rw [sumb_length]; exact h1) h2 h3 (by rw [sumb_length, sumb_length]; exact h4)
  refine ⟨h0, fun i u v hu hv' => ?_⟩
  have hi : i < mn.toNat := by
    have := (List.getElem?_eq_some_iff.1 hu).1
    rw [spl_length ha] at this
    exact this
  rw [spl_at ha hi] at hu
  rw [spl_at hb hi] at hv'
  cases hu
  cases hv'
  rw [spl_at h0 hi, psh_sum h h4 h5]

end
section
open Go.RowKit
set_option linter.unusedVariables false
set_option linter.unusedSimpArgs false

/-- Two rows of two types lie in two blocks. -/
theorem own_types {w : World} {B1 B2 s1 s2 n1 n2 : Nat} {e1 e2 : TypeId} {v1 v2 : Value} {xs1 xs2 : List Value} (h1 : w.ownsRow B1 e1 s1 v1 n1 xs1) (h2 : w.ownsRow B2 e2 s2 v2 n2 xs2) (hne : e1 ≠ e2) : v1.ownBlock = none ∨ v1.ownBlock ≠ v2.ownBlock := by
  rcases h1.2 with ⟨hv, _⟩ | ⟨g, cap, cur, hv, _, hg, _⟩
  · subst hv
    exact .inl rfl
  · subst hv
    refine .inr (fun e => ?_)
    rcases h2.2 with ⟨hv2, _⟩ | ⟨g2, cap2, cur2, hv2, _, hg2, _⟩
    · subst hv2
      cases e
    · subst hv2
      injection e with e
      simp only at e
      subst e
      rw [hg] at hg2
      injection hg2 with hg2
      injection hg2 with _ hg2
      exact hne hg2
theorem box_own {w : World} {b B s n : Nat} {cs : Array Value} {t e : TypeId} {v : Value} {xs : List Value} (hb : Box w b cs t) (h : w.ownsRow B e s v n xs) (hne : t ≠ e) : v.ownBlock ≠ some b := by
  intro e1
  rcases h.2 with ⟨hv, _⟩ | ⟨g, cap, cur, hv, _, hg, _⟩
  · subst hv
    cases e1
  · subst hv
    injection e1 with e1
    simp only at e1
    subst e1
    unfold Box at hb
    rw [hb] at hg
    injection hg with hg
    injection hg with _ hg
    exact hne hg
theorem Sl.of_own {w : World} {B d : Nat} {D : Option Addr} {l : List UInt8} (h : w.ownsRow B 5 1 (.slice D l.length d) l.length (l.map bv)) : Sl w D l d := by
  have h1 := Bs.of_own h
  refine ⟨h1.1, h1.2.1, h1.2.2, fun hA => ?_⟩
  subst hA
  rcases h.2 with ⟨hv, hn⟩ | ⟨g, cap, cur, hv, _⟩
  · injection hv with _ _ hc
    exact ⟨List.length_eq_zero_iff.1 hn, hc⟩
  · injection hv with hv
    cases hv
def OB (w0 w : World) (A : Option Addr) (c : Nat) (l : List Shr) : Prop := ∃ bs : List (List Value), bs.length = l.length ∧ (∀ b ∈ bs, b.length = 5) ∧ w.ownsRow w0.heap.size 36 5 (.slice A l.length c) l.length bs.flatten ∧
  ∀ (i : Nat) (s : Shr), l[i]? = some s → ∃ D d, bs[i]? = some (shc s D d) ∧ w.ownsRow w0.heap.size 5 1 (.slice D s.data.length d) s.data.length (s.data.map bv)
theorem OB.nil (w0 w : World) : OB w0 w none 0 [] := ⟨[], rfl, by simp, World.ownsRow_nil _ _ _ _, fun i s hi => by cases hi⟩
theorem OB.up {w0 w w' : World} {A : Option Addr} {c : Nat} {l : List Shr} (h : OB w0 w A c l) (hb : Below w.heap.size w w') : OB w0 w' A c l := by
  obtain ⟨bs, hl, h5, ho, hs⟩ := h
  refine ⟨bs, hl, h5, own_below ho hb, fun i s hi => ?_⟩
  obtain ⟨D, d, h1, h2⟩ := hs i s hi
  exact ⟨D, d, h1, own_below h2 hb⟩
theorem OB.ss {w0 w : World} {A : Option Addr} {c : Nat} {l : List Shr} (h : OB w0 w A c l) : SS w A l c := by
  obtain ⟨bs, hl, h5, ho, hs⟩ := h
  exact OwnS.ss (B := w0.heap.size) (w := w) ⟨bs, hl, h5, ho, fun i s hi => by
    obtain ⟨D, d, h1, h2⟩ := hs i s hi
    exact ⟨D, d, h1, Sl.of_own h2⟩⟩ (Below.refl _ _)
/-- append of one share whose bytes are the call's own. -/
theorem wpList_append_ob {w0 w : World} {ops : Array Oper} {rest : List Oper} {o : Oper} {a : Act} {Q : Exit → Act → World → Prop} (hgd : o.guard = none) (s x : Operand)
    (ho : o.op = .call { callee := .builtin .append, args := #[s, x], argTypes := #[22, 22] })
    (A : Option Addr) (l : List Shr) (n c : Nat) (hn : l.length = n) (hs : a.eval s = .slice A n c) (hO : OB w0 w A c l) (q : Nat) (u : Shr) (D : Option Addr) (d : Nat) (hx : a.eval x = .slice (some ⟨q, 0, none⟩) 1 1)
    (hq : Box w q #[.int .i64 u.ep, .int .i64 u.ix, .int .i64 u.th, .int .i64 u.mn, .slice D u.data.length d] 36) (hD : w.ownsRow w0.heap.size 5 1 (.slice D u.data.length d) u.data.length (u.data.map bv)) (hb : n ≤ 100000) (hb0 : Below w0.heap.size w0 w)
    (h : ∀ A' c' w', OB w0 w' A' c' (l ++ [u]) → Below w0.heap.size w0 w' → wpList Tryd.prog ops Q rest (a.put o.dst (.slice A' (n + 1) c')) w') : wpList Tryd.prog ops Q (o :: rest) a w := by
  subst hn
  obtain ⟨i0, hi0, hz0, hz1, hz2⟩ := info_parts sh_info
  obtain ⟨bs, hl, h5, hown, hss⟩ := hO
  have hnews : ∀ j v, (shc u D d)[j]? = some v → w.cell? ((⟨q, 0, none⟩ : Addr).add j) = some v := World.news_of_block hq
  refine wpList_append_own w hgd s x 22 ho w0.heap.size 36 i0 (.agg #[.int .i64 0, .int .i64 0, .int .i64 0, .int .i64 0, .slice none 0 0]) 5 56 Tryd.underlying22 hi0 hz0 hz1 hz2 rfl (by decide) _ l.length bs.flatten hs hown ⟨q, 0, none⟩ 1 1 (shc u D d) hx rfl hnews (shc_one u D d) (le_maxLen (by omega)) (by omega) hb0.size ?_
  intro v' w' ho' hg' _
  obtain ⟨A1, c1, rfl⟩ := own_form ho'
  have hkeep : ∀ {D2 : Option Addr} {n2 d2 : Nat} {xs : List Value}, w.ownsRow w0.heap.size 5 1 (.slice D2 n2 d2) n2 xs → w'.ownsRow w0.heap.size 5 1 (.slice D2 n2 d2) n2 xs := fun h2 => h2.kept hg' (own_types h2 hown (by decide))
  refine h A1 c1 w' ⟨bs ++ [shc u D d], by simp [hl], fun b hb => ?_, ?_, fun i t hi => ?_⟩ (hb0.grown hg' hb0.size (fun i hi => (hown.lt i hi).1))
  · rcases List.mem_append.1 hb with h | h
    · exact h5 b h
    · rw [List.mem_singleton.1 h]
      rfl
  · rw [List.length_append, List.flatten_append]
    simpa using ho'
  · by_cases e : i < l.length
    · rw [List.getElem?_append_left e] at hi
      obtain ⟨D2, d2, h1, h2⟩ := hss i t hi
      exact ⟨D2, d2, by rw [List.getElem?_append_left (by omega)]; exact h1, hkeep h2⟩
    · have hil := (List.getElem?_eq_some_iff.1 hi).1
      rw [List.length_append, List.length_singleton] at hil
      obtain rfl : i = l.length := by omega
      rw [List.getElem?_append_right (Nat.le_refl _)] at hi
      simp at hi
      subst hi
      exact ⟨D, d, by rw [List.getElem?_append_right (by omega), hl]; simp, hkeep hD⟩

end
section
open Go.RowKit
set_option linter.unusedVariables false

set_option maxHeartbeats 1000000 in
set_option maxRecDepth 100000 in
theorem reval_any (A : Option Addr) (c : Nat) (l : List UInt8) (at_ : UInt8) (w : World) (hS : Sl w A l c) (hl : l.length ≤ 1000000) :
    Calls Tryd.prog 57 #[.slice A l.length c, bv at_] w fun e w' => e = .returned (bv (hv l at_)) ∧ w = w' := by
  have HS := Lib.hid hS
  have HE : Hid (∀ k, ek l at_ (k + 1) = ek l at_ k ^^^ gm (l.getD k 0) (pw at_ k)) := fun k => rfl
  have HP : Hid (∀ k, pw at_ (k + 1) = gm (pw at_ k) at_) := fun k => rfl
  have HF := Lib.hid (ek_hv l at_)
  obtain ⟨n, hn⟩ : ∃ n, l.length = n := ⟨_, rfl⟩
  have HN := Lib.hid hn
  rw [hn] at hl ⊢
  clear hS hn
  go_enter Tryd.func57, Tryd.ntmps57
  go_wp2_with fail
  go_loopw [5, 6, 7] (fun y p i wr => ∃ k : Nat, k ≤ n ∧ y = .int .u8 ((ek l at_ k).toNat : Int) ∧ p = bv (pw at_ k) ∧ i = .int .i64 k ∧ w = wr) (fun _ _ i _ => n - (intOf i).toNat)
  case atStart => exact ⟨0, Nat.zero_le _, rfl, rfl, rfl, rfl⟩
  case round =>
    obtain ⟨k, hk, rfl, rfl, rfl, rfl⟩ := hrel
    by_cases hlt : k < n
    · obtain ⟨x, hx⟩ : ∃ x, l[k]? = some x := ⟨_, List.getElem?_eq_getElem (by rw [HN.out]; exact hlt)⟩
      obtain ⟨b, off, rfl, hb, hc⟩ := HS.out.1 (by rw [HN.out]; omega)
      have k0 := hc k x hx
      have hxd : l.getD k 0 = x := by rw [List.getD_eq_getElem?_getD, hx]; rfl
      have hE := HE.out k
      rw [hxd] at hE
      have hP := HP.out k
      obtain ⟨pk, hpk⟩ : ∃ pk, pw at_ k = pk := ⟨_, rfl⟩
      obtain ⟨yk, hyk⟩ : ∃ yk, ek l at_ k = yk := ⟨_, rfl⟩
      rw [hpk, hyk] at hE
      rw [hpk] at hP
      have HM : Hid (Calls Tryd.prog 55 #[bv x, bv pk] w fun e w' => e = .returned (.int .u8 ((gm x pk).toNat : Int)) ∧ w = w') := rmul_any x pk w
      have HM2 := Lib.hid (rmul_any pk at_ w)
      have hxor := xor_u8' yk (gm x pk)
      rw [hpk, hyk]
      have HR := Lib.hid (And.intro hE hP)
      have i1 : (0 : Int) ≤ (k : Int) := by omega
      have i2 : (k : Int) < (n : Int) := by omega
      generalize gm x pk = g at *
      generalize yk ^^^ g = z at *
      clear hE hP hxd hc hx hpk hyk
      go_wp2_with fail
      refine HM.out.mono ?_
      rintro e w2 ⟨rfl, rfl⟩
      go_wp2_with fail
      refine HM2.out.mono ?_
      rintro e w3 ⟨rfl, rfl⟩
      go_wp2_with fail
      go_roundw
      case rel => exact ⟨k + 1, by omega, by rw [HR.out.1], by rw [HR.out.2], by go_num, by first | rfl | trivial⟩
      case measure => simp [intOf]; omega
    · obtain rfl : k = n := by omega
      have HV : Hid (Value.int .u8 ((ek l at_ k).toNat : Int) = bv (hv l at_)) := by
        have := HF.out
        rw [HN.out] at this
        rw [Hid, this]
        rfl
      generalize ek l at_ k = ekk at *
      go_wp2_with fail
      go_ret
      exact ⟨congrArg Ending.returned HV.out, rfl⟩

end
section
open Go.RowKit
set_option linter.unusedVariables false

def few (l : List Shr) : Bool := l.all (fun u => decide (u.data.length ≤ 70)) && decide (l.length ≤ 10)

set_option maxHeartbeats 1000000 in
set_option maxRecDepth 100000 in
theorem rfew_any (A : Option Addr) (c : Nat) (l : List Shr) (w : World) (hS : SS w A l c) :
    Calls Tryd.prog 5 #[.slice A l.length c] w fun e w' => e = .returned (.bool (few l)) ∧ w = w' := by
  have HS := Lib.hid hS
  have hlm := Nat.le_trans hS.2.1 hS.2.2.1
  unfold maxLen at hlm
  obtain ⟨n, hn⟩ : ∃ n, l.length = n := ⟨_, rfl⟩
  have HN := Lib.hid hn
  have HT : Hid (∀ (k : Nat) (u : Shr), l[k]? = some u → 70 < u.data.length → few l = false) := fun k u hu h => by
    unfold few
    rw [Bool.and_eq_false_iff, List.all_eq_false]
    exact Or.inl ⟨u, List.mem_of_getElem? hu, by simpa using h⟩
  have HA : Hid ((∀ (j : Nat) (u : Shr), j < n → l[j]? = some u → u.data.length ≤ 70) → few l = decide ((n : Int) ≤ 10)) := fun h => by
    unfold few
    have h1 : l.all (fun u => decide (u.data.length ≤ 70)) = true := by
      rw [List.all_eq_true]
      intro u hu
      obtain ⟨j, hj, rfl⟩ := List.mem_iff_getElem.1 hu
      exact decide_eq_true (h j _ (by omega) (List.getElem?_eq_getElem hj))
    rw [h1, hn, Bool.true_and]
    by_cases h2 : n ≤ 10
    · rw [decide_eq_true h2, decide_eq_true (by omega)]
    · rw [decide_eq_false h2, decide_eq_false (by omega)]
  rw [hn] at hlm ⊢
  clear hS hn
  go_enter Tryd.func5, Tryd.ntmps5
  go_wp2_with fail
  go_loopw [3] (fun i wr => ∃ k : Nat, k ≤ n ∧ i = .int .i64 k ∧ (∀ (j : Nat) (u : Shr), j < k → l[j]? = some u → u.data.length ≤ 70) ∧ w = wr) (fun i _ => n - (intOf i).toNat)
  case atStart => exact ⟨0, Nat.zero_le _, rfl, fun j u h => by omega, rfl⟩
  case round =>
    obtain ⟨k, hk, rfl, hall, rfl⟩ := hrel
    have HAL := Lib.hid hall
    clear hall
    by_cases hlt : k < n
    · obtain ⟨u, hu⟩ : ∃ u, l[k]? = some u := ⟨_, List.getElem?_eq_getElem (by rw [HN.out]; exact hlt)⟩
      obtain ⟨b, off, rfl, hb, hat⟩ := HS.out.1 (by rw [HN.out]; omega)
      obtain ⟨D, d, k0, k1, k2, k3, k4, hD⟩ := hat k u hu
      have HF := Lib.hid (HT.out k u hu)
      have i1 : (0 : Int) ≤ (k : Int) := by omega
      have i2 : (k : Int) < (n : Int) := by omega
      have HU := Lib.hid hu
      clear hat hD hu k0 k1 k2 k3
      obtain ⟨ul, hul⟩ : ∃ ul, u.data.length = ul := ⟨_, rfl⟩
      have HUL := Lib.hid hul
      rw [hul] at HF k4
      clear hul
      by_cases h70 : 70 < ul
      · have d1 : decide ((70 : Int) < (ul : Int)) = true := decide_eq_true (by omega)
        have d2 : (70 : Int) < (ul : Int) := by omega
        go_wp2_with fail
        go_ret
        exact ⟨ret_bool (HF.out h70).symm, rfl⟩
      · have d1 : decide ((70 : Int) < (ul : Int)) = false := decide_eq_false (by omega)
        have d2 : ¬ (70 : Int) < (ul : Int) := by omega
        go_wp2_with fail
        go_roundw
        case rel => exact ⟨k + 1, by omega, by go_num, fun j v hj hv => by
          by_cases e : j = k
          · subst e
            have := HU.out.symm.trans hv
            injection this with this
            rw [← this, HUL.out]
            omega
          · exact HAL.out j v (by omega) hv, by first | rfl | trivial⟩
        case measure => simp [intOf]; omega
    · obtain rfl : k = n := by omega
      have HFW := Lib.hid (HA.out HAL.out)
      go_wp2_with fail
      go_ret
      exact ⟨ret_bool HFW.out.symm, rfl⟩

end
section
open Go.RowKit
set_option linter.unusedVariables false
set_option linter.unusedSimpArgs false

set_option maxHeartbeats 4000000 in
set_option maxRecDepth 100000 in
theorem ralike_some (b off n : Nat) (c : Nat) (l : List Shr) (e0 x0 t0 m0 : Int) (D0 : List UInt8) (A0 : Option Addr) (d0 c0 : Nat) (w : World) (hS : SS w (some ⟨b, off, none⟩) l c) (hn : l.length = n) (hl : n ≤ 1000000) (h0 : l[0]? = some ⟨e0, x0, t0, m0, D0⟩) (hd0 : D0.length = d0) (hb : b < w.heap.size)
    (z0 : w.cell? ⟨b, off, none⟩ = some (.int .i64 e0)) (z1 : w.cell? ⟨b, off + 1, none⟩ = some (.int .i64 x0)) (z2 : w.cell? ⟨b, off + 2, none⟩ = some (.int .i64 t0)) (z3 : w.cell? ⟨b, off + 3, none⟩ = some (.int .i64 m0)) (z4 : w.cell? ⟨b, off + 4, none⟩ = some (.slice A0 d0 c0)) :
    Calls Tryd.prog 51 #[.slice (some ⟨b, off, none⟩) n c] w fun e w' => e = .returned (.bool (alk l)) ∧ Below w.heap.size w w' := by
  have hp : 0 < n := by
    have := (List.getElem?_eq_some_iff.1 h0).1
    omega
  have HAC := alk_cons h0
  simp only [hd0] at HAC
  have HFALSE : Hid (t0 < 1 ∨ m0 < t0 ∨ 8 < m0 ∨ 64 < d0 → alk l = false) := fun h => by
    rw [HAC]
    rcases h with h | h | h | h
    · rw [decide_eq_false (by omega)]; rfl
    · rw [decide_eq_false (by omega)]; rfl
    · rw [decide_eq_false (by omega)]; rfl
    · rw [decide_eq_false (by omega : ¬ d0 ≤ 64), Bool.and_false]; rfl
  have HTRUE : Hid (¬ t0 < 1 → ¬ m0 < t0 → ¬ 8 < m0 → ¬ 64 < d0 → alkFrom ⟨e0, x0, t0, m0, D0⟩ 0 (l.drop 0) = alk l) := fun q1 q2 q3 q4 => by
    rw [HAC, decide_eq_true (by omega), decide_eq_true (by omega : d0 ≤ 64)]
    rfl
  have i1 : (0 : Int) < (n : Int) := by omega
  have i2 : ((n : Int) == 0) = false := by simp; omega
  have HS := Lib.hid hS
  have HN := Lib.hid hn
  have HD := Lib.hid hd0
  have H0 := Lib.hid h0
  clear hS hn HAC hd0 h0
  by_cases p0 : t0 < 1
  · have f0 : decide (t0 < (1 : Int)) = true := decide_eq_true (by omega)
    have g0 : t0 < (1 : Int) := by omega
    have HF := Lib.hid (HFALSE.out (by omega))
    clear HFALSE
    go_enter Tryd.func51, Tryd.ntmps51
    go_upto_region 4 with fail
    have hb1 := (Below.refl w.heap.size w).alloc (Nat.le_refl _) (.cells #[.int .i64 e0, .int .i64 x0, .int .i64 t0, .int .i64 m0, .slice A0 d0 c0] 36)
    have xb := Box.new w #[.int .i64 e0, .int .i64 x0, .int .i64 t0, .int .i64 m0, .slice A0 d0 c0] 36
    have y2 := xb.cell 2
    have y3 := xb.cell 3
    have y4 := xb.cell 4
    have H1 := Lib.hid (And.intro xb hb1)
    clear xb hb1 z0 z1 z2 z3 z4
    go_wp2_with fail
    go_ret
    exact ⟨ret_bool HF.out.symm, H1.out.2⟩

  · skip
    by_cases p1 : m0 < t0
    · have f0 : decide (t0 < (1 : Int)) = false := decide_eq_false (by omega)
      have g0 : ¬ t0 < (1 : Int) := by omega
      have f1 : decide (m0 < t0) = true := decide_eq_true (by omega)
      have g1 : m0 < t0 := by omega
      have HF := Lib.hid (HFALSE.out (by omega))
      clear HFALSE
      go_enter Tryd.func51, Tryd.ntmps51
      go_upto_region 4 with fail
      have hb1 := (Below.refl w.heap.size w).alloc (Nat.le_refl _) (.cells #[.int .i64 e0, .int .i64 x0, .int .i64 t0, .int .i64 m0, .slice A0 d0 c0] 36)
      have xb := Box.new w #[.int .i64 e0, .int .i64 x0, .int .i64 t0, .int .i64 m0, .slice A0 d0 c0] 36
      have y2 := xb.cell 2
      have y3 := xb.cell 3
      have y4 := xb.cell 4
      have H1 := Lib.hid (And.intro xb hb1)
      clear xb hb1 z0 z1 z2 z3 z4
      go_wp2_with fail
      go_ret
      exact ⟨ret_bool HF.out.symm, H1.out.2⟩

    · skip
      by_cases p2 : 8 < m0
      · have f0 : decide (t0 < (1 : Int)) = false := decide_eq_false (by omega)
        have g0 : ¬ t0 < (1 : Int) := by omega
        have f1 : decide (m0 < t0) = false := decide_eq_false (by omega)
        have g1 : ¬ m0 < t0 := by omega
        have f2 : decide ((8 : Int) < m0) = true := decide_eq_true (by omega)
        have g2 : (8 : Int) < m0 := by omega
        have HF := Lib.hid (HFALSE.out (by omega))
        clear HFALSE
        go_enter Tryd.func51, Tryd.ntmps51
        go_upto_region 4 with fail
        have hb1 := (Below.refl w.heap.size w).alloc (Nat.le_refl _) (.cells #[.int .i64 e0, .int .i64 x0, .int .i64 t0, .int .i64 m0, .slice A0 d0 c0] 36)
        have xb := Box.new w #[.int .i64 e0, .int .i64 x0, .int .i64 t0, .int .i64 m0, .slice A0 d0 c0] 36
        have y2 := xb.cell 2
        have y3 := xb.cell 3
        have y4 := xb.cell 4
        have H1 := Lib.hid (And.intro xb hb1)
        clear xb hb1 z0 z1 z2 z3 z4
        go_wp2_with fail
        go_ret
        exact ⟨ret_bool HF.out.symm, H1.out.2⟩

      · skip
        by_cases p3 : (64 : Int) < (d0 : Int)
        · have f0 : decide (t0 < (1 : Int)) = false := decide_eq_false (by omega)
          have g0 : ¬ t0 < (1 : Int) := by omega
          have f1 : decide (m0 < t0) = false := decide_eq_false (by omega)
          have g1 : ¬ m0 < t0 := by omega
          have f2 : decide ((8 : Int) < m0) = false := decide_eq_false (by omega)
          have g2 : ¬ (8 : Int) < m0 := by omega
          have f3 : decide ((64 : Int) < (d0 : Int)) = true := decide_eq_true (by omega)
          have g3 : (64 : Int) < (d0 : Int) := by omega
          have HF := Lib.hid (HFALSE.out (by omega))
          clear HFALSE
          go_enter Tryd.func51, Tryd.ntmps51
          go_upto_region 4 with fail
          have hb1 := (Below.refl w.heap.size w).alloc (Nat.le_refl _) (.cells #[.int .i64 e0, .int .i64 x0, .int .i64 t0, .int .i64 m0, .slice A0 d0 c0] 36)
          have xb := Box.new w #[.int .i64 e0, .int .i64 x0, .int .i64 t0, .int .i64 m0, .slice A0 d0 c0] 36
          have y2 := xb.cell 2
          have y3 := xb.cell 3
          have y4 := xb.cell 4
          have H1 := Lib.hid (And.intro xb hb1)
          clear xb hb1 z0 z1 z2 z3 z4
          go_wp2_with fail
          go_ret
          exact ⟨ret_bool HF.out.symm, H1.out.2⟩

        · skip
          have HST := Lib.hid (HTRUE.out (by omega) (by omega) (by omega) (by omega))
          have f0 : decide (t0 < (1 : Int)) = false := decide_eq_false (by omega)
          have g0 : ¬ t0 < (1 : Int) := by omega
          have f1 : decide (m0 < t0) = false := decide_eq_false (by omega)
          have g1 : ¬ m0 < t0 := by omega
          have f2 : decide ((8 : Int) < m0) = false := decide_eq_false (by omega)
          have g2 : ¬ (8 : Int) < m0 := by omega
          have f3 : decide ((64 : Int) < (d0 : Int)) = false := decide_eq_false (by omega)
          have g3 : ¬ (64 : Int) < (d0 : Int) := by omega
          clear HFALSE HTRUE
          go_enter Tryd.func51, Tryd.ntmps51
          go_upto_region 4 with fail
          have hb1 := (Below.refl w.heap.size w).alloc (Nat.le_refl _) (.cells #[.int .i64 e0, .int .i64 x0, .int .i64 t0, .int .i64 m0, .slice A0 d0 c0] 36)
          have xb := Box.new w #[.int .i64 e0, .int .i64 x0, .int .i64 t0, .int .i64 m0, .slice A0 d0 c0] 36
          have y2 := xb.cell 2
          have y3 := xb.cell 3
          have y4 := xb.cell 4
          have H1 := Lib.hid (And.intro xb hb1)
          clear xb hb1 z0 z1 z2 z3 z4
          go_upto_region 6 with fail
          clear y2 y3 y4
          generalize hw1 : w.alloc (.cells #[.int .i64 e0, .int .i64 x0, .int .i64 t0, .int .i64 m0, .slice A0 d0 c0] 36) = w1 at *
          clear hw1
          go_wp2_with fail
          go_loopw [4] (fun i wr => ∃ (k : Nat) (bi : Int), k ≤ n ∧ i = .int .i64 k ∧ alkFrom ⟨e0, x0, t0, m0, D0⟩ bi (l.drop k) = alk l ∧ 0 ≤ bi ∧ (k = 0 → bi = 0) ∧ (∀ u, 0 < k → l[k - 1]? = some u → bi = u.ix) ∧ Below w1.heap.size w1 wr) (fun i _ => n - (intOf i).toNat)
          case atStart => exact ⟨0, 0, Nat.zero_le _, rfl, HST.out, by omega, fun _ => rfl, fun u h => by omega, Below.refl _ _⟩
          case round =>
            obtain ⟨k, bi, hk, rfl, hR, hbi, hb0, hbp, hbw⟩ := hrel
            have KR := Lib.hid (And.intro hbw (And.intro hb0 hbp))
            clear hbw hb0 hbp
            by_cases hlt : k < n
            · have hlk : k < l.length := by rw [HN.out]; exact hlt
              obtain ⟨s, hs⟩ : ∃ s, l[k]? = some s := ⟨_, List.getElem?_eq_getElem hlk⟩
              have hgk : l[k]'hlk = s := by rw [List.getElem?_eq_getElem hlk] at hs; exact Option.some.inj hs
              rw [alk_drop bi hlk, hgk] at hR
              obtain ⟨b9, off9, e9, hb9, hat⟩ := ((HS.out.up H1.out.2).up KR.out.1).1 (by rw [HN.out]; omega)
              injection e9 with e9
              injection e9 with e91 e92
              subst e91 e92
              obtain ⟨A1, c1, k0, k1, k2, k3, k4, hD1⟩ := hat k s hs
              have hprev : ∀ j : Nat, k = j + 1 → wr.cell? ⟨b, off + j * 5 + 1, none⟩ = some (.int .i64 bi) := fun j hj => by
                obtain ⟨u, hu⟩ : ∃ u, l[j]? = some u := ⟨_, List.getElem?_eq_getElem (by rw [HN.out]; omega)⟩
                obtain ⟨_, _, _, p1, _⟩ := hat j u hu
                rw [KR.out.2.2 u (by omega) (by rw [hj]; exact hu)]
                exact p1
              have HSK := Lib.hid hs
              obtain ⟨e1, x1, t1, m1, D1⟩ := s
              have hR2 : (decide (t1 = t0 ∧ m1 = m0 ∧ D1.length = D0.length) && decide (bi < x1) && decide (x1 ≤ m1) && alkFrom ⟨e0, x0, t0, m0, D0⟩ x1 (l.drop (k + 1))) = alk l := hR
              simp only at k0 k1 k2 k3 k4
              obtain ⟨d1, hd1⟩ : ∃ d1, D1.length = d1 := ⟨_, rfl⟩
              rw [hd1, HD.out] at hR2
              rw [hd1] at k4
              have HR := Lib.hid hR2
              clear hR hR2 hd1 hD1 hat hs hgk hlk hb9
              have i3 : (0 : Int) ≤ (k : Int) := by omega
              have i4 : (k : Int) < (n : Int) := by omega
              go_upto_region 10 with fail
              have hb5 := (Below.refl wr.heap.size wr).alloc (Nat.le_refl _) (.cells #[.int .i64 e1, .int .i64 x1, .int .i64 t1, .int .i64 m1, .slice A1 d1 c1] 36)
              have xb := Box.new wr #[.int .i64 e1, .int .i64 x1, .int .i64 t1, .int .i64 m1, .slice A1 d1 c1] 36
              have xa := (H1.out.1.below KR.out.1).below hb5
              have a1 := xb.cell 1
              have a2 := xb.cell 2
              have a3 := xb.cell 3
              have a4 := xb.cell 4
              have y2 := xa.cell 2
              have y3 := xa.cell 3
              have y4 := xa.cell 4
              have hpr : ∀ j : Nat, k = j + 1 → (wr.alloc (.cells #[.int .i64 e1, .int .i64 x1, .int .i64 t1, .int .i64 m1, .slice A1 d1 c1] 36)).cell? ⟨b, off + j * 5 + 1, none⟩ = some (.int .i64 bi) := fun j hj => by
                have hbw : b < wr.heap.size := Nat.lt_of_lt_of_le (Nat.lt_of_lt_of_le hb H1.out.2.size) KR.out.1.size
                exact (hb5.cell (p := ⟨b, off + j * 5 + 1, none⟩) hbw).trans (hprev j hj)
              have HPR := Lib.hid hpr
              have K5 := Lib.hid (And.intro (KR.out.1.trans (hb5.mono KR.out.1.size)) (And.intro KR.out.2.1 HSK.out))
              clear k0 k1 k2 k3 k4 hb5 xb xa hpr hprev
              generalize wr.alloc (.cells #[.int .i64 e1, .int .i64 x1, .int .i64 t1, .int .i64 m1, .slice A1 d1 c1] 36) = W5 at *
              by_cases v1 : t1 = t0
              · skip
                by_cases v2 : m1 = m0
                · skip
                  by_cases v3 : d1 = d0
                  · skip
                    by_cases v4 : 1 ≤ x1
                    · skip
                      by_cases v5 : x1 ≤ m0
                      · skip
                        have q7 : (decide (t1 = t0 ∧ m1 = m0 ∧ d1 = d0)) = true := decide_eq_true ⟨v1, v2, v3⟩
                        have HQ7 := Lib.hid q7
                        clear q7
                        have q1 : (t1 != t0) = false := by simpa using v1
                        have q2 : (m1 != m0) = false := by simpa using v2
                        have q3 : ((d1 : Int) != (d0 : Int)) = false := by simpa using (show (d1 : Int) = (d0 : Int) by omega)
                        have q4 : decide (x1 < (1 : Int)) = false := decide_eq_false (by omega)
                        have r4 : ¬ x1 < (1 : Int) := by omega
                        have q5 : decide (m0 < x1) = false := decide_eq_false (by omega)
                        have r5 : ¬ m0 < x1 := by omega
                        have HV := Lib.hid (And.intro v1 (And.intro v2 v3))
                        have hm5 : x1 ≤ m1 := by omega
                        have HM5 := Lib.hid hm5
                        clear v1 v2 v3 hm5
                        by_cases v6 : k = 0
                        · have HF : Hid (alkFrom ⟨e0, x0, t0, m0, D0⟩ x1 (l.drop (k + 1)) = alk l) := by
                            have h1 := KR.out.2.1 v6
                            have h2 := HR.out
                            rw [HQ7.out, decide_eq_true HM5.out, decide_eq_true (show bi < x1 by omega)] at h2
                            exact h2
                          have q6 : decide ((0 : Int) < (k : Int)) = false := decide_eq_false (by omega)
                          have r6 : ¬ (0 : Int) < (k : Int) := by omega
                          have s6 : ¬ 0 < k := by omega
                          clear v6
                          have HB := Lib.hid K5.out.1
                          clear HR
                          go_quiet (fail)
                          go_wp2_with fail
                          go_roundw
                          case rel => exact ⟨k + 1, x1, by omega, by go_num, HF.out, by omega, fun h => by omega, fun u _ hu => by
                            have h1 := K5.out.2.2.symm.trans hu
                            injection h1 with h1
                            rw [← h1], HB.out.trans ((below_drewN _ _).mono HB.out.size)⟩
                          case measure => simp [intOf]; omega
                        · obtain ⟨j, hj⟩ : ∃ j, k = j + 1 := ⟨k - 1, by omega⟩
                          have q6 : decide ((0 : Int) < (k : Int)) = true := decide_eq_true (by omega)
                          have r6 : (0 : Int) < (k : Int) := by omega
                          have s6 : 0 < k := by omega
                          have hwr : IntKind.i64.wrap ((k : Int) - 1) = (j : Int) := by rw [IntKind.wrap_i64]; omega
                          have i5 : (0 : Int) ≤ (j : Int) := by omega
                          have i6 : (j : Int) < (n : Int) := by omega
                          have kp := HPR.out j hj
                          clear hj v6
                          by_cases v7 : x1 ≤ bi
                          · have HF : Hid (alk l = false) := by rw [Hid, ← HR.out, decide_eq_false (show ¬ bi < x1 by omega)]; simp
                            have q8 : decide (x1 ≤ bi) = true := decide_eq_true v7
                            have HB := Lib.hid (H1.out.2.trans (K5.out.1.mono H1.out.2.size))
                            clear HR
                            go_quiet (fail)
                            go_wp2_with fail
                            go_ret
                            exact ⟨ret_bool HF.out.symm, HB.out.trans ((below_drewN _ _).mono HB.out.size)⟩

                          · have HF : Hid (alkFrom ⟨e0, x0, t0, m0, D0⟩ x1 (l.drop (k + 1)) = alk l) := by
                              have h2 := HR.out
                              rw [HQ7.out, decide_eq_true HM5.out, decide_eq_true (show bi < x1 by omega)] at h2
                              exact h2
                            have q8 : decide (x1 ≤ bi) = false := decide_eq_false v7
                            have HB := Lib.hid K5.out.1
                            clear HR
                            go_quiet (fail)
                            go_wp2_with fail
                            go_roundw
                            case rel => exact ⟨k + 1, x1, by omega, by go_num, HF.out, by omega, fun h => by omega, fun u _ hu => by
                              have h1 := K5.out.2.2.symm.trans hu
                              injection h1 with h1
                              rw [← h1], HB.out.trans ((below_drewN _ _).mono HB.out.size)⟩
                            case measure => simp [intOf]; omega

                      · skip
                        have q1 : (t1 != t0) = false := by simpa using v1
                        have q2 : (m1 != m0) = false := by simpa using v2
                        have q3 : ((d1 : Int) != (d0 : Int)) = false := by simpa using (show (d1 : Int) = (d0 : Int) by omega)
                        have q4 : decide (x1 < (1 : Int)) = false := decide_eq_false (by omega)
                        have r4 : ¬ x1 < (1 : Int) := by omega
                        have q5 : decide (m0 < x1) = true := decide_eq_true (by omega)
                        have r5 : m0 < x1 := by omega
                        have HF : Hid (alk l = false) := by rw [Hid, ← HR.out, decide_eq_false (show ¬ x1 ≤ m1 by omega)]; simp
                        clear v1 v2 v3
                        have HB := Lib.hid (H1.out.2.trans (K5.out.1.mono H1.out.2.size))
                        clear HR
                        go_quiet (fail)
                        go_wp2_with fail
                        go_ret
                        exact ⟨ret_bool HF.out.symm, HB.out.trans ((below_drewN _ _).mono HB.out.size)⟩


                    · skip
                      have q1 : (t1 != t0) = false := by simpa using v1
                      have q2 : (m1 != m0) = false := by simpa using v2
                      have q3 : ((d1 : Int) != (d0 : Int)) = false := by simpa using (show (d1 : Int) = (d0 : Int) by omega)
                      have q4 : decide (x1 < (1 : Int)) = true := decide_eq_true (by omega)
                      have r4 : x1 < (1 : Int) := by omega
                      have HF : Hid (alk l = false) := by rw [Hid, ← HR.out, decide_eq_false (show ¬ bi < x1 by omega)]; simp
                      clear v1 v2 v3
                      have HB := Lib.hid (H1.out.2.trans (K5.out.1.mono H1.out.2.size))
                      clear HR
                      go_quiet (fail)
                      go_wp2_with fail
                      go_ret
                      exact ⟨ret_bool HF.out.symm, HB.out.trans ((below_drewN _ _).mono HB.out.size)⟩


                  · skip
                    have q1 : (t1 != t0) = false := by simpa using v1
                    have q2 : (m1 != m0) = false := by simpa using v2
                    have q3 : ((d1 : Int) != (d0 : Int)) = true := by simpa using (show ¬ (d1 : Int) = (d0 : Int) by omega)
                    have HF : Hid (alk l = false) := by rw [Hid, ← HR.out, decide_eq_false (fun h => v3 h.2.2)]; rfl
                    clear v1 v2 v3
                    have HB := Lib.hid (H1.out.2.trans (K5.out.1.mono H1.out.2.size))
                    clear HR
                    go_quiet (fail)
                    go_wp2_with fail
                    go_ret
                    exact ⟨ret_bool HF.out.symm, HB.out.trans ((below_drewN _ _).mono HB.out.size)⟩


                · skip
                  have q1 : (t1 != t0) = false := by simpa using v1
                  have q2 : (m1 != m0) = true := by simpa using v2
                  have HF : Hid (alk l = false) := by rw [Hid, ← HR.out, decide_eq_false (fun h => v2 h.2.1)]; rfl
                  clear v1 v2
                  have HB := Lib.hid (H1.out.2.trans (K5.out.1.mono H1.out.2.size))
                  clear HR
                  go_quiet (fail)
                  go_wp2_with fail
                  go_ret
                  exact ⟨ret_bool HF.out.symm, HB.out.trans ((below_drewN _ _).mono HB.out.size)⟩


              · skip
                have q1 : (t1 != t0) = true := by simpa using v1
                have HF : Hid (alk l = false) := by rw [Hid, ← HR.out, decide_eq_false (fun h => v1 h.1)]; rfl
                clear v1
                have HB := Lib.hid (H1.out.2.trans (K5.out.1.mono H1.out.2.size))
                clear HR
                go_quiet (fail)
                go_wp2_with fail
                go_ret
                exact ⟨ret_bool HF.out.symm, HB.out.trans ((below_drewN _ _).mono HB.out.size)⟩

            · obtain rfl : k = n := by omega
              have HF : Hid (alk l = true) := by
                rw [Hid, ← hR, List.drop_of_length_le (by rw [HN.out]; exact Nat.le_refl _)]
                rfl
              have HB := Lib.hid (H1.out.2.trans (KR.out.1.mono H1.out.2.size))
              clear hR
              go_wp2_with fail
              go_ret
              exact ⟨ret_bool HF.out.symm, HB.out⟩


end
section
open Go.RowKit
set_option linter.unusedVariables false
set_option linter.unusedSimpArgs false

set_option maxHeartbeats 1000000 in
set_option maxRecDepth 100000 in
theorem ralike_any (A : Option Addr) (c : Nat) (l : List Shr) (w : World) (hS : SS w A l c) (hl : l.length ≤ 1000000) :
    Calls Tryd.prog 51 #[.slice A l.length c] w fun e w' => e = .returned (.bool (alk l)) ∧ Below w.heap.size w w' := by
  by_cases hp : l.length = 0
  · obtain rfl : l = [] := List.eq_nil_of_length_eq_zero hp
    simp only [List.length_nil]
    clear hp hl hS
    go_enter Tryd.func51, Tryd.ntmps51
    go_wp2_with fail
    go_ret
    exact ⟨rfl, Below.refl _ _⟩
  · obtain ⟨s0, h0⟩ : ∃ s0, l[0]? = some s0 := ⟨l[0]'(by omega), by simp⟩
    obtain ⟨b, off, rfl, hb, hat⟩ := hS.1 (by omega)
    obtain ⟨A0, c0, z0, z1, z2, z3, z4, _⟩ := hat 0 s0 h0
    simp only [Nat.zero_mul, Nat.add_zero] at z0 z1 z2 z3 z4
    obtain ⟨e0, x0, t0, m0, D0⟩ := s0
    exact ralike_some b off l.length c l e0 x0 t0 m0 D0 A0 D0.length c0 w hS rfl hl h0 rfl hb z0 z1 z2 z3 z4

set_option maxHeartbeats 4000000 in
set_option maxRecDepth 100000 in
theorem rchk_any (A : Option Addr) (c : Nat) (l : List Shr) (w : World) (hS : SS w A l c) (hl : l.length ≤ 1000000) :
    Calls Tryd.prog 20 #[.slice A l.length c] w fun e w' => e = .returned (.int .i64 (chk l)) ∧ Below w.heap.size w w' := by
  have HA := Lib.hid (ralike_any A c l w hS hl)
  have HS := Lib.hid hS
  clear hS
  obtain ⟨n, hn⟩ : ∃ n, l.length = n := ⟨_, rfl⟩
  have HN := Lib.hid hn
  cases hal : alk l with
  | false =>
    have HF : Hid (chk l = 60) := by unfold chk; rw [hal]; rfl
    rw [hal] at HA
    rw [hn] at HA ⊢
    clear hal hn
    go_enter Tryd.func20, Tryd.ntmps20
    go_wp2_with fail
    refine HA.out.mono ?_
    rintro e w1 ⟨rfl, hb1⟩
    go_wp2_with fail
    go_ret
    exact ⟨congrArg (fun z => Ending.returned (.int .i64 z)) HF.out.symm, hb1⟩
  | true =>
    obtain ⟨s0, h0⟩ := alk_pos hal
    have HO := Lib.hid (onee_cons h0)
    have HC : Hid (chk l = if onee l = false then 61 else 0) := by unfold chk; rw [hal]; rfl
    have H0 := Lib.hid h0
    have hp : 0 < n := by
      have := (List.getElem?_eq_some_iff.1 h0).1
      omega
    rw [hal] at HA
    rw [hn] at HA hl ⊢
    clear hal hn h0
    obtain ⟨b, off, rfl, hb, hat⟩ := HS.out.1 (by rw [HN.out]; omega)
    have HAT := Lib.hid hat
    obtain ⟨e0, x0, t0, m0, D0⟩ := s0
    simp only at HO
    clear hat
    go_enter Tryd.func20, Tryd.ntmps20
    go_wp2_with fail
    refine HA.out.mono ?_
    rintro e w1 ⟨rfl, hb1⟩
    have HB1 := Lib.hid hb1
    clear hb1
    go_wp2_with fail
    go_loopw [3] (fun i wr => ∃ k : Nat, k ≤ n ∧ i = .int .i64 k ∧ sameEp e0 (l.take k) = true ∧ (0 < k → 0 ≤ e0 ∧ e0 ≤ 1048576) ∧ Below w.heap.size w wr) (fun i _ => n - (intOf i).toNat)
    case atStart => exact ⟨0, Nat.zero_le _, rfl, rfl, fun h => by omega, HB1.out⟩
    case round =>
      obtain ⟨k, hk, rfl, hse, h0e, hbw⟩ := hrel
      by_cases hlt : k < n
      · have hlk : k < l.length := by rw [HN.out]; exact hlt
        obtain ⟨A1, c1, k0, hr1⟩ := (HAT.out k _ (ge_some hlk)).up hb hbw
        obtain ⟨A2, c2, z0, hr2⟩ := (HAT.out 0 _ H0.out).up hb hbw
        simp only [Nat.zero_mul, Nat.add_zero] at z0
        have htk := sameEp_take e0 l k hlk
        have hno := sameEp_no e0 l k hlk
        obtain ⟨e1, he1⟩ : ∃ e1, (l[k]'hlk).ep = e1 := ⟨_, rfl⟩
        rw [he1] at k0 htk hno
        have hx1 : e1 ≠ e0 ∨ e1 < 0 ∨ 1048576 < e1 → chk l = 61 := fun h => by
          rw [HC.out, if_pos]
          rw [HO.out]
          by_cases h1 : e1 = e0
          · subst h1
            rw [decide_eq_false (show ¬ (0 ≤ e1 ∧ e1 ≤ 1048576) by omega), Bool.and_false]
          · rw [hno h1]
            rfl
        have hx2 : e1 = e0 → 0 ≤ e1 ∧ e1 ≤ 1048576 → sameEp e0 (l.take (k + 1)) = true ∧ 0 ≤ e0 ∧ e0 ≤ 1048576 := fun h1 h2 => by
          rw [htk, hse, h1, decide_eq_true rfl]
          exact ⟨rfl, h1 ▸ h2⟩
        have HX := Lib.hid (And.intro hx1 hx2)
        have HB := Lib.hid hbw
        have i1 : (0 : Int) < (n : Int) := by omega
        have i3 : (0 : Int) ≤ (k : Int) := by omega
        have i4 : (k : Int) < (n : Int) := by omega
        clear hr1 hr2 hx1 hx2 htk hno he1 hlk hse h0e hbw
        by_cases v1 : e1 = e0
        · skip
          by_cases v2 : 0 ≤ e1
          · skip
            by_cases v3 : e1 ≤ 1048576
            · skip
              have q1 : (e1 != e0) = false := by simpa using v1
              have q2 : decide (e1 < (0 : Int)) = false := decide_eq_false (by omega)
              have r2 : ¬ e1 < (0 : Int) := by omega
              have q3 : decide ((1048576 : Int) < e1) = false := decide_eq_false (by omega)
              have r3 : ¬ (1048576 : Int) < e1 := by omega
              have HF := Lib.hid (HX.out.2 v1 (show 0 ≤ e1 ∧ e1 ≤ 1048576 by omega))
              clear v1
              go_wp2_with fail
              go_quiet (fail)
              go_wp2_with fail
              go_roundw
              case rel => exact ⟨k + 1, by omega, by go_num, HF.out.1, fun _ => HF.out.2, HB.out.trans ((below_drewN _ _).mono HB.out.size)⟩
              case measure => simp [intOf]; omega

            · skip
              have q1 : (e1 != e0) = false := by simpa using v1
              have q2 : decide (e1 < (0 : Int)) = false := decide_eq_false (by omega)
              have r2 : ¬ e1 < (0 : Int) := by omega
              have q3 : decide ((1048576 : Int) < e1) = true := decide_eq_true (by omega)
              have r3 : (1048576 : Int) < e1 := by omega
              have HF : Hid (chk l = 61) := HX.out.1 (by omega)
              clear v1
              go_wp2_with fail
              go_quiet (fail)
              go_wp2_with fail
              go_ret
              exact ⟨congrArg (fun z => Ending.returned (.int .i64 z)) HF.out.symm, HB.out.trans ((below_drewN _ _).mono HB.out.size)⟩


          · skip
            have q1 : (e1 != e0) = false := by simpa using v1
            have q2 : decide (e1 < (0 : Int)) = true := decide_eq_true (by omega)
            have r2 : e1 < (0 : Int) := by omega
            have HF : Hid (chk l = 61) := HX.out.1 (by omega)
            clear v1
            go_wp2_with fail
            go_quiet (fail)
            go_wp2_with fail
            go_ret
            exact ⟨congrArg (fun z => Ending.returned (.int .i64 z)) HF.out.symm, HB.out.trans ((below_drewN _ _).mono HB.out.size)⟩


        · skip
          have q1 : (e1 != e0) = true := by simpa using v1
          have HF : Hid (chk l = 61) := HX.out.1 (by omega)
          clear v1
          go_wp2_with fail
          go_quiet (fail)
          go_wp2_with fail
          go_ret
          exact ⟨congrArg (fun z => Ending.returned (.int .i64 z)) HF.out.symm, HB.out.trans ((below_drewN _ _).mono HB.out.size)⟩


      · obtain rfl : k = n := by omega
        have HF : Hid (chk l = 0) := by
          have h1 := hse
          rw [List.take_of_length_le (by rw [HN.out]; exact Nat.le_refl _)] at h1
          rw [Hid, HC.out, HO.out, h1, decide_eq_true (h0e hp)]
          rfl
        have HB := Lib.hid hbw
        clear hse h0e hbw
        go_wp2_with fail
        go_ret
        exact ⟨congrArg (fun z => Ending.returned (.int .i64 z)) HF.out.symm, HB.out⟩

end
section
open Go.RowKit
set_option linter.unusedVariables false
set_option linter.unusedSimpArgs false

/-- append of one byte to a row of the call's own: where it lies. -/
theorem wpList_append_b1 {B : Nat} {W : World} {ops : Array Oper} {rest : List Oper} {o : Oper} {a : Act} {Q : Exit → Act → World → Prop} (hgd : o.guard = none) (s x : Operand)
    (ho : o.op = .call { callee := .builtin .append, args := #[s, x], argTypes := #[23, 23] })
    (A : Option Addr) (n c : Nat) (xs : List Value) (hs : a.eval s = .slice A n c) (hown : W.ownsRow B 5 1 (.slice A n c) n xs) (q : Nat) (z : UInt8) (hx : a.eval x = .slice (some ⟨q, 0, none⟩) 1 1) (hq : Box W q #[bv z] 5) (hb : n ≤ 100000) (hbase : B ≤ W.heap.size)
    (h : ∀ g c' W', W'.ownsRow B 5 1 (.slice (some ⟨g, 0, none⟩) (n + 1) c') (n + 1) (xs ++ [bv z]) → W.grownBy W' (Value.slice A n c).ownBlock → ((Value.slice A n c).ownBlock = some g ∨ g = W.heap.size) → wpList Tryd.prog ops Q rest (a.put o.dst (.slice (some ⟨g, 0, none⟩) (n + 1) c')) W') : wpList Tryd.prog ops Q (o :: rest) a W := by
  obtain ⟨i0, hi0, hz0, hz1, hz2⟩ := info_parts u8_info
  have hnews : ∀ j v, [bv z][j]? = some v → W.cell? ((⟨q, 0, none⟩ : Addr).add j) = some v := fun j v hv => by
    rw [add_off, Nat.zero_add, hq.cell j]
    simpa using hv
  refine wpList_append_lies W hgd s x 23 ho B 5 i0 (.int .u8 0) 1 1 Tryd.underlying23 hi0 hz0 hz1 hz2 rfl (by decide) _ n xs hs hown ⟨q, 0, none⟩ 1 1 [bv z] hx rfl hnews (bv_one [z]) (by decide) (le_maxLen (by omega)) (by omega) hbase _ rfl ?_
  intro g c1 w' ho' hg' hat _
  exact h g c1 w' ho' hg' hat

theorem far1 {wr : World} {B k c1 c2 g1 : Nat} {A1 A2 : Option Addr} {ys : List Value} {C : Obj} (h2 : wr.ownsRow B 5 1 (.slice A2 k c2) k ys) (hap : (Value.slice A2 k c2).ownBlock = none ∨ (Value.slice A2 k c2).ownBlock ≠ (Value.slice A1 k c1).ownBlock)
    (hat : (Value.slice A1 k c1).ownBlock = some g1 ∨ g1 = (wr.alloc C).heap.size) : (Value.slice A2 k c2).ownBlock ≠ some g1 := fun e => by
  rcases hat with h | h
  · rcases hap with p | p
    · rw [p] at e
      cases e
    · exact p (e.trans h.symm)
  · have h3 := (h2.lt g1 e).2
    rw [World.size_alloc] at h
    omega
theorem pts_end {w W7 W9 : World} {k n1 c1 c2 g1 g2 c2' : Nat} {A2 : Option Addr} {xs ys : List Value} {C : Obj} (h1 : W7.ownsRow w.heap.size 5 1 (.slice (some ⟨g1, 0, none⟩) n1 c1) n1 xs) (h2 : W7.ownsRow w.heap.size 5 1 (.slice A2 k c2) k ys) (hne : (Value.slice A2 k c2).ownBlock ≠ some g1) (hb : Below w.heap.size w W7)
    (hg : (W7.alloc C).grownBy W9 (Value.slice A2 k c2).ownBlock) (hat : (Value.slice A2 k c2).ownBlock = some g2 ∨ g2 = (W7.alloc C).heap.size) :
    W9.ownsRow w.heap.size 5 1 (.slice (some ⟨g1, 0, none⟩) n1 c1) n1 xs ∧ ((Value.slice (some ⟨g2, 0, none⟩) n1 c2').ownBlock = none ∨ (Value.slice (some ⟨g2, 0, none⟩) n1 c2').ownBlock ≠ (Value.slice (some ⟨g1, 0, none⟩) n1 c1).ownBlock) ∧ Below w.heap.size w W9 := by
  have hba := (Below.refl W7.heap.size W7).alloc (Nat.le_refl _) C
  have hb2 := hb.trans (hba.mono hb.size)
  refine ⟨(own_below h1 hba).kept hg (.inr (fun e => hne e.symm)), .inr (fun e => ?_), hb2.grown hg hb2.size (fun i hi => (h2.lt i hi).1)⟩
  injection e with e
  simp only at e
  subst e
  rcases hat with h | h
  · exact hne h
  · have h3 := (h1.lt g2 rfl).2
    rw [World.size_alloc] at h
    omega

set_option maxHeartbeats 2000000 in
set_option maxRecDepth 100000 in
theorem rpoints_own (A : Option Addr) (c : Nat) (l : List Shr) (place : Nat) (w : World) (hS : SS w A l c) (hl : l.length ≤ 1000) (hix : ∀ u ∈ l, 0 ≤ u.ix ∧ u.ix ≤ 255) (hd : ∀ u ∈ l, place < u.data.length) :
    Calls Tryd.prog 21 #[.slice A l.length c, .int .i64 (place : Int)] w fun e w' => ∃ A1 c1 A2 c2, e = .returned (.tuple #[.slice A1 l.length c1, .slice A2 l.length c2]) ∧ w'.ownsRow w.heap.size 5 1 (.slice A1 l.length c1) l.length ((idxs l).map bv) ∧ w'.ownsRow w.heap.size 5 1 (.slice A2 l.length c2) l.length ((colm l place).map bv) ∧ ((Value.slice A2 l.length c2).ownBlock = none ∨ (Value.slice A2 l.length c2).ownBlock ≠ (Value.slice A1 l.length c1).ownBlock) ∧ Below w.heap.size w w' := by
  have HS := Lib.hid (And.intro hS (And.intro hix hd))
  have hxl : (idxs l).length = l.length := by simp [idxs]
  have hcl : (colm l place).length = l.length := by simp [colm]
  have hxa : ∀ (k : Nat) (u : Shr), l[k]? = some u → (idxs l)[k]? = some (ixb u) := fun k u hu => by
    have hk := (List.getElem?_eq_some_iff.1 hu).1
    unfold idxs
    rw [List.getElem?_map, List.getElem?_range hk, Option.map_some, hu]
    rfl
  have hca : ∀ (k : Nat) (u : Shr), l[k]? = some u → (colm l place)[k]? = some (u.data.getD place 0) := fun k u hu => by
    have hk := (List.getElem?_eq_some_iff.1 hu).1
    unfold colm
    rw [List.getElem?_map, List.getElem?_range hk, Option.map_some, hu]
    rfl
  generalize idxs l = X at *
  generalize colm l place = Y at *
  obtain ⟨n, hn⟩ : ∃ n, l.length = n := ⟨_, rfl⟩
  rw [hn] at hxl hcl
  have HN := Lib.hid (And.intro hn (And.intro hxl (And.intro hcl (And.intro hxa hca))))
  rw [hn] at hl ⊢
  clear hS hix hd hn hxl hcl hxa hca
  go_enter Tryd.func21, Tryd.ntmps21
  go_wp2_with fail
  go_loopw [6, 7, 8] (fun v1 v2 i wr => ∃ (k : Nat) (A1 : Option Addr) (c1 : Nat) (A2 : Option Addr) (c2 : Nat), k ≤ n ∧ v1 = .slice A1 k c1 ∧ v2 = .slice A2 k c2 ∧ i = .int .i64 (k : Nat) ∧ wr.ownsRow w.heap.size 5 1 (.slice A1 k c1) k ((X.take k).map bv) ∧ wr.ownsRow w.heap.size 5 1 (.slice A2 k c2) k ((Y.take k).map bv) ∧ ((Value.slice A2 k c2).ownBlock = none ∨ (Value.slice A2 k c2).ownBlock ≠ (Value.slice A1 k c1).ownBlock) ∧ Below w.heap.size w wr) (fun _ _ i _ => n - (intOf i).toNat)
  case atStart => exact ⟨0, none, 0, none, 0, Nat.zero_le _, rfl, rfl, rfl, World.ownsRow_nil _ _ _ _, World.ownsRow_nil _ _ _ _, Or.inl rfl, Below.refl _ _⟩
  case round =>
    obtain ⟨k, A1, c1, A2, c2, hk, rfl, rfl, rfl, ho1, ho2, hap, hb⟩ := hrel
    have KR := Lib.hid (And.intro ho1 (And.intro ho2 (And.intro hap hb)))
    clear ho1 ho2 hap hb
    by_cases hlt : k < n
    · obtain ⟨u, hu⟩ : ∃ u, l[k]? = some u := ⟨_, List.getElem?_eq_getElem (by rw [HN.out.1]; exact hlt)⟩
      obtain ⟨b, off, rfl, hbl, hat⟩ := HS.out.1.1 (by rw [HN.out.1]; omega)
      obtain ⟨D, d, k0, k1, k2, k3, k4, hD⟩ := hat k u hu
      have hum := List.mem_of_getElem? hu
      have hix := HS.out.2.1 u hum
      have hdl := HS.out.2.2 u hum
      have hX := HN.out.2.2.2.1 k u hu
      have hY := HN.out.2.2.2.2 k u hu
      obtain ⟨z1, hz1⟩ : ∃ z1, ixb u = z1 := ⟨_, rfl⟩
      obtain ⟨z2, hz2⟩ : ∃ z2, u.data.getD place 0 = z2 := ⟨_, rfl⟩
      rw [hz1] at hX
      rw [hz2] at hY
      obtain ⟨bd, od, rfl, hbd, hcd⟩ := hD.1 (by omega)
      have hzc : u.data[place]? = some z2 := by
        rw [← hz2, List.getD_eq_getElem?_getD, List.getElem?_eq_getElem hdl]
        rfl
      have m0 : w.cell? ⟨bd, od + place, none⟩ = some (.int .u8 (z2.toNat : Int)) := hcd place z2 hzc
      have hw1 : IntKind.u8.wrap u.ix = (z1.toNat : Int) := by
        rw [← hz1, IntKind.wrap_u8]
        unfold ixb
        rw [UInt8.toNat_ofNat']
        omega
      obtain ⟨dl, hdl2⟩ : ∃ dl, u.data.length = dl := ⟨_, rfl⟩
      rw [hdl2] at k4 hdl
      have htx : X.take (k + 1) = X.take k ++ [z1] := by rw [List.take_add_one, hX]; rfl
      have hty : Y.take (k + 1) = Y.take k ++ [z2] := by rw [List.take_add_one, hY]; rfl
      have HT := Lib.hid (And.intro htx hty)
      have HC := Lib.hid (fun W' (hb : Below w.heap.size w W') => And.intro ((hb.cell (p := ⟨b, off + k * 5 + 1, none⟩) hbl).trans k1) (And.intro ((hb.cell (p := ⟨b, off + k * 5 + 4, none⟩) hbl).trans k4) ((hb.cell (p := ⟨bd, od + place, none⟩) hbd).trans m0)))
      obtain ⟨q1, q4, q0⟩ := HC.out wr KR.out.2.2.2
      have hb1 := (Below.refl wr.heap.size wr).alloc (Nat.le_refl _) (.cells #[.int .u8 (z1.toNat : Int)] 5)
      have HA1 := Lib.hid (And.intro (own_below KR.out.1 hb1) (And.intro (own_below KR.out.2.1 hb1) (And.intro (show Box (wr.alloc (.cells #[.int .u8 (z1.toNat : Int)] 5)) wr.heap.size #[bv z1] 5 from Box.new wr _ _) (KR.out.2.2.2.trans (hb1.mono KR.out.2.2.2.size)))))
      have i1 : (0 : Int) ≤ (k : Int) := by omega
      have i2 : (k : Int) < (n : Int) := by omega
      have i3 : (0 : Int) ≤ (place : Int) := by omega
      have i4 : (place : Int) < (dl : Int) := by omega
      clear hu hat hD hum hix hX hY hz1 hz2 hcd hzc hdl2 htx hty hb1 k0 k1 k2 k3 k4 m0
      go_wp2_with (first
        | (at_builtin; refine wpList_append_b1 (B := w.heap.size) rfl (.tmp 15) (.tmp 22) rfl A1 k c1 _ rfl HA1.out.1 wr.heap.size z1 rfl HA1.out.2.2.1 (by omega) HA1.out.2.2.2.size ?_; intro g1 c1' W7 ho7 hg7 hat7; have hb7 := HA1.out.2.2.2.grown hg7 HA1.out.2.2.2.size (fun i hi => (HA1.out.1.lt i hi).1); have hne7 := far1 KR.out.2.1 KR.out.2.2.1 hat7; have H7 := Lib.hid (And.intro ho7 (And.intro (HA1.out.2.1.kept hg7 KR.out.2.2.1) (And.intro hne7 hb7))); obtain ⟨q1, q4, q0⟩ := HC.out W7 hb7; clear ho7 hg7 hat7 hb7 hne7)
        | (at_builtin; refine wpList_append_b1 (B := w.heap.size) rfl (.tmp 24) (.tmp 33) rfl A2 k c2 _ rfl (own_below H7.out.2.1 ((Below.refl W7.heap.size W7).alloc (Nat.le_refl _) (.cells #[.int .u8 (z2.toNat : Int)] 5))) W7.heap.size z2 rfl (Box.new W7 _ _) (by omega) ((H7.out.2.2.2.alloc H7.out.2.2.2.size (.cells #[.int .u8 (z2.toNat : Int)] 5)).size) ?_; intro g2 c2' W9 ho9 hg9 hat9; have H9 := Lib.hid (pts_end (c2' := c2') H7.out.1 H7.out.2.1 H7.out.2.2.1 H7.out.2.2.2 hg9 hat9); have HO9 := Lib.hid ho9; clear ho9 hg9 hat9))
      go_roundw
      case rel => exact ⟨k + 1, some ⟨g1, 0, none⟩, c1', some ⟨g2, 0, none⟩, c2', by omega, rfl, rfl, by go_num, by rw [HT.out.1, List.map_append]; exact H9.out.1, by rw [HT.out.2, List.map_append]; exact HO9.out, H9.out.2.1, H9.out.2.2⟩
      case measure => simp [intOf]; omega
    · obtain rfl : k = n := by omega
      have h1 := KR.out.1
      have h2 := KR.out.2.1
      rw [List.take_of_length_le (by rw [HN.out.2.1]; exact Nat.le_refl _)] at h1
      rw [List.take_of_length_le (by rw [HN.out.2.2.1]; exact Nat.le_refl _)] at h2
      have HF := Lib.hid (And.intro h1 h2)
      clear h1 h2
      go_wp2_with fail
      go_ret2
      exact ⟨A1, c1, A2, c2, rfl, HF.out.1, HF.out.2, KR.out.2.2.1, KR.out.2.2.2⟩
theorem rpoints_any (A : Option Addr) (c : Nat) (l : List Shr) (place : Nat) (w : World) (hS : SS w A l c) (hl : l.length ≤ 1000) (hix : ∀ u ∈ l, 0 ≤ u.ix ∧ u.ix ≤ 255) (hd : ∀ u ∈ l, place < u.data.length) :
    Calls Tryd.prog 21 #[.slice A l.length c, .int .i64 (place : Int)] w fun e w' => ∃ A1 c1 A2 c2, e = .returned (.tuple #[.slice A1 l.length c1, .slice A2 l.length c2]) ∧ Sl w' A1 (idxs l) c1 ∧ Sl w' A2 (colm l place) c2 ∧ Below w.heap.size w w' :=
  (rpoints_own A c l place w hS hl hix hd).mono fun e w' ⟨A1, c1, A2, c2, h1, h2, h3, _, h5⟩ => ⟨A1, c1, A2, c2, h1, Sl.of_own' h2 (by simp [idxs]), Sl.of_own' h3 (by simp [colm]), h5⟩

end
section
open Go.RowKit
set_option linter.unusedVariables false
set_option linter.unusedSimpArgs false

set_option maxHeartbeats 1000000 in
set_option maxRecDepth 100000 in
theorem rover_any (a b : UInt8) (w : World) : Calls Tryd.prog 53 #[bv a, bv b] w fun e w' => e = .returned (bv (gm a (iv b))) ∧ w = w' := by
  have HI := Lib.hid (rinv_any b w)
  have HM := Lib.hid (rmul_any a (iv b) w)
  generalize gm a (iv b) = r at *
  generalize iv b = q at *
  generalize ie b = z at *
  go_enter Tryd.func53, Tryd.ntmps53
  go_wp2_with fail
  refine HI.out.mono ?_
  rintro e w1 ⟨rfl, rfl⟩
  go_wp2_with fail
  refine HM.out.mono ?_
  rintro e w2 ⟨rfl, rfl⟩
  go_wp2_with fail
  go_ret
  exact ⟨rfl, rfl⟩

theorem nodup_step {xs : List UInt8} {k : Nat} (h : (xs.take k).Nodup) (hk : k < xs.length) (hn : ∀ i, i < k → xs.getD i 0 ≠ xs.getD k 0) : (xs.take (k + 1)).Nodup := by
  rw [List.take_succ_eq_append_getElem hk, List.nodup_append]
  refine ⟨h, by simp, fun a ha b hb => ?_⟩
  obtain ⟨i, hi, rfl⟩ := List.mem_iff_getElem.1 ha
  rw [List.mem_singleton] at hb
  subst hb
  have hi2 : i < k := by
    rw [List.length_take] at hi
    omega
  have := hn i hi2
  rw [List.getD_eq_getElem?_getD, List.getD_eq_getElem?_getD, List.getElem?_eq_getElem hk, List.getElem?_eq_getElem (by omega)] at this
  simpa using this
theorem nodup_no {xs : List UInt8} {i k : Nat} (hi : i < k) (hk : k < xs.length) (h : xs.getD i 0 = xs.getD k 0) : ¬ xs.Nodup := fun hn => by
  rw [List.getD_eq_getElem?_getD, List.getD_eq_getElem?_getD, List.getElem?_eq_getElem hk, List.getElem?_eq_getElem (by omega)] at h
  exact List.pairwise_iff_getElem.1 hn i k (by omega) hk hi (by simpa using h)

set_option maxHeartbeats 2000000 in
set_option maxRecDepth 100000 in
theorem rpts_any (A : Option Addr) (c : Nat) (xs : List UInt8) (A2 : Option Addr) (c2 m : Nat) (w : World) (hS : Sl w A xs c) (hl : xs.length ≤ 1000000) (hm : m ≤ 1000000) :
    Calls Tryd.prog 52 #[.slice A xs.length c, .slice A2 m c2] w fun e w' => e = .returned (.bool (decide (xs.length = m ∧ xs.Nodup))) ∧ Below w.heap.size w w' := by
  have HS := Lib.hid hS
  obtain ⟨n, hn⟩ : ∃ n, xs.length = n := ⟨_, rfl⟩
  have HN := Lib.hid hn
  rw [hn] at hl ⊢
  clear hS hn
  by_cases hnm : n = m
  · have q1 : ((n : Int) != (m : Int)) = false := by simpa using (show (n : Int) = (m : Int) by omega)
    have HT : Hid (xs.Nodup → true = decide (n = m ∧ xs.Nodup)) := fun h => (decide_eq_true ⟨hnm, h⟩).symm
    have HX : Hid (¬ xs.Nodup → false = decide (n = m ∧ xs.Nodup)) := fun h => (decide_eq_false (fun z => h z.2)).symm
    generalize decide (n = m ∧ xs.Nodup) = R at *
    clear hnm
    go_enter Tryd.func52, Tryd.ntmps52
    go_wp2_with fail
    go_loopw [5] (fun i wr => ∃ k : Nat, k ≤ n ∧ i = .int .i64 k ∧ (xs.take k).Nodup ∧ Below w.heap.size w wr) (fun i _ => n - (intOf i).toNat)
    case atStart => exact ⟨0, Nat.zero_le _, rfl, by simp, Below.refl _ _⟩
    case round =>
      obtain ⟨k, hk, rfl, hnd, hbw⟩ := hrel
      obtain ⟨V, rfl⟩ : ∃ V, V = wr := ⟨_, rfl⟩
      have KR := Lib.hid (And.intro hnd hbw)
      clear hnd hbw
      by_cases hlt : k < n
      · go_wp2_with fail
        go_loopw [6] (fun i wr => ∃ j : Nat, j ≤ k ∧ i = .int .i64 (j : Nat) ∧ (∀ i, i < j → xs.getD i 0 ≠ xs.getD k 0) ∧ Below w.heap.size w wr) (fun i _ => k - (intOf i).toNat)
        case atStart => exact ⟨0, Nat.zero_le _, rfl, fun i h => by omega, KR.out.2⟩
        case round =>
          obtain ⟨j, hj, rfl, hne, hbv⟩ := hrel
          have KS := Lib.hid (And.intro hne hbv)
          clear hne hbv
          by_cases hlj : j < k
          · obtain ⟨b, off, rfl, hb, hc⟩ := (HS.out.up KS.out.2).1 (by rw [HN.out]; omega)
            have hk0 : xs[k]? = some (xs.getD k 0) := by
              rw [List.getD_eq_getElem?_getD, List.getElem?_eq_getElem (by rw [HN.out]; omega)]
              rfl
            have hj0 : xs[j]? = some (xs.getD j 0) := by
              rw [List.getD_eq_getElem?_getD, List.getElem?_eq_getElem (by rw [HN.out]; omega)]
              rfl
            have k0 : wr.cell? ⟨b, off + k, none⟩ = some (.int .u8 ((xs.getD k 0).toNat : Int)) := hc k _ hk0
            have k1 : wr.cell? ⟨b, off + j, none⟩ = some (.int .u8 ((xs.getD j 0).toNat : Int)) := hc j _ hj0
            have HE : Hid ((xs.getD j 0).toNat = (xs.getD k 0).toNat → xs.getD j 0 = xs.getD k 0) := fun h => UInt8.toNat_inj.1 h
            have HQ : Hid (xs.getD j 0 = xs.getD k 0 → ¬ xs.Nodup) := fun h => nodup_no hlj (by rw [HN.out]; exact hlt) h
            have HE2 : Hid ((xs.getD j 0).toNat ≠ (xs.getD k 0).toNat → xs.getD j 0 ≠ xs.getD k 0) := fun h e => h (congrArg UInt8.toNat e)
            have i1 : (0 : Int) ≤ (k : Int) := by omega
            have i2 : (k : Int) < (n : Int) := by omega
            have i3 : (0 : Int) ≤ (j : Int) := by omega
            have i4 : (j : Int) < (n : Int) := by omega
            have HB := Lib.hid KS.out.2
            clear hk0 hj0 hc
            generalize (xs.getD k 0).toNat = x at *
            generalize (xs.getD j 0).toNat = y at *
            by_cases hxy : y = x
            · have q2 : ((y : Int) == (x : Int)) = true := by simpa using (show (y : Int) = (x : Int) by omega)
              have HF := Lib.hid (HX.out (HQ.out (HE.out hxy)))
              clear hxy HE HQ HE2
              go_wp2_with fail
              go_quiet (fail)
              go_wp2_with fail
              go_ret
              exact ⟨ret_bool HF.out, HB.out.trans ((below_drewN wr nq).mono HB.out.size)⟩
            · have q2 : ((y : Int) == (x : Int)) = false := by simpa using (show ¬ (y : Int) = (x : Int) by omega)
              have HF := Lib.hid (HE2.out hxy)
              clear hxy HE HQ HE2
              go_wp2_with fail
              go_quiet (fail)
              go_wp2_with fail
              go_roundw
              case rel => exact ⟨j + 1, by omega, by go_num, fun i hi => by
                by_cases e : i = j
                · subst e
                  exact HF.out
                · exact KS.out.1 i (by omega), HB.out.trans ((below_drewN wr nq).mono HB.out.size)⟩
              case measure => simp [intOf]; omega
          · obtain rfl : j = k := by omega
            have HF := Lib.hid (nodup_step KR.out.1 (by rw [HN.out]; exact hlt) KS.out.1)
            go_wp2_with fail
            go_roundw
            case rel => exact ⟨j + 1, by omega, by go_num, HF.out, KS.out.2⟩
            case measure => simp [intOf]; omega
      · obtain rfl : k = n := by omega
        have h1 := KR.out.1
        rw [List.take_of_length_le (by rw [HN.out]; exact Nat.le_refl _)] at h1
        have HF := Lib.hid (HT.out h1)
        clear h1
        go_wp2_with fail
        go_ret
        exact ⟨ret_bool HF.out, KR.out.2⟩
  · have q1 : ((n : Int) != (m : Int)) = true := by simpa using (show ¬ (n : Int) = (m : Int) by omega)
    have HF : Hid (false = decide (n = m ∧ xs.Nodup)) := (decide_eq_false (fun z => hnm z.1)).symm
    generalize decide (n = m ∧ xs.Nodup) = R at *
    go_enter Tryd.func52, Tryd.ntmps52
    go_wp2_with fail
    go_ret
    exact ⟨ret_bool HF.out, Below.refl _ _⟩

end
section
set_option linter.unusedVariables false

theorem hv_rep (z : UInt8) : ∀ n, hv (List.replicate n 0) z = 0
  | 0 => rfl
  | n + 1 => by
    rw [List.replicate_succ]
    show 0 ^^^ gm z (hv (List.replicate n 0) z) = 0
    rw [hv_rep z n, gm_zero]
    rfl
/-- The first k factors of the i-th summand. -/
def fk (xs : List UInt8) (at_ : UInt8) (i : Nat) (y : UInt8) : Nat → UInt8
  | 0 => y
  | k + 1 => if k = i then fk xs at_ i y k else gm (fk xs at_ i y k) (gm (at_ ^^^ xs.getD k 0) (iv (xs.getD i 0 ^^^ xs.getD k 0)))
/-- The first i summands. -/
def sk (xs ys : List UInt8) (at_ : UInt8) : Nat → UInt8
  | 0 => 0
  | i + 1 => sk xs ys at_ i ^^^ fk xs at_ i (ys.getD i 0) xs.length
/-- A summand at its own place, and at another. -/
theorem fk_own {xs : List UInt8} (hn : xs.Nodup) {i : Nat} (hi : i < xs.length) (y : UInt8) : ∀ k, k ≤ xs.length → fk xs (xs.getD i 0) i y k = y
  | 0, _ => rfl
  | k + 1, h => by
    unfold fk
    by_cases e : k = i
    · rw [if_pos e]
      exact fk_own hn hi y k (by omega)
    · have hne : xs.getD i 0 ^^^ xs.getD k 0 ≠ 0 := fun h0 => by
        have h1 := UInt8.xor_eq_zero_iff.1 h0
        rcases Nat.lt_or_gt_of_ne e with h2 | h2
        · exact nodup_no h2 hi h1.symm hn
        · exact nodup_no h2 (by omega) h1 hn
      rw [if_neg e, fk_own hn hi y k (by omega), (iv_pos hne).1, gm_inv _ hne, gm_one]
theorem fk_other {xs : List UInt8} {i j : Nat} (hij : j ≠ i) (y : UInt8) : ∀ k, j < k → fk xs (xs.getD j 0) i y k = 0
  | 0, h => by omega
  | k + 1, h => by
    unfold fk
    by_cases e : k = j
    · subst e
      rw [if_neg hij, UInt8.xor_self, zero_gm, gm_zero]
    · have := fk_other (xs := xs) hij y k (by omega)
      rw [this]
      split
      · rfl
      · rw [zero_gm]
theorem sk_at {xs ys : List UInt8} (hn : xs.Nodup) {j : Nat} (hj : j < xs.length) : ∀ i, i ≤ xs.length → sk xs ys (xs.getD j 0) i = if j < i then ys.getD j 0 else 0
  | 0, _ => rfl
  | i + 1, h => by
    unfold sk
    rw [sk_at hn hj i (by omega)]
    by_cases e : i = j
    · subst e
      rw [if_neg (by omega), if_pos (by omega), fk_own hn hj _ _ (Nat.le_refl _), UInt8.zero_xor]
    · rw [fk_other (fun h => e h.symm) _ _ hj, UInt8.xor_zero]
      by_cases h2 : j < i
      · rw [if_pos h2, if_pos (by omega)]
      · rw [if_neg h2, if_neg (by omega)]
theorem hv_set (z d : UInt8) : ∀ (x : List UInt8) (i : Nat), i < x.length → hv (x.set i (x.getD i 0 ^^^ d)) z = hv x z ^^^ gm (pw z i) d
  | [], i, h => absurd h (Nat.not_lt_zero _)
  | c :: x, 0, _ => by
    show (c ^^^ d) ^^^ gm z (hv x z) = (c ^^^ gm z (hv x z)) ^^^ gm 1 d
    rw [one_gm, UInt8.xor_assoc, UInt8.xor_assoc, UInt8.xor_comm d]
  | c :: x, i + 1, h => by
    show c ^^^ gm z (hv (x.set i (x.getD i 0 ^^^ d)) z) = (c ^^^ gm z (hv x z)) ^^^ gm (gm (pw z i) z) d
    rw [hv_set z d x i (by simpa using h), gm_right, UInt8.xor_assoc, gm_assoc, gm_comm z (pw z i)]
/-- The product after k rounds. -/
def tk (l : List UInt8) (a b : UInt8) : Nat → List UInt8
  | 0 => List.replicate (l.length + 1) 0
  | k + 1 => ((tk l a b k).set k ((tk l a b k).getD k 0 ^^^ gm (l.getD k 0) a)).set (k + 1) (((tk l a b k).set k ((tk l a b k).getD k 0 ^^^ gm (l.getD k 0) a)).getD (k + 1) 0 ^^^ gm (l.getD k 0) b)
theorem tk_length (l : List UInt8) (a b : UInt8) : ∀ k, (tk l a b k).length = l.length + 1
  | 0 => List.length_replicate
  | k + 1 => by
    unfold tk
    rw [List.length_set, List.length_set, tk_length l a b k]
theorem tk_hv (l : List UInt8) (a b z : UInt8) : ∀ k, k ≤ l.length → hv (tk l a b k) z = gm (ek l z k) (a ^^^ gm b z)
  | 0, _ => by
    show hv (List.replicate (l.length + 1) 0) z = gm 0 _
    rw [hv_rep, zero_gm]
  | k + 1, h => by
    have h1 := tk_length l a b k
    unfold tk
    rw [hv_set z _ _ _ (by rw [List.length_set]; omega), hv_set z _ _ _ (by omega), tk_hv l a b z k (by omega)]
    show _ = gm (ek l z k ^^^ gm (l.getD k 0) (pw z k)) (a ^^^ gm b z)
    rw [gm_left, UInt8.xor_assoc]
    congr 1
    show gm (pw z k) (gm (l.getD k 0) a) ^^^ gm (gm (pw z k) z) (gm (l.getD k 0) b) = gm (gm (l.getD k 0) (pw z k)) (a ^^^ gm b z)
    generalize l.getD k 0 = y
    generalize pw z k = p
    rw [gm_right, gm_assoc, gm_comm p y, ← gm_assoc (gm y p) b z |>.symm]
    congr 1
    rw [gm_comm p z, ← gm_assoc z p, gm_assoc p y b, gm_comm p y, gm_comm z, ← gm_assoc (gm y p) b z]
def tms (l : List UInt8) (a b : UInt8) : List UInt8 := tk l a b l.length
theorem tms_length (l : List UInt8) (a b : UInt8) : (tms l a b).length = l.length + 1 := tk_length l a b _
theorem tms_hv (l : List UInt8) (a b z : UInt8) : hv (tms l a b) z = gm (hv l z) (a ^^^ gm b z) := by
  unfold tms
  rw [tk_hv l a b z _ (Nat.le_refl _), ek_hv]
/-- over(1, ..). -/
def oi (d : UInt8) : UInt8 := gm 1 (iv d)
/-- The polynomial of the i-th summand, by its first k factors. -/
def onr (xs : List UInt8) (i : Nat) (y : UInt8) : Nat → List UInt8
  | 0 => [y]
  | k + 1 => if k = i then onr xs i y k else tms (onr xs i y k) (gm (oi (xs.getD i 0 ^^^ xs.getD k 0)) (xs.getD k 0)) (oi (xs.getD i 0 ^^^ xs.getD k 0))
theorem onr_length (xs : List UInt8) (i : Nat) (y : UInt8) : ∀ k, (onr xs i y k).length = if k ≤ i then k + 1 else k
  | 0 => by simp [onr]
  | k + 1 => by
    unfold onr
    by_cases h : k = i
    · rw [if_pos h, onr_length xs i y k, if_pos (by omega), if_neg (by omega)]
    · rw [if_neg h, tms_length, onr_length xs i y k]
      by_cases h2 : k ≤ i
      · rw [if_pos h2, if_pos (by omega)]
      · rw [if_neg h2, if_neg (by omega)]
theorem onr_hv (xs : List UInt8) (i : Nat) (y z : UInt8) : ∀ k, hv (onr xs i y k) z = fk xs z i y k
  | 0 => by
    show y ^^^ gm z 0 = y
    rw [gm_zero]
    simp
  | k + 1 => by
    unfold onr fk
    by_cases h : k = i
    · rw [if_pos h, if_pos h]
      exact onr_hv xs i y z k
    · rw [if_neg h, if_neg h, tms_hv, onr_hv xs i y z k]
      unfold oi
      rw [one_gm]
      congr 1
      generalize xs.getD k 0 = b
      generalize iv (xs.getD i 0 ^^^ b) = c
      rw [gm_left, gm_comm z c, gm_comm b c, UInt8.xor_comm]
/-- The polynomial of the first i summands. -/
def lsr (xs ys : List UInt8) : Nat → List UInt8
  | 0 => List.replicate xs.length 0
  | i + 1 => am (lsr xs ys i) (onr xs i (ys.getD i 0) xs.length) 1
theorem lsr_length (xs ys : List UInt8) : ∀ i, (lsr xs ys i).length = xs.length
  | 0 => List.length_replicate
  | i + 1 => by
    unfold lsr
    rw [am_length]
    exact lsr_length xs ys i
theorem lsr_hv (xs ys : List UInt8) (z : UInt8) : ∀ i, i ≤ xs.length → hv (lsr xs ys i) z = sk xs ys z i
  | 0, _ => hv_rep z _
  | i + 1, h => by
    unfold lsr sk
    rw [am_hv _ _ _ _ (by rw [onr_length, lsr_length, if_neg (by omega)]; exact Nat.le_refl _), one_gm, lsr_hv xs ys z i (by omega), onr_hv]
/-- The sum is the polynomial through the points. -/
theorem lsr_co {xs ys : List UInt8} (h : isP xs ys) : lsr xs ys xs.length = co xs ys := by
  have hl := lsr_length xs ys xs.length
  have hu := unique (xs := xs) (l := lsr xs ys xs.length) (m := co xs ys) hl (by rw [co_len h]; exact Nat.le_refl _) h.2 (fun x hx => by
    obtain ⟨j, hj, rfl⟩ := List.mem_iff_getElem.1 hx
    have e : xs[j] = xs.getD j 0 := by rw [List.getD_eq_getElem?_getD, List.getElem?_eq_getElem hj]; rfl
    rw [e, lsr_hv xs ys _ _ (Nat.le_refl _), sk_at h.2 hj _ (Nat.le_refl _), if_pos hj, co_at h j hj])
  apply List.ext_getElem
  · rw [hl, co_len h]
  · intro i h1 h2
    have := hu i h1
    rw [List.getD_eq_getElem?_getD, List.getD_eq_getElem?_getD, List.getElem?_eq_getElem h1, List.getElem?_eq_getElem h2] at this
    simpa using this

end
section
open Go.RowKit
set_option linter.unusedVariables false
set_option linter.unusedSimpArgs false

set_option maxHeartbeats 4000000 in
set_option maxRecDepth 100000 in
theorem rtimes_any (A : Option Addr) (c : Nat) (l : List UInt8) (a b : UInt8) (w : World) (hS : Sl w A l c) (hl : l.length ≤ 100000) :
    Calls Tryd.prog 54 #[.slice A l.length c, bv a, bv b] w fun e w' => ∃ A' c', e = .returned (.slice A' (l.length + 1) c') ∧ Sl w' A' (tms l a b) c' ∧ (∀ b off, A' = some ⟨b, off, none⟩ → w.heap.size ≤ b) ∧ Below w.heap.size w w' := by
  have HM : Hid (∀ (x y : UInt8) W, Calls Tryd.prog 55 #[.int .u8 (x.toNat : Int), .int .u8 (y.toNat : Int)] W fun e w' => e = .returned (.int .u8 ((gm x y).toNat : Int)) ∧ W = w') := fun x y W => rmul_any x y W
  have HS := Lib.hid hS
  have HTL := Lib.hid (tk_length l a b)
  have HT0 : Hid (tk l a b 0 = List.replicate (l.length + 1) 0) := rfl
  have HT1 : Hid (∀ k, tk l a b (k + 1) = ((tk l a b k).set k ((tk l a b k).getD k 0 ^^^ gm (l.getD k 0) a)).set (k + 1) (((tk l a b k).set k ((tk l a b k).getD k 0 ^^^ gm (l.getD k 0) a)).getD (k + 1) 0 ^^^ gm (l.getD k 0) b)) := fun _ => rfl
  have HTE : Hid (tms l a b = tk l a b l.length) := rfl
  obtain ⟨n, hn⟩ : ∃ n, l.length = n := ⟨_, rfl⟩
  have HN := Lib.hid hn
  rw [hn] at hl HTL HT0 HTE ⊢
  generalize tk l a b = T at *
  obtain ⟨N, hN⟩ : ∃ N, n + 1 = N := ⟨_, rfl⟩
  have hNi : (n : Int) + 1 = (N : Int) := by omega
  have HNN := Lib.hid hN
  rw [hN] at HTL HT0 ⊢
  clear hS hn hN
  unfold bv
  obtain ⟨an, han⟩ : ∃ an, a.toNat = an := ⟨_, rfl⟩
  obtain ⟨bn, hbn⟩ : ∃ bn, b.toNat = bn := ⟨_, rfl⟩
  have HAB := Lib.hid (And.intro han hbn)
  rw [han, hbn]
  clear han hbn
  obtain ⟨i0, hi0, hz0, hz1, hz2⟩ := info_parts u8_info
  go_enter Tryd.func54, Tryd.ntmps54
  go_wp2_with (refine wpList_make_full _ rfl (.tmp 11) (.tmp 11) 23 rfl w.heap.size 5 i0 (.int .u8 0) 1 Tryd.underlying23 hi0 hz0 hz1 .i64 .i64 N N N rfl rfl rfl rfl (by rw [hz2]; omega) (le_maxLen (by omega)) (Nat.le_refl _) ?_; intro w1 hown hgr; rw [Nat.mul_one, show (Value.int .u8 0).cells = #[.int .u8 0] from rfl, toList_madeCells_one] at hown; have HW := Lib.hid (And.intro hown (grown_below hgr)); clear hown hgr)
  obtain ⟨B, hB⟩ : ∃ B, w.heap.size = B := ⟨_, rfl⟩
  rw [hB] at HW ⊢
  have HBE := Lib.hid hB
  clear hB
  go_loopw [8] (fun i wr => ∃ k : Nat, k ≤ n ∧ i = .int .i64 (k : Int) ∧ wr.ownsRow B 5 1 (.slice (some ⟨B, 0, none⟩) N N) N ((T k).map bv) ∧ Below B w wr) (fun i _ => n - (intOf i).toNat)
  case atStart => exact ⟨0, Nat.zero_le _, rfl, by rw [HT0.out, List.map_replicate]; exact HW.out.1, HW.out.2⟩
  case round =>
    obtain ⟨k, hk, rfl, hown, hb⟩ := hrel
    have HB := Lib.hid (show Below w.heap.size w wr from by rw [HBE.out]; exact hb)
    by_cases hlt : k < n
    case neg =>
      obtain rfl : k = n := by omega
      have hdk : decide ((k : Int) < (k : Int)) = false := decide_eq_false (by omega)
      have HO := Lib.hid (Sl.of_own' hown (by rw [HTL.out]))
      clear hown hb HW
      go_wp2_with fail
      go_ret
      exact ⟨_, _, rfl, by rw [HTE.out]; exact HO.out, fun b off e => by injection e with e; injection e with e _; rw [HBE.out, e]; exact Nat.le_refl _, HB.out⟩
    have hdk : decide ((k : Int) < (n : Int)) = true := decide_eq_true (by omega)
    obtain ⟨y, hy⟩ : ∃ y, l[k]? = some y := ⟨_, List.getElem?_eq_getElem (by rw [HN.out]; exact hlt)⟩
    have hyd : l.getD k 0 = y := by rw [List.getD_eq_getElem?_getD, hy]; rfl
    obtain ⟨bs, os, rfl, hbs, hcs⟩ := HS.out.1 (by rw [HN.out]; omega)
    have hbsB : bs < B := by rw [← HBE.out]; exact hbs
    have y0 : wr.cell? ⟨bs, os + k, none⟩ = some (.int .u8 (y.toNat : Int)) := (hb.cell (p := ⟨bs, os + k, none⟩) hbsB).trans (hcs k y hy)
    obtain ⟨x, hx⟩ : ∃ x, (T k).getD k 0 = x := ⟨_, rfl⟩
    obtain ⟨T1, hT1⟩ : ∃ T1, (T k).set k (x ^^^ gm y a) = T1 := ⟨_, rfl⟩
    obtain ⟨x2, hx2⟩ : ∃ x2, T1.getD (k + 1) 0 = x2 := ⟨_, rfl⟩
    have hstep := HT1.out k
    rw [hyd, hx, hT1, hx2] at hstep
    have hTl := HTL.out k
    have hT1l : T1.length = N := by rw [← hT1, List.length_set, hTl]
    have hxk : (T k)[k]? = some x := by rw [← hx, List.getD_eq_getElem?_getD, List.getElem?_eq_getElem (by have := HNN.out; omega)]; rfl
    have hxk2 : T1[k + 1]? = some x2 := by rw [← hx2, List.getD_eq_getElem?_getD, List.getElem?_eq_getElem (by have := HNN.out; omega)]; rfl
    have c0 : wr.cell? ⟨B, k, none⟩ = some (.int .u8 (x.toNat : Int)) := by
      rw [hown.cellAt k (by have := HNN.out; omega), List.getElem?_map, hxk]
      rfl
    have f0 := hown.frozenAt k
    have hkk : (k : Int) + 1 = ((k + 1 : Nat) : Int) := by omega
    obtain ⟨k1, hk1⟩ : ∃ k1, k + 1 = k1 := ⟨_, rfl⟩
    rw [hk1] at hkk hstep hxk2
    have HK1 := Lib.hid hk1
    have HST := Lib.hid hstep
    have HT1' := Lib.hid (And.intro hT1 hxk2)
    have HOW := Lib.hid hown
    have HBR := Lib.hid hb
    have i0' : (0 : Int) ≤ (k : Int) := by omega
    have i1' : (k : Int) < (n : Int) := by omega
    have i2' : (k : Int) < (N : Int) := by have := HNN.out; omega
    have i3' : (k1 : Int) < (N : Int) := by have := HNN.out; omega
    have i4' : (0 : Int) ≤ (k1 : Int) := by omega
    have wk1 : IntKind.i64.wrap (k1 : Int) = (k1 : Int) := by rw [IntKind.wrap_i64]; have := HNN.out; omega
    clear hown hb hcs hy hyd hx hT1 hx2 hTl hT1l hxk hxk2 hstep hk1 HW
    go_upto_region 5 with fail
    refine region_tail_drew 13 (by kernel_rfl) (by kernel_rfl) ?_
    simp only [List.take_succ_cons, List.take_zero, List.drop_succ_cons, List.drop_zero]
    have HQ := Lib.hid (fun n => quietL (HM.out y a (wr.drewN n)))
    rw [HAB.out.1] at HQ
    repeat (quiet_step ((go_at_call 55; exact HQ.out _)))
    refine wpQuiet_nil ?_
    intro _ hw'
    obtain ⟨nq, rfl⟩ := hw'
    have f1 : (wr.drewN nq).frozen? ⟨B, k, none⟩ = false := f0
    have c1 : (wr.drewN nq).cell? ⟨B, k, none⟩ = some (.int .u8 (x.toNat : Int)) := c0
    have y1 : (wr.drewN nq).cell? ⟨bs, os + k, none⟩ = some (.int .u8 (y.toNat : Int)) := y0
    have HOW : Hid ((wr.drewN nq).ownsRow B 5 1 (.slice (some ⟨B, 0, none⟩) N N) N ((T k).map bv)) := Lib.hid HOW.out
    have HBR : Hid (Below B w (wr.drewN nq)) := HBR.out.trans ((below_drewN wr nq).mono (by rw [← HBE.out]; exact HB.out.size))
    have hwz : B ≤ (wr.drewN nq).heap.size := by rw [← HBE.out]; exact HB.out.size
    clear HQ f0 c0 y0 HB
    generalize wr.drewN nq = wn at *
    have hst := HOW.out.stored k (bv (x ^^^ gm y a))
    have F1 : (wn.setCell ⟨B, k, none⟩ (.int .u8 ((x ^^^ gm y a).toNat : Int))).ownsRow B 5 1 (.slice (some ⟨B, 0, none⟩) N N) N (T1.map bv) := by
      rw [← HT1'.out.1, map_set]
      exact hst.1
    have F2 : Below B w (wn.setCell ⟨B, k, none⟩ (.int .u8 ((x ^^^ gm y a).toNat : Int))) := HBR.out.setCell (p := ⟨B, k, none⟩) (Nat.le_refl _) _
    have F3 : (wn.setCell ⟨B, k, none⟩ (.int .u8 ((x ^^^ gm y a).toNat : Int))).cell? ⟨bs, os + k, none⟩ = some (.int .u8 (y.toNat : Int)) := by
      have := hst.2.cell y1 (by simp; omega)
      exact this
    have F := Lib.hid (And.intro F1 (And.intro F2 F3))
    clear hst F1 F2 F3 HOW HBR
    go_upto_region 6 with fail
    rw [xor_u8']
    clear f1 c1 y1 hwz
    generalize wn.setCell ⟨B, k, none⟩ (.int .u8 ((x ^^^ gm y a).toNat : Int)) = V at *
    have c0 : V.cell? ⟨B, k1, none⟩ = some (.int .u8 (x2.toNat : Int)) := by
      rw [F.out.1.cellAt k1 (by have := HNN.out; have := HK1.out; omega), List.getElem?_map, HT1'.out.2]
      rfl
    have f0 := F.out.1.frozenAt k1
    have y0 := F.out.2.2
    refine region_tail_drew 15 (by kernel_rfl) (by kernel_rfl) ?_
    simp only [List.take_succ_cons, List.take_zero, List.drop_succ_cons, List.drop_zero]
    have HQ := Lib.hid (fun n => quietL (HM.out y b (V.drewN n)))
    rw [HAB.out.2] at HQ
    repeat (quiet_step ((go_at_call 55; exact HQ.out _)))
    refine wpQuiet_nil ?_
    intro _ hw'
    obtain ⟨nq, rfl⟩ := hw'
    have f1 : (V.drewN nq).frozen? ⟨B, k1, none⟩ = false := f0
    have c1 : (V.drewN nq).cell? ⟨B, k1, none⟩ = some (.int .u8 (x2.toNat : Int)) := c0
    have G1 : (V.drewN nq).ownsRow B 5 1 (.slice (some ⟨B, 0, none⟩) N N) N (T1.map bv) := F.out.1
    have G2 : Below B w (V.drewN nq) := F.out.2.1.trans ((below_drewN V nq).mono (by rw [← HBE.out]; exact F.out.2.1.size))
    clear HQ f0 c0 y0 F
    generalize V.drewN nq = wn at *
    have hst := G1.stored k1 (bv (x2 ^^^ gm y b))
    have H1 : (wn.setCell ⟨B, k1, none⟩ (.int .u8 ((x2 ^^^ gm y b).toNat : Int))).ownsRow B 5 1 (.slice (some ⟨B, 0, none⟩) N N) N ((T k1).map bv) := by
      rw [HST.out, map_set]
      exact hst.1
    have H2 : Below B w (wn.setCell ⟨B, k1, none⟩ (.int .u8 ((x2 ^^^ gm y b).toNat : Int))) := G2.setCell (p := ⟨B, k1, none⟩) (Nat.le_refl _) _
    have H := Lib.hid (And.intro H1 H2)
    clear hst H1 H2 G1 G2
    go_wp2_with fail
    go_roundw
    case rel => exact ⟨k1, by have := HK1.out; omega, by go_num, by first | (rw [xor_u8']; exact H.out.1) | (rw [← UInt8.toNat_xor]; exact H.out.1), by first | (rw [xor_u8']; exact H.out.2) | (rw [← UInt8.toNat_xor]; exact H.out.2)⟩
    case measure => have := HK1.out; simp [intOf]; omega

end
section
open Go.RowKit
set_option linter.unusedVariables false
set_option linter.unusedSimpArgs false

set_option maxHeartbeats 8000000 in
set_option maxRecDepth 100000 in
theorem rcoef_any (A : Option Addr) (c : Nat) (xs : List UInt8) (A2 : Option Addr) (c2 : Nat) (ys : List UInt8) (w : World) (hS : Sl w A xs c) (hS2 : Sl w A2 ys c2) (hl : xs.length ≤ 1000) (hxy : isP xs ys) :
    Calls Tryd.prog 22 #[.slice A xs.length c, .slice A2 ys.length c2] w fun e w' => ∃ A' c', e = .returned (.tuple #[.slice A' xs.length c', .int .i64 0]) ∧ Sl w' A' (co xs ys) c' ∧ Below w.heap.size w w' := by
  have HP := Lib.hid (rpts_any A c xs A2 c2 ys.length w hS (by omega) (by rw [← hxy.1]; omega))
  rw [decide_eq_true (show xs.length = ys.length ∧ xs.Nodup from hxy)] at HP
  have HS := Lib.hid (And.intro hS hS2)
  have HO1 : Hid (∀ i y k, onr xs i y (k + 1) = if k = i then onr xs i y k else tms (onr xs i y k) (gm (oi (xs.getD i 0 ^^^ xs.getD k 0)) (xs.getD k 0)) (oi (xs.getD i 0 ^^^ xs.getD k 0))) := fun _ _ _ => rfl
  have HO0 : Hid (∀ i y, onr xs i y 0 = [y]) := fun _ _ => rfl
  have HOL := Lib.hid (onr_length xs)
  have HL1 : Hid (∀ i, lsr xs ys (i + 1) = am (lsr xs ys i) (onr xs i (ys.getD i 0) xs.length) 1) := fun _ => rfl
  have HL0 : Hid (lsr xs ys 0 = List.replicate xs.length 0) := rfl
  have HLL := Lib.hid (lsr_length xs ys)
  have HCO := Lib.hid (lsr_co hxy)
  have HOV : Hid (∀ (d : UInt8) W, Calls Tryd.prog 53 #[.int .u8 1, .int .u8 (d.toNat : Int)] W fun e w' => e = .returned (.int .u8 ((oi d).toNat : Int)) ∧ W = w') := fun d W => rover_any 1 d W
  have HM : Hid (∀ (x y : UInt8) W, Calls Tryd.prog 55 #[.int .u8 (x.toNat : Int), .int .u8 (y.toNat : Int)] W fun e w' => e = .returned (.int .u8 ((gm x y).toNat : Int)) ∧ W = w') := fun x y W => rmul_any x y W
  have hxy1 := hxy.1
  rw [← hxy1] at HP ⊢
  obtain ⟨n, hn⟩ : ∃ n, xs.length = n := ⟨_, rfl⟩
  have HN := Lib.hid (And.intro hn (hxy1.symm.trans hn))
  rw [hn] at hl HP HL1 HL0 HLL HCO ⊢
  generalize co xs ys = CO at *
  generalize lsr xs ys = LS at *
  generalize onr xs = ON at *
  clear hS hS2 hn hxy hxy1
  obtain ⟨i0, hi0, hz0, hz1, hz2⟩ := info_parts u8_info
  go_enter Tryd.func22, Tryd.ntmps22
  go_wp2_with fail
  refine HP.out.mono ?_
  rintro e w1 ⟨rfl, hb1⟩
  have HB1 := Lib.hid hb1
  clear hb1 HP
  go_wp2_with (refine wpList_make_full _ rfl (.tmp 17) (.tmp 17) 23 rfl w1.heap.size 5 i0 (.int .u8 0) 1 Tryd.underlying23 hi0 hz0 hz1 .i64 .i64 n n n rfl rfl rfl rfl (by rw [hz2]; omega) (le_maxLen (by omega)) (Nat.le_refl _) ?_; intro w2 hown hgr; rw [Nat.mul_one, show (Value.int .u8 0).cells = #[.int .u8 0] from rfl, toList_madeCells_one] at hown; have HW := Lib.hid (And.intro hown (grown_below hgr)); clear hown hgr)
  obtain ⟨B, hB⟩ : ∃ B, w1.heap.size = B := ⟨_, rfl⟩
  rw [hB] at HW ⊢
  have HBE := Lib.hid (And.intro hB (show w.heap.size ≤ B from by rw [← hB]; exact HB1.out.size))
  have HW0 := Lib.hid (show Below w.heap.size w w2 from HB1.out.trans (HW.out.2.mono HBE.out.2))
  clear hB
  go_loopw [7] (fun i wr => ∃ ii : Nat, ii ≤ n ∧ i = .int .i64 (ii : Int) ∧ wr.ownsRow B 5 1 (.slice (some ⟨B, 0, none⟩) n n) n ((LS ii).map bv) ∧ Below w.heap.size w wr) (fun i _ => n - (intOf i).toNat)
  case atStart => exact ⟨0, Nat.zero_le _, rfl, by rw [HL0.out, List.map_replicate]; exact HW.out.1, HW0.out⟩
  case round =>
    obtain ⟨ii, hii, rfl, hown, hb⟩ := hrel
    have KR := Lib.hid (And.intro hown hb)
    clear hown hb HW HW0
    by_cases hlt : ii < n
    case neg =>
      obtain rfl : ii = n := by omega
      have hdk : decide ((ii : Int) < (ii : Int)) = false := decide_eq_false (by omega)
      have HO := Lib.hid (Sl.of_own' KR.out.1 (by rw [HLL.out]))
      go_wp2_with fail
      go_ret2
      exact ⟨_, _, rfl, by rw [← HCO.out]; exact HO.out, KR.out.2⟩
    have hdk : decide ((ii : Int) < (n : Int)) = true := decide_eq_true (by omega)
    obtain ⟨y, hy⟩ : ∃ y, ys[ii]? = some y := ⟨_, List.getElem?_eq_getElem (by rw [HN.out.2]; exact hlt)⟩
    have hyd : ys.getD ii 0 = y := by rw [List.getD_eq_getElem?_getD, hy]; rfl
    obtain ⟨xi, hxi⟩ : ∃ xi, xs.getD ii 0 = xi := ⟨_, rfl⟩
    have hxi0 : xs[ii]? = some xi := by
      rw [← hxi, List.getD_eq_getElem?_getD, List.getElem?_eq_getElem (by rw [HN.out.1]; exact hlt)]
      rfl
    obtain ⟨by_, oy, rfl, hby, hcy⟩ := HS.out.2.1 (by rw [HN.out.2]; omega)
    obtain ⟨bx, ox, rfl, hbx, hcx⟩ := HS.out.1.1 (by rw [HN.out.1]; omega)
    have y0 : wr.cell? ⟨by_, oy + ii, none⟩ = some (.int .u8 (y.toNat : Int)) := (KR.out.2.cell (p := ⟨by_, oy + ii, none⟩) hby).trans (hcy ii y hy)
    have HXI : Hid (∀ V, Below w.heap.size w V → V.cell? ⟨bx, ox + ii, none⟩ = some (.int .u8 (xi.toNat : Int))) := fun V hV => (hV.cell (p := ⟨bx, ox + ii, none⟩) hbx).trans (hcx ii xi hxi0)
    have HXK : Hid (∀ V, Below w.heap.size w V → ∀ k x, xs[k]? = some x → V.cell? ⟨bx, ox + k, none⟩ = some (.int .u8 (x.toNat : Int))) := fun V hV k x hk => (hV.cell (p := ⟨bx, ox + k, none⟩) hbx).trans (hcx k x hk)
    have hL1 := HL1.out ii
    rw [hyd] at hL1
    have HLI := Lib.hid (And.intro hL1 hxi)
    have i1 : (0 : Int) ≤ (ii : Int) := by omega
    have i2 : (ii : Int) < (n : Int) := by omega
    have hba := (Below.refl wr.heap.size wr).alloc (Nat.le_refl _) (.cells #[.int .u8 (y.toNat : Int)] 5)
    have HA1 := Lib.hid (And.intro (own_below KR.out.1 hba) (And.intro (KR.out.2.trans (hba.mono KR.out.2.size)) (sl_lit wr [y] 1 rfl (by decide) #[.int .u8 (y.toNat : Int)] rfl)))
    have HSZ1 := Lib.hid (show wr.heap.size ≤ (wr.alloc (.cells #[.int .u8 (y.toNat : Int)] 5)).heap.size from by rw [World.size_alloc]; exact Nat.le_succ _)
    have HLT := Lib.hid (show B < wr.heap.size from (KR.out.1.lt B rfl).2)
    obtain ⟨Z, hZ⟩ : ∃ Z, wr.heap.size = Z := ⟨_, rfl⟩
    have HZZ := Lib.hid hZ
    clear hyd hxi hxi0 hcy hcx hbx hL1 hba hZ
    go_upto_region 8 with fail
    clear y0
    obtain ⟨V, hV⟩ : ∃ V, wr.alloc (.cells #[.int .u8 (y.toNat : Int)] 5) = V := ⟨_, rfl⟩
    rw [hV] at HA1 HSZ1
    rw [hV]
    rw [HZZ.out] at HSZ1
    rw [HZZ.out] at HA1 HLT
    rw [HZZ.out]
    have HVB := Lib.hid (show Below Z V V from Below.refl _ _)
    clear hV
    go_wp2_with fail
    go_loopw [8, 9] (fun v i wr => ∃ (k : Nat) (Ao : Option Addr) (m co' : Nat), k ≤ n ∧ i = .int .i64 (k : Int) ∧ v = .slice Ao m co' ∧ (ON ii y k).length = m ∧ Sl wr Ao (ON ii y k) co' ∧ (∀ b off, Ao = some ⟨b, off, none⟩ → Z ≤ b) ∧ wr.ownsRow B 5 1 (.slice (some ⟨B, 0, none⟩) n n) n ((LS ii).map bv) ∧ Below w.heap.size w wr ∧ Z ≤ wr.heap.size) (fun _ i _ => n - (intOf i).toNat)
    case atStart => exact ⟨0, some ⟨Z, 0, none⟩, 1, 1, Nat.zero_le _, rfl, rfl, by rw [HO0.out]; rfl, by rw [HO0.out]; exact HA1.out.2.2, fun b off e => by injection e with e; injection e with e _; rw [e]; exact Nat.le_refl _, HA1.out.1, HA1.out.2.1, HSZ1.out⟩
    case round =>
      obtain ⟨k, Ao, m, co', hk, rfl, rfl, hm, hSo, hfr, hown, hb, hz⟩ := hrel
      have hm0 := HOL.out ii y k
      rw [hm] at hm0
      have hmb : m ≤ 1001 := by rw [hm0]; split <;> omega
      have KS := Lib.hid (And.intro hSo (And.intro hfr (And.intro hown (And.intro hb hz))))
      have HMM := Lib.hid hm
      have HM0 := Lib.hid hm0
      clear hSo hfr hown hb hz hm HA1 HSZ1 hm0
      by_cases hlk : k < n
      case pos =>
        have hdk2 : decide ((k : Int) < (n : Int)) = true := decide_eq_true (by omega)
        have hO := HO1.out ii y k
        by_cases hki : k = ii
        case pos =>
          rw [if_pos hki] at hO
          have HOK := Lib.hid hO
          have q1 : ((k : Int) != (ii : Int)) = false := by simpa using (show (k : Int) = (ii : Int) by omega)
          clear hO hki
          go_wp2_with fail
          go_roundw
          case rel => exact ⟨k + 1, Ao, m, co', by omega, by go_num, rfl, by rw [HOK.out]; exact HMM.out, by rw [HOK.out]; exact KS.out.1, KS.out.2.1, KS.out.2.2.1, KS.out.2.2.2.1, KS.out.2.2.2.2⟩
          case measure => simp [intOf]; omega
        case neg =>
        rw [if_neg hki, HLI.out.2] at hO
        have q1 : ((k : Int) != (ii : Int)) = true := by simpa using (show ¬ (k : Int) = (ii : Int) by omega)
        obtain ⟨xk, hxk⟩ : ∃ xk, xs.getD k 0 = xk := ⟨_, rfl⟩
        have hk0 : xs[k]? = some xk := by
          rw [← hxk, List.getD_eq_getElem?_getD, List.getElem?_eq_getElem (by rw [HN.out.1]; exact hlk)]
          rfl
        rw [hxk] at hO
        have HO : Hid (∀ W, Calls Tryd.prog 53 #[.int .u8 1, .int .u8 ((xi ^^^ xk).toNat : Int)] W fun e w' => e = .returned (.int .u8 ((oi (xi ^^^ xk)).toNat : Int)) ∧ W = w') := fun W => HOV.out _ W
        have e2 := xor_u8' xi xk
        obtain ⟨ci, hci⟩ : ∃ ci, oi (xi ^^^ xk) = ci := ⟨_, rfl⟩
        rw [hci] at hO HO
        have HMX := Lib.hid (fun W => HM.out ci xk W)
        have HTM := Lib.hid (fun W (hW : Below wr.heap.size wr W) => rtimes_any Ao co' (ON ii y k) (gm ci xk) ci W (KS.out.1.up hW) (by rw [HMM.out]; omega))
        rw [HMM.out] at HTM
        unfold bv at HTM
        have HOK := Lib.hid hO
        have hk1 : ∀ m, (wr.drewN m).cell? ⟨bx, ox + k, none⟩ = some (.int .u8 (xk.toNat : Int)) ∧ (wr.drewN m).cell? ⟨bx, ox + ii, none⟩ = some (.int .u8 (xi.toNat : Int)) := fun m => ⟨HXK.out wr KS.out.2.2.2.1 k xk hk0, HXI.out wr KS.out.2.2.2.1⟩
        have HDR := Lib.hid (fun m => And.intro (below_drewN wr m) (hk1 m))
        have k1 := (hk1 0).1
        have k2 := (hk1 0).2
        have k1 : wr.cell? ⟨bx, ox + k, none⟩ = some (.int .u8 (xk.toNat : Int)) := k1
        have k2 : wr.cell? ⟨bx, ox + ii, none⟩ = some (.int .u8 (xi.toNat : Int)) := k2
        have i3 : (0 : Int) ≤ (k : Int) := by omega
        have i4 : (k : Int) < (n : Int) := by omega
        generalize (xi ^^^ xk).toNat = d2 at *
        generalize ci.toNat = cn at *
        generalize (gm ci xk).toNat = gn at *
        generalize xk.toNat = x1 at *
        generalize xi.toNat = x2 at *
        clear hk0 hxk hO hci hki hk1
        go_upto_region 12 with fail
        go_quiet ((go_at_call 53; exact quietL (HO.out _)))
        have hW1 := (HDR.out nq).1
        have z1 := (HDR.out nq).2.1
        have HW1 := Lib.hid hW1
        clear k1 k2 hW1 HDR
        generalize wr.drewN nq = V2 at *
        go_wp2_with fail
        refine (HMX.out _).mono ?_
        rintro e w3 ⟨rfl, hw3⟩
        obtain rfl := hw3
        have HT := Lib.hid (HTM.out _ HW1.out)
        clear z1 HMX HTM
        go_wp2_with fail
        refine HT.out.mono ?_
        rintro e w4 ⟨A4, c4, rfl, hs4, hf4, hb4⟩
        have hW4 := HW1.out.trans (hb4.mono HW1.out.size)
        have F := Lib.hid (And.intro hs4 (And.intro (fun b off (e : A4 = some ⟨b, off, none⟩) => Nat.le_trans KS.out.2.2.2.2 (Nat.le_trans HW1.out.size (hf4 b off e))) (And.intro (own_below KS.out.2.2.1 hW4) (And.intro (KS.out.2.2.2.1.trans (hW4.mono KS.out.2.2.2.1.size)) (Nat.le_trans KS.out.2.2.2.2 hW4.size)))))
        clear hs4 hf4 hb4 hW4 HT
        go_wp2_with fail
        go_roundw
        case rel => exact ⟨k + 1, A4, m + 1, c4, by omega, by go_num, rfl, by rw [HOK.out, tms_length, HMM.out], by rw [HOK.out]; exact F.out.1, F.out.2.1, F.out.2.2.1, F.out.2.2.2.1, F.out.2.2.2.2⟩
        case measure => simp [intOf]; omega
      case neg =>
      have hdk2 : decide ((k : Int) < (n : Int)) = false := decide_eq_false (by omega)
      obtain rfl : k = n := by omega
      obtain rfl : m = k := by rw [HM0.out, if_neg (by omega)]
      obtain ⟨OO, hOO⟩ : ∃ OO, ON ii y m = OO := ⟨_, rfl⟩
      rw [hOO] at KS HMM
      have hOL := HMM.out
      have hLI := HLI.out.1
      rw [hOO] at hLI
      have HLI2 := Lib.hid hLI
      have hLS := HLL.out ii
      have HLS := Lib.hid hLS
      clear hOO hLI hk hlk
      obtain ⟨W1, rfl⟩ : ∃ W1, W1 = wr := ⟨_, rfl⟩
      go_wp2_with fail
      go_loopw [11] (fun i wr => ∃ q : Nat, q ≤ m ∧ i = .int .i64 (q : Int) ∧ wr.ownsRow B 5 1 (.slice (some ⟨B, 0, none⟩) m m) m ((am (LS ii) (OO.take q) 1).map bv) ∧ W1.grownBy wr (some B) ∧ Below w.heap.size w wr) (fun i _ => m - (intOf i).toNat)
      case atStart => exact ⟨0, Nat.zero_le _, rfl, by rw [List.take_zero, am_nil]; exact KS.out.2.2.1, World.grownBy.refl W1 _, KS.out.2.2.2.1⟩
      case round =>
        obtain ⟨q, hq, rfl, hown, hgr, hb⟩ := hrel
        have KT0 := Lib.hid (And.intro hown (And.intro hgr hb))
        by_cases hlq : q < m
        case pos =>
          have hdq : decide ((q : Int) < (m : Int)) = true := decide_eq_true (by omega)
          obtain ⟨bo, oo, rfl, hbo, hco⟩ := KS.out.1.1 (by rw [hOL]; omega)
          have hboB : bo ≠ B := by have h1 := KS.out.2.1 bo oo rfl; have h2 := HLT.out; omega
          obtain ⟨vo, hvo⟩ : ∃ vo, OO[q]? = some vo := ⟨_, List.getElem?_eq_getElem (by rw [hOL]; exact hlq)⟩
          obtain ⟨vl, hvl⟩ : ∃ vl, (LS ii)[q]? = some vl := ⟨_, List.getElem?_eq_getElem (by rw [hLS]; exact hlq)⟩
          have y0 : wr.cell? ⟨bo, oo + q, none⟩ = some (.int .u8 (vo.toNat : Int)) := hgr.cell (hco q vo hvo) (by simpa using hboB)
          have c0 : wr.cell? ⟨B, q, none⟩ = some (.int .u8 (vl.toNat : Int)) := by
            rw [hown.cellAt q (by omega), List.getElem?_map, am_old, hvl]
            rfl
          have f0 := hown.frozenAt q
          have hst := am_step 1 (LS ii) OO q (by rw [hOL]; exact hlq) (by rw [hOL, hLS]; exact Nat.le_refl _)
          rw [List.getD_eq_getElem?_getD, List.getD_eq_getElem?_getD, hvo, hvl, Option.getD_some, Option.getD_some, gm_one] at hst
          have HST := Lib.hid hst
          have j1 : (0 : Int) ≤ (q : Int) := by omega
          have j2 : (q : Int) < (m : Int) := by omega
          clear hown hgr hb hst hvo hvl hco hbo
          go_upto_region 17 with fail
          refine region_tail_drew 11 (by kernel_rfl) (by kernel_rfl) ?_
          simp only [List.take_succ_cons, List.take_zero, List.drop_succ_cons, List.drop_zero]
          repeat (quiet_step (fail))
          refine wpQuiet_nil ?_
          intro _ hw'
          obtain ⟨nq, rfl⟩ := hw'
          have f1 : (wr.drewN nq).frozen? ⟨B, q, none⟩ = false := f0
          have c1 : (wr.drewN nq).cell? ⟨B, q, none⟩ = some (.int .u8 (vl.toNat : Int)) := c0
          have KD : Hid ((wr.drewN nq).ownsRow B 5 1 (.slice (some ⟨B, 0, none⟩) m m) m ((am (LS ii) (OO.take q) 1).map bv) ∧ W1.grownBy (wr.drewN nq) (some B) ∧ Below w.heap.size w (wr.drewN nq)) := ⟨KT0.out.1, grown_trans KT0.out.2.1 (grown_drewN wr nq _), KT0.out.2.2.trans ((below_drewN wr nq).mono KT0.out.2.2.size)⟩
          clear f0 c0 y0 KT0
          generalize wr.drewN nq = wn at *
          have h1 := KD.out.1.stored q (bv (vl ^^^ vo))
          have H1 : (wn.setCell ⟨B, q, none⟩ (.int .u8 ((vl ^^^ vo).toNat : Int))).ownsRow B 5 1 (.slice (some ⟨B, 0, none⟩) m m) m ((am (LS ii) (OO.take (q + 1)) 1).map bv) := by
            rw [HST.out, map_set]
            exact h1.1
          have H2 : W1.grownBy (wn.setCell ⟨B, q, none⟩ (.int .u8 ((vl ^^^ vo).toNat : Int))) (some B) := grown_trans KD.out.2.1 h1.2
          have H3 : Below w.heap.size w (wn.setCell ⟨B, q, none⟩ (.int .u8 ((vl ^^^ vo).toNat : Int))) := KD.out.2.2.setCell (p := ⟨B, q, none⟩) HBE.out.2 _
          have H := Lib.hid (And.intro H1 (And.intro H2 H3))
          clear h1 H1 H2 H3 KD
          go_wp2_with fail
          go_roundw
          case rel => exact ⟨q + 1, by omega, by go_num, by first | (rw [xor_u8']; exact H.out.1) | (rw [← UInt8.toNat_xor]; exact H.out.1), by first | (rw [xor_u8']; exact H.out.2.1) | (rw [← UInt8.toNat_xor]; exact H.out.2.1), by first | (rw [xor_u8']; exact H.out.2.2) | (rw [← UInt8.toNat_xor]; exact H.out.2.2)⟩
          case measure => simp [intOf]; omega
        case neg =>
        have hdq : decide ((q : Int) < (m : Int)) = false := decide_eq_false (by omega)
        obtain rfl : q = m := by omega
        have HF := Lib.hid (show wr.ownsRow B 5 1 (.slice (some ⟨B, 0, none⟩) q q) q ((LS (ii + 1)).map bv) from by
          rw [HLI2.out]
          have := hown
          rwa [List.take_of_length_le (by rw [hOL]; exact Nat.le_refl _)] at this)
        have HG := Lib.hid hb
        clear hown hgr hb KT0
        go_wp2_with fail
        go_roundw
        case rel => exact ⟨ii + 1, by omega, by go_num, HF.out, HG.out⟩
        case measure => simp [intOf]; omega

end
section
open Go.RowKit
set_option linter.unusedVariables false
set_option linter.unusedSimpArgs false

theorem Sl.cut2 {w : World} {A : Option Addr} {l : List UInt8} {c : Nat} (h : Sl w A l c) (f t : Nat) (hft : f ≤ t) (htl : t ≤ l.length) : Sl w (if c = f then A else A.map (fun x => x.add f)) ((l.drop f).take (t - f)) (c - f) := by
  have hm := h.2.1
  have hm2 := h.2.2.1
  by_cases e : c = f
  · rw [if_pos e]
    have e2 : t = f := by omega
    rw [e2, e, Nat.sub_self, List.take_zero]
    exact ⟨Bs.none_, Nat.le_refl _, Nat.zero_le _, fun _ => ⟨rfl, rfl⟩⟩
  · rw [if_neg e]
    refine ⟨h.1.drop.take, by simp; omega, by omega, fun hA => ?_⟩
    cases A with
    | none =>
      have := (h.2.2.2 rfl).2
      omega
    | some a => cases hA
theorem pols_at {s coins : List UInt8} {e p : Nat} (hp : p < s.length) : (pols s coins e).getD p [] = pcf s coins e p := by
  unfold pols
  rw [List.getD_eq_getElem?_getD, List.getElem?_map, List.getElem?_range hp]
  rfl

set_option maxHeartbeats 4000000 in
set_option maxRecDepth 100000 in
theorem rsplit_any (A1 A2 : Option Addr) (c1 c2 : Nat) (s coins : List UInt8) (ep th mn : Int) (W : World) (hS : Sl W A1 s c1) (hC : Sl W A2 coins c2) :
    Calls Tryd.prog 26 #[.slice A1 s.length c1, .int .i64 ep, .int .i64 th, .int .i64 mn, .slice A2 coins.length c2] W (SplitPost s ep th mn coins W) := by
  have b0 := Nat.le_trans hS.2.1 hS.2.2.1
  have b4 := Nat.le_trans hC.2.1 hC.2.2.1
  unfold maxLen at b0 b4
  by_cases p0 : 64 < s.length
  · skip
    have he : spe s ep th mn coins = 1 := if_pos p0
    have hfin : SplitPost s ep th mn coins W (.returned (.tuple #[.slice none 0 0, .int .i64 1])) W := by
      unfold SplitPost spl
      rw [he, if_neg (by decide)]
      exact ⟨none, 0, rfl, SS.nil _, Below.refl _ _⟩
    have HF := Lib.hid hfin
    clear hfin he
    have f0 : decide ((64 : Int) < (s.length : Int)) = true := decide_eq_true (by omega)
    have g0 : (64 : Int) < (s.length : Int) := by omega
    generalize s.length = n at *
    generalize coins.length = m at *
    go_enter Tryd.func26, Tryd.ntmps26
    go_wp2_with fail
    go_ret2
    exact HF.out

  · skip
    by_cases p1 : th < 1
    · skip
      have he : spe s ep th mn coins = 60 := (by unfold spe; rw [if_neg p0, if_pos (by omega)])
      have hfin : SplitPost s ep th mn coins W (.returned (.tuple #[.slice none 0 0, .int .i64 60])) W := by
        unfold SplitPost spl
        rw [he, if_neg (by decide)]
        exact ⟨none, 0, rfl, SS.nil _, Below.refl _ _⟩
      have HF := Lib.hid hfin
      clear hfin he
      have f0 : decide ((64 : Int) < (s.length : Int)) = false := decide_eq_false (by omega)
      have g0 : ¬ (64 : Int) < (s.length : Int) := by omega
      have f1 : decide (th < (1 : Int)) = true := decide_eq_true (by omega)
      have g1 : th < (1 : Int) := by omega
      generalize s.length = n at *
      generalize coins.length = m at *
      go_enter Tryd.func26, Tryd.ntmps26
      go_wp2_with fail
      go_ret2
      exact HF.out

    · skip
      by_cases p2 : mn < th
      · skip
        have he : spe s ep th mn coins = 60 := (by unfold spe; rw [if_neg p0, if_pos (by omega)])
        have hfin : SplitPost s ep th mn coins W (.returned (.tuple #[.slice none 0 0, .int .i64 60])) W := by
          unfold SplitPost spl
          rw [he, if_neg (by decide)]
          exact ⟨none, 0, rfl, SS.nil _, Below.refl _ _⟩
        have HF := Lib.hid hfin
        clear hfin he
        have f0 : decide ((64 : Int) < (s.length : Int)) = false := decide_eq_false (by omega)
        have g0 : ¬ (64 : Int) < (s.length : Int) := by omega
        have f1 : decide (th < (1 : Int)) = false := decide_eq_false (by omega)
        have g1 : ¬ th < (1 : Int) := by omega
        have f2 : decide (mn < th) = true := decide_eq_true (by omega)
        have g2 : mn < th := by omega
        generalize s.length = n at *
        generalize coins.length = m at *
        go_enter Tryd.func26, Tryd.ntmps26
        go_wp2_with fail
        go_ret2
        exact HF.out

      · skip
        by_cases p3 : 8 < mn
        · skip
          have he : spe s ep th mn coins = 60 := (by unfold spe; rw [if_neg p0, if_pos (by omega)])
          have hfin : SplitPost s ep th mn coins W (.returned (.tuple #[.slice none 0 0, .int .i64 60])) W := by
            unfold SplitPost spl
            rw [he, if_neg (by decide)]
            exact ⟨none, 0, rfl, SS.nil _, Below.refl _ _⟩
          have HF := Lib.hid hfin
          clear hfin he
          have f0 : decide ((64 : Int) < (s.length : Int)) = false := decide_eq_false (by omega)
          have g0 : ¬ (64 : Int) < (s.length : Int) := by omega
          have f1 : decide (th < (1 : Int)) = false := decide_eq_false (by omega)
          have g1 : ¬ th < (1 : Int) := by omega
          have f2 : decide (mn < th) = false := decide_eq_false (by omega)
          have g2 : ¬ mn < th := by omega
          have f3 : decide ((8 : Int) < mn) = true := decide_eq_true (by omega)
          have g3 : (8 : Int) < mn := by omega
          generalize s.length = n at *
          generalize coins.length = m at *
          go_enter Tryd.func26, Tryd.ntmps26
          go_wp2_with fail
          go_ret2
          exact HF.out

        · skip
          by_cases p4 : ep < 0
          · skip
            have he : spe s ep th mn coins = 61 := (by unfold spe; rw [if_neg p0, if_neg (by omega), if_pos (by omega)])
            have hfin : SplitPost s ep th mn coins W (.returned (.tuple #[.slice none 0 0, .int .i64 61])) W := by
              unfold SplitPost spl
              rw [he, if_neg (by decide)]
              exact ⟨none, 0, rfl, SS.nil _, Below.refl _ _⟩
            have HF := Lib.hid hfin
            clear hfin he
            have f0 : decide ((64 : Int) < (s.length : Int)) = false := decide_eq_false (by omega)
            have g0 : ¬ (64 : Int) < (s.length : Int) := by omega
            have f1 : decide (th < (1 : Int)) = false := decide_eq_false (by omega)
            have g1 : ¬ th < (1 : Int) := by omega
            have f2 : decide (mn < th) = false := decide_eq_false (by omega)
            have g2 : ¬ mn < th := by omega
            have f3 : decide ((8 : Int) < mn) = false := decide_eq_false (by omega)
            have g3 : ¬ (8 : Int) < mn := by omega
            have f4 : decide (ep < (0 : Int)) = true := decide_eq_true (by omega)
            have g4 : ep < (0 : Int) := by omega
            generalize s.length = n at *
            generalize coins.length = m at *
            go_enter Tryd.func26, Tryd.ntmps26
            go_wp2_with fail
            go_ret2
            exact HF.out

          · skip
            by_cases p5 : 1048576 < ep
            · skip
              have he : spe s ep th mn coins = 61 := (by unfold spe; rw [if_neg p0, if_neg (by omega), if_pos (by omega)])
              have hfin : SplitPost s ep th mn coins W (.returned (.tuple #[.slice none 0 0, .int .i64 61])) W := by
                unfold SplitPost spl
                rw [he, if_neg (by decide)]
                exact ⟨none, 0, rfl, SS.nil _, Below.refl _ _⟩
              have HF := Lib.hid hfin
              clear hfin he
              have f0 : decide ((64 : Int) < (s.length : Int)) = false := decide_eq_false (by omega)
              have g0 : ¬ (64 : Int) < (s.length : Int) := by omega
              have f1 : decide (th < (1 : Int)) = false := decide_eq_false (by omega)
              have g1 : ¬ th < (1 : Int) := by omega
              have f2 : decide (mn < th) = false := decide_eq_false (by omega)
              have g2 : ¬ mn < th := by omega
              have f3 : decide ((8 : Int) < mn) = false := decide_eq_false (by omega)
              have g3 : ¬ (8 : Int) < mn := by omega
              have f4 : decide (ep < (0 : Int)) = false := decide_eq_false (by omega)
              have g4 : ¬ ep < (0 : Int) := by omega
              have f5 : decide ((1048576 : Int) < ep) = true := decide_eq_true (by omega)
              have g5 : (1048576 : Int) < ep := by omega
              generalize s.length = n at *
              generalize coins.length = m at *
              go_enter Tryd.func26, Tryd.ntmps26
              go_wp2_with fail
              go_ret2
              exact HF.out

            · skip
              have f0 : decide ((64 : Int) < (s.length : Int)) = false := decide_eq_false (by omega)
              have g0 : ¬ (64 : Int) < (s.length : Int) := by omega
              have f1 : decide (th < (1 : Int)) = false := decide_eq_false (by omega)
              have g1 : ¬ th < (1 : Int) := by omega
              have f2 : decide (mn < th) = false := decide_eq_false (by omega)
              have g2 : ¬ mn < th := by omega
              have f3 : decide ((8 : Int) < mn) = false := decide_eq_false (by omega)
              have g3 : ¬ (8 : Int) < mn := by omega
              have f4 : decide (ep < (0 : Int)) = false := decide_eq_false (by omega)
              have g4 : ¬ ep < (0 : Int) := by omega
              have f5 : decide ((1048576 : Int) < ep) = false := decide_eq_false (by omega)
              have g5 : ¬ (1048576 : Int) < ep := by omega
              obtain ⟨each, hth⟩ : ∃ each : Nat, th - 1 = (each : Int) := ⟨(th - 1).toNat, by omega⟩
              have hte : th.toNat - 1 = each := by omega
              have he8 : each ≤ 7 := by omega
              have hle := Nat.mul_le_mul (show s.length ≤ 64 by omega) he8
              obtain ⟨t, ht⟩ : ∃ t, s.length * each = t := ⟨_, rfl⟩
              rw [ht] at hle
              have hti : ((s.length : Int) * (each : Int)) = (t : Int) := by rw [← Int.natCast_mul, ht]
              have w1 : IntKind.i64.wrap (th - 1) = (each : Int) := by rw [IntKind.wrap_i64]; omega
              have w2 : IntKind.i64.wrap ((s.length : Int) * (each : Int)) = (t : Int) := by rw [hti, IntKind.wrap_i64]; omega
              have hsp : spe s ep th mn coins = if coins.length ≠ t then 1 else 0 := by
                unfold spe
                rw [if_neg p0, if_neg (by omega), if_neg (by omega), hte, ht]
              by_cases p6 : coins.length = t
              · have he : spe s ep th mn coins = 0 := by rw [hsp, if_neg (fun h => h p6)]
                have q6 : ((coins.length : Int) != (t : Int)) = false := by simpa using (show (coins.length : Int) = (t : Int) by omega)
                obtain ⟨Z, hZ⟩ : ∃ Z, spl s ep th mn coins = Z := ⟨_, rfl⟩
                obtain ⟨N, hN⟩ : ∃ N, mn.toNat = N := ⟨_, rfl⟩
                have hZl := spl_length he
                rw [hZ, hN] at hZl
                have hZat : ∀ k, k < N → Z[k]? = some (psh ep th mn (pols s coins each) k) := fun k hk => by
                  rw [← hZ, ← hte]
                  exact spl_at he (by omega)
                have HZ := Lib.hid (And.intro hZ (And.intro hZl (And.intro hZat (And.intro he (And.intro hN p6)))))
                have hN8 : N ≤ 8 ∧ 1 ≤ N := by omega
                have HT := Lib.hid (And.intro ht (And.intro hth hte))
                have HS := Lib.hid (And.intro hS hC)
                have HMN := Lib.hid (show mn = (N : Int) by omega)
                have hfin : ∀ A' c' w', OB W w' A' c' Z → Below W.heap.size W w' → SplitPost s ep th mn coins W (.returned (.tuple #[.slice A' N c', .int .i64 0])) w' := fun A' c' w' ho hb => by
                  unfold SplitPost
                  rw [he, hZ, hZl]
                  exact ⟨A', c', rfl, ho.ss, hb⟩
                have HF := Lib.hid hfin
                obtain ⟨n, hn⟩ : ∃ n, s.length = n := ⟨_, rfl⟩
                obtain ⟨m, hm⟩ : ∃ m, coins.length = m := ⟨_, rfl⟩
                have HL := Lib.hid (And.intro hn hm)
                have hn64 : n ≤ 64 := by omega
                clear hS hC hZ hZl hZat he hN hsp ht hth hte hti hfin hle
                rw [hn] at b0 p0 f0 g0 w2 ⊢
                rw [hm] at b4 q6 ⊢
                clear p6 hn hm
                go_enter Tryd.func26, Tryd.ntmps26
                go_upto_region 10 with fail
                go_wp2_with fail
                go_loopw [12, 13] (fun v i wr => ∃ (k : Nat) (A' : Option Addr) (c' : Nat), k ≤ N ∧ v = .slice A' k c' ∧ i = .int .i64 ((k : Int) + 1) ∧ OB W wr A' c' (Z.take k) ∧ Below W.heap.size W wr) (fun _ i _ => N + 1 - (intOf i).toNat)
                case atStart => exact ⟨0, none, 0, Nat.zero_le _, rfl, rfl, OB.nil _ _, Below.refl _ _⟩
                case round =>
                  obtain ⟨kk, A', c', hkk, rfl, rfl, hO, hb⟩ := hrel
                  obtain ⟨V, rfl⟩ : ∃ V, V = wr := ⟨_, rfl⟩
                  have KR := Lib.hid (And.intro hO hb)
                  clear hO hb
                  by_cases hlt : kk < N
                  · have hmn := HMN.out
                    have u1 : decide ((kk : Int) + 1 ≤ mn) = true := decide_eq_true (by omega)
                    have u2 : (kk : Int) + 1 ≤ mn := by omega
                    have u3 : ¬ mn < (kk : Int) + 1 := by omega
                    have u4 : decide (mn < (kk : Int) + 1) = false := decide_eq_false u3
                    clear hmn
                    go_upto_region 14 with fail
                    obtain ⟨x, hx⟩ : ∃ x, UInt8.ofNat (kk + 1) = x := ⟨_, rfl⟩
                    obtain ⟨D, hD⟩ : ∃ D, (psh ep th mn (pols s coins each) kk).data = D := ⟨_, rfl⟩
                    have hDl : D.length = n := by rw [← hD, psh_len]; exact HL.out.1
                    have hDat : ∀ j, j < n → D[j]? = some (hv (pcf s coins each j) x) := fun j hj => by
                      rw [← hD, ← hx]
                      have hjs : j < s.length := by rw [HL.out.1]; exact hj
                      show ((List.range (pols s coins each).length).map fun k => hv ((pols s coins each).getD k []) (UInt8.ofNat (kk + 1)))[j]? = _
                      rw [List.getElem?_map, List.getElem?_range (by unfold pols; simp; exact hjs), Option.map_some, pols_at hjs]
                    have HDD := Lib.hid (And.intro hD (And.intro hDl (And.intro hDat hx)))
                    have x14 := Box.new V #[.int .i64 ep, .int .i64 ((kk : Int) + 1), .int .i64 th, .int .i64 mn, .slice none 0 0] 36
                    have hba := (Below.refl V.heap.size V).alloc (Nat.le_refl _) (.cells #[.int .i64 ep, .int .i64 ((kk : Int) + 1), .int .i64 th, .int .i64 mn, .slice none 0 0] 36)
                    have KV := Lib.hid (And.intro x14 hba)
                    clear x14 hba hD hDl hDat hx
                    generalize V.alloc (.cells #[.int .i64 ep, .int .i64 ((kk : Int) + 1), .int .i64 th, .int .i64 mn, .slice none 0 0] 36) = V1 at *
                    obtain ⟨b14, hb14⟩ : ∃ b14, V.heap.size = b14 := ⟨_, rfl⟩
                    rw [hb14] at KV ⊢
                    have HB14 := Lib.hid hb14
                    clear hb14
                    go_wp2_with fail
                    go_loopw [15] (fun i wr => ∃ (j : Nat) (A9 : Option Addr) (c9 : Nat), j ≤ n ∧ i = .int .i64 (j : Nat) ∧ Box wr b14 #[.int .i64 ep, .int .i64 ((kk : Int) + 1), .int .i64 th, .int .i64 mn, .slice A9 j c9] 36 ∧ wr.ownsRow b14 5 1 (.slice A9 j c9) j ((D.take j).map bv) ∧ Below b14 V wr) (fun i _ => n - (intOf i).toNat)
                    case atStart => exact ⟨0, none, 0, Nat.zero_le _, rfl, KV.out.1, World.ownsRow_nil _ _ _ _, KV.out.2⟩
                    case round =>
                      obtain ⟨j, A9, c9, hj, rfl, y14, ho9, hbv⟩ := hrel
                      have KS := Lib.hid (And.intro y14 (And.intro ho9 hbv))
                      clear y14 ho9 hbv
                      by_cases hlj : j < n
                      · have hbV : Below W.heap.size W wr := KR.out.2.trans ((by have h1 := KS.out.2.2; rw [← HB14.out] at h1; exact h1.mono KR.out.2.size))
                        obtain ⟨y, hy⟩ : ∃ y, s[j]? = some y := ⟨_, List.getElem?_eq_getElem (by rw [HL.out.1]; exact hlj)⟩
                        obtain ⟨bs, os, rfl, hbs, hcs⟩ := (HS.out.1.up hbV).1 (by rw [HL.out.1]; omega)
                        have k0 : wr.cell? ⟨bs, os + j, none⟩ = some (.int .u8 (y.toNat : Int)) := hcs j y hy
                        have hyd : s.getD j 0 = y := by rw [List.getD_eq_getElem?_getD, hy]; rfl
                        have hmt : m = t := by have := HZ.out.2.2.2.2.2; rw [HL.out.2] at this; exact this
                        have hle := Nat.mul_le_mul_right each (show j + 1 ≤ n by omega)
                        have hnt : n * each = t := by have := HT.out.1; rw [HL.out.1] at this; exact this
                        have hne := Nat.mul_le_mul hn64 he8
                        obtain ⟨f, hf⟩ : ∃ f, j * each = f := ⟨_, rfl⟩
                        obtain ⟨j1, hj1⟩ : ∃ j1, j + 1 = j1 := ⟨_, rfl⟩
                        obtain ⟨g, hg⟩ : ∃ g, j1 * each = g := ⟨_, rfl⟩
                        have hfg : f + each = g := by rw [← hg, ← hj1, Nat.add_mul, hf]; omega
                        rw [hj1, hg, hnt] at hle
                        have w3 : IntKind.i64.wrap ((j : Int) + 1) = (j1 : Int) := by rw [IntKind.wrap_i64]; omega
                        have w4 : IntKind.i64.wrap ((j : Int) * (each : Int)) = (f : Int) := by rw [← Int.natCast_mul, hf, IntKind.wrap_i64]; omega
                        have w5 : IntKind.i64.wrap ((j1 : Int) * (each : Int)) = (g : Int) := by rw [← Int.natCast_mul, hg, IntKind.wrap_i64]; omega
                        have hpc : pcf s coins each j = y :: (coins.drop f).take (g - f) := by
                          unfold pcf
                          rw [hyd, hf, show g - f = each by omega]
                        have hcc := HS.out.2.2.1
                        rw [HL.out.2] at hcc
                        have l1 : (0 : Int) ≤ (f : Int) := by omega
                        have l2 : (f : Int) ≤ (g : Int) := by omega
                        have l3 : (g : Int) ≤ (c2 : Int) := by omega
                        have i1 : (0 : Int) ≤ (j : Int) := by omega
                        have i2 : (j : Int) < (n : Int) := by omega
                        have hll : ((coins.drop f).take (g - f)).length = g - f := by
                          rw [List.length_take, List.length_drop, HL.out.2]
                          omega
                        have hown : ((wr.alloc (.cells #[.int .u8 (y.toNat : Int)] 5)).drew).ownsRow wr.heap.size 5 1 (.slice (some ⟨wr.heap.size, 0, none⟩) 1 1) 1 [.int .u8 (y.toNat : Int)] :=
                          World.ownsRow_lit (base := wr.heap.size) (e := 5) (size := 1) wr #[.int .u8 (y.toNat : Int)] 1 (by omega) (by unfold maxLen; omega) rfl
                        have hb3 : Below wr.heap.size wr ((wr.alloc (.cells #[.int .u8 (y.toNat : Int)] 5)).drew) := ((Below.refl wr.heap.size wr).alloc (Nat.le_refl _) _).drew
                        have hsl : Sl ((wr.alloc (.cells #[.int .u8 (y.toNat : Int)] 5)).drew) (if c2 = f then A2 else A2.map (fun x => x.add f)) ((coins.drop f).take (g - f)) (c2 - f) :=
                          ((HS.out.2.up hbV).up hb3).cut2 f g (by omega) (by rw [HL.out.2]; omega)
                        have hk0 : ∀ W', Below wr.heap.size wr W' → W'.cell? ⟨bs, os + j, none⟩ = some (.int .u8 (y.toNat : Int)) := fun W' hb => (hb.cell (p := ⟨bs, os + j, none⟩) hbs).trans k0
                        have HK0 := Lib.hid hk0
                        have HW := Lib.hid (And.intro hown (And.intro hb3 (And.intro hsl (And.intro hll (And.intro hpc (And.intro hbV (show g - f = each by omega)))))))
                        have hgf : 1 + (g - f) ≤ 1000 := by omega
                        obtain ⟨yn, hyn⟩ : ∃ yn, y.toNat = yn := ⟨_, rfl⟩
                        rw [hyn] at HW HK0 k0
                        have HYN := Lib.hid hyn
                        clear hown hb3 hsl hll hpc hcs hy hyd hmt hle hnt hne hf hj1 hg hfg hcc hk0 hyn hbs hbV
                        go_upto_region 17 with fail
                        go_region_held3 (fun w' => w'.cell? ⟨bs, os + j, none⟩ = some (.int .u8 (yn : Int)))
                          (with_reducible first | exact HK0.out _ (Below.refl wr.heap.size wr).drew | exact HK0.out _ HW.out.2.1 | exact HK0.out _ H9.out.2 | go_keep)
                          (first
                            | (refine step_append_sl (by rfl) (.tmp 65) (.tmp 76) (by rfl) _ 1 _ (by rfl) HW.out.1 _ _ (g - f) (c2 - f) HW.out.2.2.2.1 (by rfl) HW.out.2.2.1 (1 + (g - f)) rfl (by omega) HW.out.2.1.size ?_; intro A10 c10 w10 ho10 hg10; have hb10 := HW.out.2.1.grown hg10 HW.out.2.1.size (fun i hi => (HW.out.1.lt i hi).1); have H9 := Lib.hid (And.intro ho10 hb10); clear ho10 hg10 hb10)
                            | fail)
                        have hP : Sl w10 A10 (pcf s coins each j) c10 := by
                          have h := H9.out.1
                          rw [← HYN.out] at h
                          rw [HW.out.2.2.2.2.1]
                          exact Sl.of_own' (l := y :: (coins.drop f).take (g - f)) h (by rw [List.length_cons, HW.out.2.2.2.1]; omega)
                        have hPl : (pcf s coins each j).length = 1 + (g - f) := by rw [HW.out.2.2.2.2.1, List.length_cons, HW.out.2.2.2.1]; omega
                        have hdat := HDD.out.2.2.1 j hlj
                        obtain ⟨z, hz⟩ : ∃ z, hv (pcf s coins each j) x = z := ⟨_, rfl⟩
                        rw [hz] at hdat
                        obtain ⟨zn, hzn⟩ : ∃ zn, z.toNat = zn := ⟨_, rfl⟩
                        have hbx : bv x = .int .u8 ((kk : Int) + 1) := by rw [← HDD.out.2.2.2]; exact bv_of (kk + 1) (by omega)
                        have w6 : IntKind.u8.wrap ((kk : Int) + 1) = (kk : Int) + 1 := by rw [IntKind.wrap_u8]; omega
                        have HEV : Hid (Calls Tryd.prog 57 #[.slice A10 (1 + (g - f)) c10, .int .u8 ((kk : Int) + 1)] w10.drew fun e w' => e = .returned (.int .u8 (zn : Int)) ∧ w10.drew = w') := by
                          have h := reval_any A10 c10 (pcf s coins each j) x w10.drew (hP.up (Below.refl w10.heap.size w10).drew) (by rw [hPl]; omega)
                          rw [hPl, hbx, hz] at h
                          unfold bv at h
                          rw [hzn] at h
                          exact h
                        have htk : D.take (j + 1) = D.take j ++ [z] := by rw [List.take_add_one, hdat]; rfl
                        have hlit : (([z].map bv).toArray : Array Value) = #[.int .u8 (zn : Int)] := by
                          rw [← hzn]
                          rfl
                        have HTK := Lib.hid (And.intro htk hlit)
                        have hlt14 := KS.out.1.lt
                        have KT0 := Lib.hid (And.intro (KS.out.1.below H9.out.2) (And.intro (own_below KS.out.2.1 H9.out.2) (KS.out.2.2.trans (H9.out.2.mono (by omega)))))
                        clear hP hPl hdat hz hzn hbx htk hlit k0 KS HW HK0 w3 w4 w5 hlt14 H9
                        generalize w10 = wr at *
                        have HD1 := Lib.hid (fun W' (hb : Below wr.heap.size wr W') => show (fun w' => w'.cell? ⟨b14, 4, none⟩ = some (.slice A9 j c9)) W' from (KT0.out.1.below hb).cell 4)
                        have HDV := Lib.hid (HD1.out wr.drew (Below.refl wr.heap.size wr).drew)
                        have hbase : b14 ≤ (wr.alloc (.cells #[.int .u8 (zn : Int)] 5)).drew.heap.size := by
                          have h1 := KT0.out.1.lt
                          show b14 ≤ (wr.alloc _).heap.size
                          rw [World.size_alloc]
                          omega
                        have hba := (Below.refl wr.heap.size wr).alloc (Nat.le_refl _) (.cells #[.int .u8 (zn : Int)] 5)
                        have HBA := Lib.hid hba.drew
                        have HSZ := Lib.hid (show Sl (wr.alloc (.cells #[.int .u8 (zn : Int)] 5)).drew (some ⟨wr.heap.size, 0, none⟩) [z] 1 from sl_lit wr [z] 1 rfl (by omega) #[.int .u8 (zn : Int)] HTK.out.2)
                        clear hba
                        go_upto_region 18 with fail
                        refine wp_region_later 9 (fun w' => w'.cell? ⟨b14, 4, none⟩ = some (.slice A9 j c9)) (by kernel_rfl) ?_
                        refine takeL (d := some 78) (i := 0) (v := ?v0) rfl rfl (by kernel_rfl) (by kernel_rfl) (by kernel_rfl) (fun _ _ _ h => h) rfl (by kernel_rfl) (Or.inl ⟨by rfl, ?y0⟩) HDV.out ?r0
                        case y0 =>
                          intro w hSw
                          try dsimp only at hSw
                          go_simp
                          all_goals with_reducible rfl
                        try simp only [Act.put, List.setIfInBounds_toArray, List.set_cons_zero, List.set_cons_succ]
                        refine takeL (d := some 79) (i := 1) (v := ?v1) rfl rfl (by kernel_rfl) (by kernel_rfl) (by kernel_rfl) (fun _ _ _ h => h) rfl (by kernel_rfl) (Or.inl ⟨by rfl, ?y1⟩) HDV.out ?r1
                        case y1 =>
                          intro w hSw
                          try dsimp only at hSw
                          go_simp
                          all_goals with_reducible rfl
                        try simp only [Act.put, List.setIfInBounds_toArray, List.set_cons_zero, List.set_cons_succ]
                        refine takeL (d := some 80) (i := 2) (v := ?v2) rfl rfl (by kernel_rfl) (by kernel_rfl) (by kernel_rfl) (fun _ _ _ h => h) rfl (by kernel_rfl) (Or.inl ⟨by rfl, ?y2⟩) HDV.out ?r2
                        case y2 =>
                          intro w hSw
                          try dsimp only at hSw
                          go_simp
                          all_goals with_reducible rfl
                        try simp only [Act.put, List.setIfInBounds_toArray, List.set_cons_zero, List.set_cons_succ]
                        refine takeL (d := some 81) (i := 3) (v := ?v3) rfl rfl (by kernel_rfl) (by kernel_rfl) (by kernel_rfl) (fun _ _ _ h => h) rfl (by kernel_rfl) (Or.inl ⟨by rfl, ?y3⟩) HDV.out ?r3
                        case y3 =>
                          intro w hSw
                          try dsimp only at hSw
                          go_simp
                          all_goals with_reducible rfl
                        try simp only [Act.put, List.setIfInBounds_toArray, List.set_cons_zero, List.set_cons_succ]
                        refine takeL (d := some 82) (i := 4) (v := ?v4) rfl rfl (by kernel_rfl) (by kernel_rfl) (by kernel_rfl) (fun _ _ _ h => h) rfl (by kernel_rfl) (Or.inl ⟨by rfl, ?y4⟩) HDV.out ?r4
                        case y4 =>
                          intro w hSw
                          try dsimp only at hSw
                          go_simp
                          all_goals with_reducible rfl
                        try simp only [Act.put, List.setIfInBounds_toArray, List.set_cons_zero, List.set_cons_succ]
                        refine oneL (i := 5) (by kernel_rfl) rfl (fun K' hK => ?_)
                        go_simp
                        refine HEV.out.mono ?_
                        rintro e w11 ⟨rfl, rfl⟩
                        go_simp
                        refine hK.out _ _ (fun _ => HDV.out) ?_
                        clear hK
                        refine oneL (i := 6) (by kernel_rfl) rfl (fun K' hK => ?_)
                        go_simp
                        refine hK.out _ _ (fun _ => HD1.out _ HBA.out) ?_
                        clear hK
                        refine oneL (i := 7) (by kernel_rfl) rfl (fun K' hK => ?_)
                        refine step_append_sl (base := b14) (by rfl) (.tmp 79) (.tmp 84) (by rfl) (.slice A9 j c9) j _ (by rfl) (own_below KT0.out.2.1 HBA.out) (some ⟨wr.heap.size, 0, none⟩) [z] 1 1 rfl (by rfl) HSZ.out (j + 1) rfl (by omega) hbase ?_
                        intro A11 c11 w11 ho11 hg11
                        have hob := own_below KT0.out.2.1 HBA.out
                        have x11 := (KT0.out.1.below HBA.out).grown hg11 (fun e => box_own (KT0.out.1.below HBA.out) hob (by decide) e.symm)
                        have hb11 : Below b14 V w11 := (KT0.out.2.2.trans (HBA.out.mono (by have := KT0.out.1.lt; omega))).grown hg11 hbase (fun i hi => (hob.lt i hi).1)
                        have f11 := x11.frozen 4
                        have c11' : w11.cell? ⟨b14, 4, none⟩ = some (.slice A9 j c9) := x11.cell 4
                        have K11 := Lib.hid (And.intro x11 (And.intro ho11 hb11))
                        clear ho11 hg11 hob x11 hb11
                        refine hK.out _ _ (fun _ => c11') ?_
                        clear hK
                        refine oneL (i := 8) (by kernel_rfl) rfl (fun K' hK => ?_)
                        go_simp
                        refine hK.out _ _ (fun _ => c11') ?_
                        clear hK
                        refine oneL (i := 9) (by kernel_rfl) rfl (fun K' hK => ?_)
                        go_simp
                        refine hK.out _ _ (fun e => by simp at e) ?_
                        clear hK
                        refine doneL (by kernel_rfl) ?_ _
                        have F1 : Box (w11.setCell ⟨b14, 4, none⟩ (.slice A11 (j + 1) c11)) b14 #[.int .i64 ep, .int .i64 ((kk : Int) + 1), .int .i64 th, .int .i64 mn, .slice A11 (j + 1) c11] 36 := K11.out.1.set (i := 4) (v := .slice A11 (j + 1) c11)
                        have F2 := K11.out.2.1.kept (set_grown_at w11 b14 4 (.slice A11 (j + 1) c11)) (.inr (box_own K11.out.1 K11.out.2.1 (by decide)))
                        rw [← List.map_append, ← HTK.out.1] at F2
                        have F := Lib.hid (And.intro F1 (And.intro F2 (K11.out.2.2.setCell (p := ⟨b14, 4, none⟩) (Nat.le_refl _) (.slice A11 (j + 1) c11))))
                        clear F1 F2 K11 c11' f11 HD1 HDV HBA HSZ HTK KT0 hbase HEV w6
                        generalize World.setCell _ ⟨b14, 4, none⟩ _ = wF at *
                        go_wp2_with fail
                        go_roundw
                        case rel => exact ⟨j + 1, A11, c11, by omega, by go_num, F.out⟩
                        case measure => simp [intOf]; omega
                      · obtain rfl : j = n := by omega
                        have htk : D.take j = D := List.take_of_length_le (by rw [HDD.out.2.1]; exact Nat.le_refl _)
                        have hln : D.length = j := HDD.out.2.1
                        rw [htk] at KS
                        have hsz := HB14.out
                        have hlt9 := KS.out.1.lt
                        have hba := (Below.refl wr.heap.size wr).alloc (Nat.le_refl _) (.cells #[.int .i64 ep, .int .i64 ((kk : Int) + 1), .int .i64 th, .int .i64 mn, .slice A9 j c9] 36)
                        have hbw := KS.out.2.2
                        have hzz : W.heap.size ≤ b14 := by have := KR.out.2.size; omega
                        rw [← hsz] at hbw
                        have hOB := (KR.out.1.up hbw).up hba
                        obtain ⟨u, hu⟩ : ∃ u, psh ep th mn (pols s coins each) kk = u := ⟨_, rfl⟩
                        have hud : u.data = D := by rw [← hu]; exact HDD.out.1
                        have hown : (wr.alloc (.cells #[.int .i64 ep, .int .i64 ((kk : Int) + 1), .int .i64 th, .int .i64 mn, .slice A9 j c9] 36)).ownsRow W.heap.size 5 1 (.slice A9 u.data.length c9) u.data.length (u.data.map bv) := by
                          rw [hud, hln]
                          exact own_base (own_below KS.out.2.1 hba) hzz
                        have hbox : Box (wr.alloc (.cells #[.int .i64 ep, .int .i64 ((kk : Int) + 1), .int .i64 th, .int .i64 mn, .slice A9 j c9] 36)) wr.heap.size #[.int .i64 u.ep, .int .i64 u.ix, .int .i64 u.th, .int .i64 u.mn, .slice A9 u.data.length c9] 36 := by
                          rw [hud, hln, ← hu]
                          exact Box.new _ _ _
                        have hb3 := (KR.out.2.trans (hbw.mono KR.out.2.size)).alloc (Nat.le_trans KR.out.2.size hbw.size) (.cells #[.int .i64 ep, .int .i64 ((kk : Int) + 1), .int .i64 th, .int .i64 mn, .slice A9 j c9] 36)
                        have hlk : (Z.take kk).length = kk := by rw [List.length_take, HZ.out.2.1]; omega
                        have hzk : Z.take (kk + 1) = Z.take kk ++ [u] := by rw [List.take_add_one, HZ.out.2.2.1 kk hlt, hu]; rfl
                        have HO := Lib.hid (And.intro hOB (And.intro hown (And.intro hbox (And.intro hb3 (And.intro hlk hzk)))))
                        have z0 := KS.out.1.cell 0
                        have z1 := KS.out.1.cell 1
                        have z2 := KS.out.1.cell 2
                        have z3 := KS.out.1.cell 3
                        have z4 := KS.out.1.cell 4
                        simp only [List.getElem?_toArray, List.getElem?_cons_zero, List.getElem?_cons_succ] at z0 z1 z2 z3 z4
                        clear htk hln hba hbw hOB hown hbox hb3 hlk hzk KS hsz hu hud
                        go_wp2_with (at_builtin; refine wpList_append_ob (w0 := W) rfl (.tmp 87) (.tmp 89) rfl A' (Z.take kk) kk c' HO.out.2.2.2.2.1 rfl HO.out.1 wr.heap.size u A9 c9 rfl HO.out.2.2.1 HO.out.2.1 (by omega) HO.out.2.2.2.1 ?_; intro A12 c12 w12 ho12 hb12; have H12 := Lib.hid (And.intro ho12 hb12); clear ho12 hb12)
                        go_roundw
                        case rel => exact ⟨kk + 1, A12, c12, by omega, rfl, by go_num, by rw [HO.out.2.2.2.2.2]; exact H12.out.1, H12.out.2⟩
                        case measure => simp [intOf]; omega
                  · obtain rfl : kk = N := by omega
                    have hmn := HMN.out
                    have u1 : decide ((kk : Int) + 1 ≤ mn) = false := decide_eq_false (by omega)
                    have u2 : mn < (kk : Int) + 1 := by omega
                    have u4 : decide (mn < (kk : Int) + 1) = true := decide_eq_true u2
                    have hzt : Z.take kk = Z := List.take_of_length_le (by rw [HZ.out.2.1]; exact Nat.le_refl _)
                    have HR := Lib.hid (HF.out A' c' V (by rw [← hzt]; exact KR.out.1) KR.out.2)
                    clear hzt hmn
                    go_wp2_with fail
                    go_ret2
                    exact HR.out
              · have he : spe s ep th mn coins = 1 := by rw [hsp, if_pos p6]
                have q6 : ((coins.length : Int) != (t : Int)) = true := by simpa using (show ¬ (coins.length : Int) = (t : Int) by omega)
                have hfin : SplitPost s ep th mn coins W (.returned (.tuple #[.slice none 0 0, .int .i64 1])) W := by
                  unfold SplitPost spl
                  rw [he, if_neg (by decide)]
                  exact ⟨none, 0, rfl, SS.nil _, Below.refl _ _⟩
                have HF := Lib.hid hfin
                clear hfin he

                clear hsp ht hth hte hti p6 hS hC
                generalize s.length = n at *
                generalize coins.length = m at *
                go_enter Tryd.func26, Tryd.ntmps26
                go_wp2_with fail
                go_ret2
                exact HF.out


end
section
open Go.RowKit
set_option linter.unusedVariables false
set_option linter.unusedSimpArgs false

theorem oths_next {j : Nat} (hj : 0 < j) (h8 : j ≤ 100) : (oths (j + 1)).map bv = (oths j).map bv ++ [.int .u8 ((8 + j : Nat) : Int)] := by
  unfold oths
  rw [List.range_succ, List.map_append, List.map_append]
  congr 1
  show [bv (othb j)] = _
  unfold othb bv
  rw [if_neg (by omega), UInt8.toNat_ofNat_of_lt' (by simp [UInt8.size]; omega)]
theorem othv_next (y : UInt8) {j : Nat} (hj : 0 < j) : othv y (j + 1) = othv y j ++ [0] := by
  obtain ⟨m, rfl⟩ : ∃ m, j = m + 1 := ⟨j - 1, by omega⟩
  unfold othv
  rw [show m + 1 + 1 - 1 = m + 1 by omega, show m + 1 - 1 = m by omega, List.replicate_succ']
  rfl
theorem flat_next (f : Nat → List UInt8) (k : Nat) : ((List.range (k + 1)).map f).flatten = ((List.range k).map f).flatten ++ f k := by
  rw [List.range_succ, List.map_append, List.flatten_append]
  simp
theorem flat_len {f : Nat → List UInt8} {e : Nat} (h : ∀ k, (f k).length = e) : ∀ k, ((List.range k).map f).flatten.length = k * e
  | 0 => by simp
  | k + 1 => by rw [flat_next, List.length_append, flat_len h k, h k, Nat.succ_mul]

set_option maxHeartbeats 8000000 in
set_option maxRecDepth 100000 in
theorem rexplain_any (A As : Option Addr) (c cs : Nat) (l : List Shr) (s : List UInt8) (w : World) (hS : SS w A l c) (hs : Sl w As s cs) (hl : l.length ≤ 1000) :
    Calls Tryd.prog 7 #[.slice A l.length c, .slice As s.length cs] w (ExPost l s w) := by
  have HC := Lib.hid (rchk_any A c l w hS (by omega))
  have HS := Lib.hid (And.intro hS hs)
  have hsl9 : s.length ≤ 9223372036854775807 := by have := Nat.le_trans hs.2.1 hs.2.2.1; unfold maxLen at this; omega
  clear hS hs
  by_cases q1 : chk l = 0
  case neg =>
    have hje : exe l s = chk l := by unfold exe; rw [if_pos q1]
    have HF := Lib.hid (fun w' hb => ex_fail (w := w) (w' := w') hje q1 hb)
    have f1 : (chk l != 0) = true := by simpa using q1
    unfold ExPost at HF ⊢
    clear hje q1
    generalize chk l = ck at *
    generalize l.length = n at *
    generalize s.length = sl at *
    go_enter Tryd.func7, Tryd.ntmps7
    go_wp2_with fail
    refine HC.out.mono ?_
    rintro e w1 ⟨rfl, hb1⟩
    have HB := Lib.hid hb1
    clear hb1
    go_wp2_with fail
    go_ret2
    exact HF.out _ HB.out
  obtain ⟨ha, ho⟩ := chk_zero q1
  obtain ⟨s0, h0⟩ := alk_pos ha
  obtain ⟨⟨t1, t2, t3⟩, hd, hall⟩ := alk_facts ha h0
  have i0 : 0 < l.length := (List.getElem?_eq_some_iff.1 h0).1
  obtain ⟨b, off, rfl, hb, hat⟩ := HS.out.1.1 i0
  obtain ⟨A0, c0, z0, z1, z2, z3, z4, hs0⟩ := hat 0 s0 h0
  simp only [Nat.zero_mul, Nat.add_zero] at z0 z1 z2 z3 z4
  obtain ⟨t, ht⟩ : ∃ t : Nat, s0.th = (t : Int) := ⟨s0.th.toNat, by omega⟩
  have htn : thn l = t := by unfold thn; rw [h0]; show s0.th.toNat = t; omega
  have hdn : dln l = s0.data.length := by unfold dln; rw [h0]; rfl
  have he0 : exe l s = if t ≤ l.length then 60 else if s.length ≠ s0.data.length then 1 else 0 := by
    unfold exe
    rw [if_neg (fun h => h q1), htn, hdn]
  rw [ht] at z2 t1 t2
  obtain ⟨m, hm⟩ : ∃ m, s0.data.length = m := ⟨_, rfl⟩
  rw [hm] at he0 hdn hd z4
  have HZ := Lib.hid (fun W' (hb1 : Below w.heap.size w W') => And.intro ((hb1.cell (p := ⟨b, off + 2, none⟩) hb).trans z2) ((hb1.cell (p := ⟨b, off + 4, none⟩) hb).trans z4))
  have t8 : t ≤ 8 := by omega
  rw [q1] at HC
  have i1 : (0 : Int) < (l.length : Int) := by omega
  by_cases q2 : t ≤ l.length
  case pos =>
    rw [if_pos q2] at he0
    have HF := Lib.hid (fun w' hb => ex_fail (w := w) (w' := w') he0 (by decide) hb)
    have f1 : decide ((t : Int) ≤ (l.length : Int)) = true := decide_eq_true (by omega)
    have f2 : (t : Int) ≤ (l.length : Int) := by omega
    unfold ExPost at HF ⊢
    clear he0 hall hat ha ho h0 q1 hs0 z0 z1 z2 z3 z4 htn hdn hm
    generalize l.length = n at *
    generalize s.length = sl at *
    go_enter Tryd.func7, Tryd.ntmps7
    go_wp2_with fail
    refine HC.out.mono ?_
    rintro e w1 ⟨rfl, hb1⟩
    obtain ⟨k2, k4⟩ := HZ.out w1 hb1
    have HB := Lib.hid hb1
    clear hb1
    go_wp2_with fail
    go_ret2
    exact HF.out _ HB.out
  rw [if_neg q2] at he0
  have f1 : decide ((t : Int) ≤ (l.length : Int)) = false := decide_eq_false (by omega)
  have f2 : ¬ (t : Int) ≤ (l.length : Int) := by omega
  by_cases q3 : s.length = m
  case neg =>
    rw [if_pos q3] at he0
    have HF := Lib.hid (fun w' hb => ex_fail (w := w) (w' := w') he0 (by decide) hb)
    have f3 : ((s.length : Int) != (m : Int)) = true := by rw [bne_iff_ne]; omega
    have f4 : ¬ (s.length : Int) = (m : Int) := by omega
    unfold ExPost at HF ⊢
    clear he0 hall hat ha ho h0 q1 hs0 z0 z1 z2 z3 z4 htn hdn hm
    generalize l.length = n at *
    generalize s.length = sl at *
    go_enter Tryd.func7, Tryd.ntmps7
    go_wp2_with fail
    refine HC.out.mono ?_
    rintro e w1 ⟨rfl, hb1⟩
    obtain ⟨k2, k4⟩ := HZ.out w1 hb1
    have HB := Lib.hid hb1
    clear hb1
    go_wp2_with fail
    go_ret2
    exact HF.out _ HB.out
  rw [if_neg (fun h => h q3)] at he0
  obtain ⟨q, hq⟩ : ∃ q, l.length + q = t := ⟨t - l.length, by omega⟩
  have hq0 : 0 < q := by omega
  have hex : ex l s = ((List.range m).map (exc l s q)).flatten := by
    unfold ex
    rw [if_pos he0, htn, hdn, show t - l.length = q by omega]
  have hP : ∀ k w1, Below w.heap.size w w1 → k < m → _ := fun k w1 hb1 hk => rpoints_own (some ⟨b, off, none⟩) c l k w1 (HS.out.1.up hb1) hl (fun u hu => by have := (hall u hu).2; omega) (fun u hu => by rw [(hall u hu).1.2.2, hm]; exact hk)
  have hT : ∀ k w1 A1 c1 A2 c2, Sl w1 A1 (idxs l ++ oths q) c1 → Sl w1 A2 (colm l k ++ othv (s.getD k 0) q) c2 → Calls Tryd.prog 22 #[.slice A1 t c1, .slice A2 t c2] w1 fun e w' => ∃ A' c', e = .returned (.tuple #[.slice A' t c', .int .i64 0]) ∧ Sl w' A' (co (idxs l ++ oths q) (colm l k ++ othv (s.getD k 0) q)) c' ∧ Below w1.heap.size w1 w' := fun k w1 A1 c1 A2 c2 h1 h2 => by
    have hx : (idxs l ++ oths q).length = t := by rw [List.length_append, idxs_length, oths_length, hq]
    have hy : (colm l k ++ othv (s.getD k 0) q).length = t := by rw [List.length_append, colm_length, othv_length _ _ hq0, hq]
    have := rcoef_any A1 c1 (idxs l ++ oths q) A2 c2 (colm l k ++ othv (s.getD k 0) q) w1 h1 h2 (by omega) ⟨by omega, places_nodup ha q (by omega)⟩
    rw [hx, hy] at this
    exact this
  have hJl : ∀ k, (exc l s q k).length = t - 1 := fun k => by rw [exc_length ha hq0 (by omega), hq]
  have hcl : ∀ k, (co (idxs l ++ oths q) (colm l k ++ othv (s.getD k 0) q)).length = t := fun k => by
    have hx : (idxs l ++ oths q).length = t := by rw [List.length_append, idxs_length, oths_length, hq]
    rw [co_len ⟨by rw [hx, List.length_append, colm_length, othv_length _ _ hq0, hq], places_nodup ha q (by omega)⟩, hx]
  have HPT := Lib.hid (And.intro hP (And.intro hT (And.intro hJl hcl)))
  have hxl : (ex l s).length = m * (t - 1) := by
    rw [hex]
    exact flat_len hJl m
  have HFL := Lib.hid (fun k => flat_len hJl k)
  have HF := Lib.hid (fun w' A' c' (hs : Sl w' A' (ex l s) c') (hb : Below w.heap.size w w') => (show ExPost l s w (.returned (.tuple #[.slice A' (m * (t - 1)) c', .int .i64 0])) w' from ⟨A', c', by rw [he0, hxl], hs, hb⟩))
  have HX := Lib.hid hex
  have HQ := Lib.hid hq
  have HSL := Lib.hid q3
  have HIC := Lib.hid (fun k => And.intro (idxs_length l) (colm_length l k))
  have f3 : ((m : Int) != (m : Int)) = false := by simp
  rw [q3] at hsl9 ⊢
  clear he0 hall hat ha ho h0 q1 hs0 z0 z1 z2 z3 z4 htn hdn hm hP hT hJl hcl hxl hex hq q3
  generalize l.length = n at *
  obtain ⟨E, hE⟩ : ∃ E, t - 1 = E := ⟨_, rfl⟩
  rw [hE] at HF HFL HPT
  have HE := Lib.hid hE
  clear hE
  go_enter Tryd.func7, Tryd.ntmps7
  go_wp2_with fail
  refine HC.out.mono ?_
  rintro e w1 ⟨rfl, hb1⟩
  obtain ⟨k2, k4⟩ := HZ.out w1 hb1
  have HB := Lib.hid hb1
  clear hb1
  go_upto_region 10 with fail
  clear k2 k4
  go_wp2_with fail
  go_loopw [8, 9] (fun v i wr => ∃ (k : Nat) (A' : Option Addr) (c' : Nat), k ≤ m ∧ v = .slice A' (k * E) c' ∧ i = .int .i64 (k : Nat) ∧ wr.ownsRow w.heap.size 5 1 (.slice A' (k * E) c') (k * E) ((((List.range k).map (exc l s q)).flatten).map bv) ∧ Below w.heap.size w wr) (fun _ i _ => m - (intOf i).toNat)
  case atStart => exact ⟨0, none, 0, Nat.zero_le _, by rw [Nat.zero_mul], rfl, by rw [Nat.zero_mul]; exact World.ownsRow_nil _ _ _ _, HB.out⟩
  case round =>
    obtain ⟨k, A', c', hk, rfl, rfl, ho, hbw⟩ := hrel
    have KR := Lib.hid (And.intro ho hbw)
    clear ho hbw
    by_cases hlk : k < m
    case neg =>
      obtain rfl : k = m := by omega
      have h1 := KR.out.1
      rw [← HX.out] at h1
      have HR := Lib.hid (HF.out wr A' c' (Sl.of_own' h1 (by rw [HX.out]; exact (HFL.out k).symm)) KR.out.2)
      clear h1
      go_wp2_with fail
      go_ret2
      exact HR.out
    obtain ⟨V0, rfl⟩ : ∃ V0, V0 = wr := ⟨_, rfl⟩
    obtain ⟨y, hy⟩ : ∃ y, s[k]? = some y := ⟨_, List.getElem?_eq_getElem (by rw [HSL.out]; exact hlk)⟩
    have hyd : s.getD k 0 = y := by rw [List.getD_eq_getElem?_getD, hy]; rfl
    obtain ⟨bs, os, rfl, hbs, hcs⟩ := HS.out.2.1 (by rw [HSL.out]; omega)
    have HY : Hid (∀ V, Below w.heap.size w V → V.cell? ⟨bs, os + k, none⟩ = some (.int .u8 (y.toNat : Int))) := fun V hV => (hV.cell (p := ⟨bs, os + k, none⟩) hbs).trans (hcs k y hy)
    have HP1 := Lib.hid (HPT.out.1 k V0 KR.out.2 hlk)
    have hT1 := HPT.out.2.1 k
    rw [hyd] at hT1
    have HT1 := Lib.hid hT1
    have hJ : exc l s q k = (co (idxs l ++ oths q) (colm l k ++ othv y q)).drop 1 := by unfold exc; rw [hyd]
    have hcl := HPT.out.2.2.2 k
    rw [hyd] at hcl
    have HJ := Lib.hid (And.intro hJ (And.intro (HPT.out.2.2.1 k) (And.intro hcl (And.intro (flat_next (exc l s q) k) (HFL.out k)))))
    have HXL := Lib.hid (HIC.out k)
    generalize co (idxs l ++ oths q) (colm l k ++ othv y q) = CO at *
    have i3 : (0 : Int) ≤ (k : Int) := by omega
    have i4 : (k : Int) < (m : Int) := by omega
    clear hy hyd hcs hbs hT1 hJ hcl
    generalize idxs l = XS at *
    generalize colm l k = YS at *
    go_wp2_with fail
    refine HP1.out.mono ?_
    rintro e w2 ⟨A1, c1, A2, c2, rfl, ho1, ho2, hap, hb2⟩
    have hb3 := (Below.refl w2.heap.size w2).alloc (Nat.le_refl _) (.cells #[.int .u8 0] 5)
    have H2 := Lib.hid (And.intro ho1 (And.intro ho2 (And.intro hap hb2)))
    have HA1 := Lib.hid (And.intro (own_below ho1 hb3) (And.intro (own_below ho2 hb3) (And.intro (show Box (w2.alloc (.cells #[.int .u8 0] 5)) w2.heap.size #[bv 0] 5 from Box.new w2 _ _) (hb2.trans (hb3.mono hb2.size)))))
    have HWW : Hid (∀ V, Below V0.heap.size V0 V → Below w.heap.size w V) := fun V hV => KR.out.2.trans (hV.mono KR.out.2.size)
    clear ho1 ho2 hap hb2 hb3 HP1
    have hn9 : n ≤ 1000 := hl
    go_wp2_with (first
      | (at_builtin; refine wpList_append_b1 (B := V0.heap.size) rfl (.tmp 48) (.tmp 49) rfl A1 n c1 _ rfl HA1.out.1 w2.heap.size 0 rfl HA1.out.2.2.1 (by omega) HA1.out.2.2.2.size ?_; intro g1 c1' W7 ho7 hg7 hat7; have hb7 := HA1.out.2.2.2.grown hg7 HA1.out.2.2.2.size (fun i hi => (HA1.out.1.lt i hi).1); have hne7 := far1 H2.out.2.1 H2.out.2.2.1 hat7; have H7 := Lib.hid (And.intro ho7 (And.intro (HA1.out.2.1.kept hg7 H2.out.2.2.1) (And.intro hne7 hb7))); have y7 := HY.out W7 (HWW.out W7 hb7); clear ho7 hg7 hat7 hb7 hne7)
      | (at_builtin; refine wpList_append_b1 (B := V0.heap.size) rfl (.tmp 51) (.tmp 56) rfl A2 n c2 _ rfl (own_below H7.out.2.1 ((Below.refl W7.heap.size W7).alloc (Nat.le_refl _) (.cells #[.int .u8 (y.toNat : Int)] 5))) W7.heap.size y rfl (Box.new W7 _ _) (by omega) ((H7.out.2.2.2.alloc H7.out.2.2.2.size (.cells #[.int .u8 (y.toNat : Int)] 5)).size) ?_; intro g2 c2' W9 ho9 hg9 hat9; have H9 := Lib.hid (pts_end (c2' := c2') H7.out.1 H7.out.2.1 H7.out.2.2.1 H7.out.2.2.2 hg9 hat9); have HO9 := Lib.hid ho9; clear ho9 hg9 hat9 y7))
    go_loopw [10, 11, 12] (fun v1 v2 x wv => ∃ (j N1 X1 : Nat) (B1 : Option Addr) (d1 : Nat) (B2 : Option Addr) (d2 : Nat), 0 < j ∧ j ≤ q ∧ N1 = n + j ∧ X1 = 8 + j ∧ v1 = .slice B1 N1 d1 ∧ v2 = .slice B2 N1 d2 ∧ x = .int .u8 (X1 : Int) ∧ wv.ownsRow V0.heap.size 5 1 (.slice B1 N1 d1) N1 (XS.map bv ++ (oths j).map bv) ∧ wv.ownsRow V0.heap.size 5 1 (.slice B2 N1 d2) N1 ((YS ++ othv y j).map bv) ∧ ((Value.slice B2 N1 d2).ownBlock = none ∨ (Value.slice B2 N1 d2).ownBlock ≠ (Value.slice B1 N1 d1).ownBlock) ∧ Below V0.heap.size V0 wv) (fun _ _ x _ => 9 + q - (intOf x).toNat)
    case atStart => exact ⟨1, n + 1, 9, some ⟨g1, 0, none⟩, c1', some ⟨g2, 0, none⟩, c2', Nat.zero_lt_one, by omega, rfl, rfl, rfl, rfl, rfl, H9.out.1, by rw [List.map_append]; exact HO9.out, H9.out.2.1, H9.out.2.2⟩
    case round =>
      obtain ⟨j, N1, X1, B1, d1, B2, d2, hj0, hjq, hN1, hX1, rfl, rfl, rfl, ho1, ho2, hap, hb⟩ := hrel
      have KS := Lib.hid (And.intro ho1 (And.intro ho2 (And.intro hap hb)))
      clear ho1 ho2 hap hb
      have hnq := HQ.out
      by_cases hlt : N1 < t
      case pos =>
        have hd1 : decide ((N1 : Int) < (t : Int)) = true := decide_eq_true (by omega)
        have hX8 : X1 ≤ 100 := by omega
        have wx : IntKind.u8.wrap ((X1 : Int) + 1) = ((X1 + 1 : Nat) : Int) := by rw [IntKind.wrap_u8]; omega
        obtain ⟨xb, hxb⟩ : ∃ xb, UInt8.ofNat X1 = xb := ⟨_, rfl⟩
        have hbx : bv xb = .int .u8 (X1 : Int) := by rw [← hxb]; unfold bv; rw [UInt8.toNat_ofNat_of_lt' (by simp [UInt8.size]; omega)]
        have hbb : Box (wr.alloc (.cells #[.int .u8 (X1 : Int)] 5)) wr.heap.size #[bv xb] 5 := by rw [hbx]; exact Box.new wr _ _
        have hon := oths_next hj0 (show j ≤ 100 by omega)
        rw [← hX1, ← hbx] at hon
        have hvn := othv_next y hj0
        have HON := Lib.hid (And.intro hon hvn)
        have hb1 := (Below.refl wr.heap.size wr).alloc (Nat.le_refl _) (.cells #[.int .u8 (X1 : Int)] 5)
        have HB1 := Lib.hid (And.intro (own_below KS.out.1 hb1) (And.intro (own_below KS.out.2.1 hb1) (And.intro hbb (KS.out.2.2.2.trans (hb1.mono KS.out.2.2.2.size)))))
        have hN9 : N1 ≤ 100000 := by omega
        have HNX := Lib.hid (And.intro hN1 (And.intro hX1 hnq))
        clear hon hvn hb1 hbb hbx hxb hnq hN1 hX1
        go_wp2_with (first
          | (at_builtin; refine wpList_append_b1 (B := V0.heap.size) rfl (.tmp 64) (.tmp 66) rfl B1 N1 d1 _ rfl HB1.out.1 wr.heap.size xb rfl HB1.out.2.2.1 hN9 HB1.out.2.2.2.size ?_; intro g5 d5 W7 ho7 hg7 hat7; have hb7 := HB1.out.2.2.2.grown hg7 HB1.out.2.2.2.size (fun i hi => (HB1.out.1.lt i hi).1); have hne7 := far1 KS.out.2.1 KS.out.2.2.1 hat7; have H7 := Lib.hid (And.intro ho7 (And.intro (HB1.out.2.1.kept hg7 KS.out.2.2.1) (And.intro hne7 hb7))); clear ho7 hg7 hat7 hb7 hne7)
          | (at_builtin; refine wpList_append_b1 (B := V0.heap.size) rfl (.tmp 68) (.tmp 69) rfl B2 N1 d2 _ rfl (own_below H7.out.2.1 ((Below.refl W7.heap.size W7).alloc (Nat.le_refl _) (.cells #[.int .u8 0] 5))) W7.heap.size 0 rfl (Box.new W7 _ _) hN9 ((H7.out.2.2.2.alloc H7.out.2.2.2.size (.cells #[.int .u8 0] 5)).size) ?_; intro g6 d6 W8 ho8 hg8 hat8; have H8 := Lib.hid (pts_end (c2' := d6) H7.out.1 H7.out.2.1 H7.out.2.2.1 H7.out.2.2.2 hg8 hat8); have HO8 := Lib.hid ho8; clear ho8 hg8 hat8))
        go_roundw
        case rel => exact ⟨j + 1, N1 + 1, X1 + 1, some ⟨g5, 0, none⟩, d5, some ⟨g6, 0, none⟩, d6, by omega, by have := HNX.out; omega, by have := HNX.out; omega, by have := HNX.out; omega, rfl, rfl, by go_num, by rw [HON.out.1, ← List.append_assoc]; exact H8.out.1, by rw [HON.out.2, ← List.append_assoc, List.map_append]; exact HO8.out, H8.out.2.1, H8.out.2.2⟩
        case measure => have := HNX.out; simp [intOf]; omega
      case neg =>
      have hd1 : decide ((N1 : Int) < (t : Int)) = false := decide_eq_false (by omega)
      obtain rfl : j = q := by omega
      obtain rfl : N1 = t := by omega
      have h1 := KS.out.1
      rw [← List.map_append] at h1
      have HCF := Lib.hid (HT1.out wr B1 d1 B2 d2 (Sl.of_own' h1 (by rw [List.length_append, HXL.out.1, oths_length]; exact hN1)) (Sl.of_own' KS.out.2.1 (by rw [List.length_append, HXL.out.2, othv_length _ _ hj0]; exact hN1)))
      have HBV := Lib.hid (HWW.out wr KS.out.2.2.2)
      have HOC := Lib.hid (own_below KR.out.1 KS.out.2.2.2)
      have HN1 := Lib.hid (And.intro hN1 hj0)
      clear h1 hlt hnq hN1 hX1
      go_wp2_with fail
      refine HCF.out.mono ?_
      rintro e w5 ⟨A5, c5, rfl, hs5, hb5⟩
      have H5 := Lib.hid (And.intro trivial (And.intro (HBV.out.trans (hb5.mono HBV.out.size)) (own_below HOC.out hb5)))
      have hc5 := hs5.2.1
      rw [HJ.out.2.2.1] at hc5
      have hcut := hs5.cut2 1 N1 (by omega) (by rw [HJ.out.2.2.1]; exact Nat.le_refl _)
      rw [List.take_of_length_le (by rw [List.length_drop, HJ.out.2.2.1]; exact Nat.le_refl _), ← HJ.out.1] at hcut
      obtain ⟨b5, o5, rfl, _, _⟩ := hs5.1 (by rw [HJ.out.2.2.1]; have := HN1.out; omega)
      rw [if_neg (by have := HN1.out; omega)] at hcut
      have hcut : Sl w5 (some ⟨b5, o5 + 1, none⟩) (exc l s j k) (c5 - 1) := hcut
      have HCUT := Lib.hid hcut
      have hNE : N1 - 1 = E := HE.out
      have hke : k * E ≤ 64 * 8 := Nat.mul_le_mul (by omega) (by omega)
      have hbd : k * E + (N1 - 1) ≤ 1000000 := by omega
      have HBD := Lib.hid (And.intro hbd hNE)
      clear hs5 hb5 hcut hNE hke hbd
      go_wp2_with (at_builtin; go_must (refine wpList_append_sl rfl (.tmp 77) (.tmp 79) rfl _ (k * E) _ rfl H5.out.2.2 (some ⟨b5, o5 + 1, none⟩) (exc l s j k) (N1 - 1) (c5 - 1) (by rw [HJ.out.2.1, HBD.out.2]) rfl HCUT.out HBD.out.1 H5.out.2.1.size ?_); intro A6 c6 w6 ho6 hg6; have hb6 := H5.out.2.1.grown hg6 H5.out.2.1.size (fun i hi => (H5.out.2.2.lt i hi).1); have H6 := Lib.hid (And.intro ho6 hb6); clear ho6 hg6 hb6)
      go_roundw
      case rel =>
        have hz : k * E + (N1 - 1) = (k + 1) * E := by rw [HBD.out.2, Nat.succ_mul]
        exact ⟨k + 1, A6, c6, by omega, by rw [hz], by go_num, by have h := H6.out.1; rw [hz] at h; rw [HJ.out.2.2.2.1, List.map_append]; exact h, H6.out.2⟩
      case measure => simp [intOf]; omega

end
section
set_option linter.unusedVariables false

theorem ix_low {o : Shr} : ∀ {l : List Shr} {b : Int}, alkFrom o b l = true → ∀ (i : Nat) (s : Shr), l[i]? = some s → b + 1 + (i : Int) ≤ s.ix
  | [], b, h, i, s, hi => by cases hi
  | a :: r, b, h, 0, s, hi => by
    simp only [alkFrom, Bool.and_eq_true, decide_eq_true_eq] at h
    simp at hi
    subst hi
    omega
  | a :: r, b, h, i + 1, s, hi => by
    simp only [alkFrom, Bool.and_eq_true, decide_eq_true_eq] at h
    have := ix_low h.2 i s (by simpa using hi)
    omega
theorem ix_high {o : Shr} : ∀ {l : List Shr} {b : Int}, alkFrom o b l = true → ∀ (i : Nat) (s : Shr), l[i]? = some s → s.ix + (l.length : Int) ≤ o.mn + 1 + (i : Int)
  | [], b, h, i, s, hi => by cases hi
  | [a], b, h, 0, s, hi => by
    simp only [alkFrom, same1, Bool.and_eq_true, decide_eq_true_eq] at h
    simp at hi
    subst hi
    simp
    omega
  | a :: c :: r, b, h, 0, s, hi => by
    simp only [alkFrom, Bool.and_eq_true, decide_eq_true_eq] at h
    simp at hi
    subst hi
    have h2 : alkFrom o a.ix (c :: r) = true := by simp only [alkFrom, Bool.and_eq_true, decide_eq_true_eq]; exact h.2
    have := ix_high h2 0 c rfl
    simp only [List.length_cons] at this ⊢
    omega
  | a :: r, b, h, i + 1, s, hi => by
    simp only [alkFrom, Bool.and_eq_true, decide_eq_true_eq] at h
    have := ix_high h.2 i s (by simpa using hi)
    simp only [List.length_cons]
    omega
/-- A share of Refresh. -/
def rsr (z s : Shr) : Shr := ⟨s.ep + 1, s.ix, s.th, s.mn, sumb s.data z.data⟩
theorem sumb_comm {a b : List UInt8} (h : a.length = b.length) : sumb a b = sumb b a := by
  unfold sumb
  rw [h]
  refine List.map_congr_left fun k _ => ?_
  rw [UInt8.xor_comm]
theorem rfe_head {l : List Shr} {s0 : Shr} (h0 : l[0]? = some s0) (coins : List UInt8) : rfe l coins = if chk l ≠ 0 then chk l else if (l.length : Int) ≠ s0.mn then 60 else spe (zer l) (s0.ep + 1) s0.th s0.mn coins := by
  cases l with
  | nil => cases h0
  | cons a r => simp at h0; subst h0; rfl
theorem rfl_head {l : List Shr} {s0 : Shr} (h0 : l[0]? = some s0) (coins : List UInt8) : rfl' l coins = if rfe l coins = 0 then (List.range l.length).map fun i => rsh (((spl (zer l) (s0.ep + 1) s0.th s0.mn coins)[i]?).getD s0) ((l[i]?).getD s0) else [] := by
  cases l with
  | nil => cases h0
  | cons a r => simp at h0; subst h0; rfl
theorem zer_head {l : List Shr} {s0 : Shr} (h0 : l[0]? = some s0) : zer l = List.replicate s0.data.length 0 := by unfold zer; rw [h0]; rfl
theorem one_facts {l : List Shr} {s0 : Shr} (h : onee l = true) (h0 : l[0]? = some s0) : (0 ≤ s0.ep ∧ s0.ep ≤ 1048576) ∧ ∀ s ∈ l, s.ep = s0.ep := by
  cases l with
  | nil => cases h0
  | cons a r =>
    simp at h0
    subst h0
    unfold onee at h
    rw [Bool.and_eq_true, decide_eq_true_eq] at h
    exact ⟨h.2, fun s hs => by have := List.all_eq_true.1 h.1 s hs; simpa using this⟩
/-- The error, step by step. -/
theorem rfe_steps {l : List Shr} {s0 : Shr} (h0 : l[0]? = some s0) (q1 : chk l = 0) (coins : List UInt8) :
    rfe l coins = if (l.length : Int) ≠ s0.mn then 60 else if s0.ep = 1048576 then 61 else spe (List.replicate s0.data.length 0) 0 s0.th s0.mn coins := by
  obtain ⟨ha, ho⟩ := chk_zero q1
  have hf := alk_facts ha h0
  have hep := (one_facts ho h0).1
  rw [rfe_head h0, if_neg (fun h => h q1), zer_head h0]
  have hL : spe (List.replicate s0.data.length 0) (s0.ep + 1) s0.th s0.mn coins = if s0.ep = 1048576 then 61 else spe (List.replicate s0.data.length 0) 0 s0.th s0.mn coins := by
    by_cases h2 : s0.ep = 1048576
    · rw [if_pos h2]
      unfold spe
      rw [List.length_replicate, if_neg (by omega), if_neg (by omega), if_pos (by omega)]
    · rw [if_neg h2]
      unfold spe
      rw [List.length_replicate, if_neg (by omega), if_neg (show ¬¬ (1 ≤ s0.th ∧ s0.th ≤ s0.mn ∧ s0.mn ≤ 8) by omega), if_neg (show ¬¬ (0 ≤ s0.ep + 1 ∧ s0.ep + 1 ≤ 1048576) by omega), if_neg (show ¬¬ ((0 : Int) ≤ 0 ∧ (0 : Int) ≤ 1048576) by decide)]
      rw [if_neg (show ¬ 64 < s0.data.length by omega), if_neg (show ¬¬ (1 ≤ s0.th ∧ s0.th ≤ s0.mn ∧ s0.mn ≤ 8) by omega)]
  by_cases h1 : (l.length : Int) = s0.mn
  · rw [if_neg (fun h => h h1), if_neg (fun h => h h1), hL]
  · rw [if_pos h1, if_pos h1]
/-- .. and the shares. -/
theorem rfl_at {l : List Shr} {s0 : Shr} (h0 : l[0]? = some s0) (q1 : chk l = 0) {coins : List UInt8} (he : rfe l coins = 0) {N : Nat} (hN : (l.length : Int) = s0.mn) (hNN : l.length = N) :
    spe (List.replicate s0.data.length 0) 0 s0.th s0.mn coins = 0 ∧ (spl (List.replicate s0.data.length 0) 0 s0.th s0.mn coins).length = N ∧ (rfl' l coins).length = N ∧
      ∀ (i : Nat) (s : Shr), l[i]? = some s → ∃ z, (spl (List.replicate s0.data.length 0) 0 s0.th s0.mn coins)[i]? = some z ∧ z.data.length = s0.data.length ∧ (rfl' l coins)[i]? = some (rsr z s) := by
  obtain ⟨ha, ho⟩ := chk_zero q1
  have hf := alk_facts ha h0
  have hep := one_facts ho h0
  have hs := rfe_steps h0 q1 coins
  rw [he, if_neg (fun h => h hN)] at hs
  by_cases h2 : s0.ep = 1048576
  · rw [if_pos h2] at hs
    omega
  rw [if_neg h2] at hs
  have hz := hs.symm
  have hh := rfe_head h0 coins
  rw [he, if_neg (fun h => h q1), if_neg (fun h => h hN), zer_head h0] at hh
  have hy := hh.symm
  have hmn : s0.mn.toNat = N := by omega
  have hr : rfl' l coins = (List.range l.length).map fun i => rsh (((spl (List.replicate s0.data.length 0) (s0.ep + 1) s0.th s0.mn coins)[i]?).getD s0) ((l[i]?).getD s0) := by
    rw [rfl_head h0, if_pos he, zer_head h0]
  refine ⟨hz, by rw [spl_length hz, hmn], by rw [hr, List.length_map, List.length_range, hNN], fun i s hi => ?_⟩
  have hiN : i < N := by rw [← hNN]; exact (List.getElem?_eq_some_iff.1 hi).1
  have hm := List.mem_of_getElem? hi
  refine ⟨_, spl_at hz (by omega), by rw [psh_len, List.length_replicate], ?_⟩
  rw [hr, List.getElem?_map, List.getElem?_range (by omega), Option.map_some, spl_at hy (by omega), hi]
  congr 1
  show rsh (psh (s0.ep + 1) s0.th s0.mn (pols (List.replicate s0.data.length 0) coins (s0.th.toNat - 1)) i) s = rsr (psh 0 s0.th s0.mn (pols (List.replicate s0.data.length 0) coins (s0.th.toNat - 1)) i) s
  have h1 := ix_low (by rw [alk_cons h0] at ha; simp only [Bool.and_eq_true] at ha; exact ha.2) i s hi
  have h3 := ix_high (by rw [alk_cons h0] at ha; simp only [Bool.and_eq_true] at ha; exact ha.2) i s hi
  have h4 := hf.2.2 s hm
  have h5 := hep.2 s hm
  have hix : s.ix = ((i + 1 : Nat) : Int) := by omega
  have hdl : (psh (s0.ep + 1) s0.th s0.mn (pols (List.replicate s0.data.length 0) coins (s0.th.toNat - 1)) i).data.length = s.data.length := by rw [psh_len, List.length_replicate, h4.1.2.2]
  unfold rsh rsr
  rw [sumb_comm hdl]
  show (⟨s0.ep + 1, ((i + 1 : Nat) : Int), s0.th, s0.mn, _⟩ : Shr) = _
  rw [h5, ← hix, h4.1.1, h4.1.2.1]
  rfl

end
section
open Go.RowKit
set_option linter.unusedVariables false
set_option linter.unusedSimpArgs false

set_option maxHeartbeats 8000000 in
set_option maxRecDepth 100000 in
theorem rrefresh_any (A Ac : Option Addr) (c cc : Nat) (l : List Shr) (coins : List UInt8) (w : World) (hS : SS w A l c) (hs : Sl w Ac coins cc) (hl : l.length ≤ 1000000) :
    Calls Tryd.prog 9 #[.slice A l.length c, .slice Ac coins.length cc] w (RfPost l coins w) := by
  have HC := Lib.hid (rchk_any A c l w hS hl)
  have HS := Lib.hid (And.intro hS hs)
  clear hS hs
  by_cases q1 : chk l = 0
  case neg =>
    have he : rfe l coins = chk l ∨ l = [] := by
      cases l with
      | nil => exact .inr rfl
      | cons a r => exact .inl (by unfold rfe; simp only; rw [if_pos q1])
    have he : rfe l coins = chk l := by
      rcases he with h | h
      · exact h
      · subst h; rfl
    have HF := Lib.hid (fun w' hb => rf_fail (w := w) (w' := w') he q1 hb)
    have f1 : (chk l != 0) = true := by simpa using q1
    unfold RfPost at HF ⊢
    clear he q1
    generalize chk l = ck at *
    generalize l.length = n at *
    generalize coins.length = cn at *
    go_enter Tryd.func9, Tryd.ntmps9
    go_wp2_with fail
    refine HC.out.mono ?_
    rintro e w1 ⟨rfl, hb1⟩
    have HB := Lib.hid hb1
    clear hb1
    go_wp2_with fail
    go_ret2
    exact HF.out _ HB.out
  obtain ⟨ha, ho⟩ := chk_zero q1
  obtain ⟨s0, h0⟩ := alk_pos ha
  obtain ⟨⟨t1, t2, t3⟩, hd, hall⟩ := alk_facts ha h0
  have i0 : 0 < l.length := (List.getElem?_eq_some_iff.1 h0).1
  obtain ⟨b, off, rfl, hb, hat⟩ := HS.out.1.1 i0
  have HAT := Lib.hid (fun V (h : Below w.heap.size w V) => (hat 0 s0 h0).up hb h)
  have hep := (one_facts ho h0).1
  have hst := rfe_steps h0 q1 coins
  have hra := fun (he : rfe l coins = 0) (hN : (l.length : Int) = s0.mn) => rfl_at h0 q1 he hN rfl
  have hall2 := (one_facts ho h0).2
  rw [q1] at HC
  have i1 : (0 : Int) < (l.length : Int) := by omega
  obtain ⟨m, hm⟩ : ∃ m, s0.data.length = m := ⟨_, rfl⟩
  have HALL := Lib.hid (And.intro (fun u hu => And.intro ((hall u hu).1.2.2.trans hm) (hall2 u hu)) hat)
  unfold ShAt at HAT
  rw [hm] at HAT hst hra hd
  obtain ⟨ep, ix, th, mn, D0⟩ := s0
  simp only at *
  have HRA := Lib.hid hra
  have HBL := Lib.hid hb
  clear hat hall hall2 ha ho h0 hm q1 hra hb
  obtain ⟨n, hn⟩ : ∃ n, l.length = n := ⟨_, rfl⟩
  have HN := Lib.hid hn
  rw [hn] at hl HC i0 i1 hst HRA ⊢
  have hcn9 : coins.length ≤ 9223372036854775807 := by have := Nat.le_trans HS.out.2.2.1 HS.out.2.2.2.1; unfold maxLen at this; omega
  clear hn
  by_cases q2 : (n : Int) = mn
  case neg =>
    rw [if_pos q2] at hst
    have HF := Lib.hid (fun w' hb => rf_fail (w := w) (w' := w') hst (by decide) hb)
    unfold RfPost at HF ⊢
    have f1 : ((n : Int) != mn) = true := by rw [bne_iff_ne]; exact q2
    clear hst
    generalize coins.length = cn at *
    go_enter Tryd.func9, Tryd.ntmps9
    go_wp2_with fail
    refine HC.out.mono ?_
    rintro e w1 ⟨rfl, hb1⟩
    obtain ⟨D, cD, k0, k1, k2, k3, k4, hs1⟩ := HAT.out w1 hb1
    simp only [Nat.zero_mul, Nat.add_zero] at k0 k1 k2 k3 k4
    have hY2 := Box.new w1 #[.int .i64 ep, .int .i64 ix, .int .i64 th, .int .i64 mn, .slice D m cD] 36
    have hb2 : Below w1.heap.size w1 (w1.alloc (.cells #[.int .i64 ep, .int .i64 ix, .int .i64 th, .int .i64 mn, .slice D m cD] 36)) := (Below.refl _ w1).alloc (Nat.le_refl _) _
    have H2 := Lib.hid (And.intro hY2 (hb1.trans (hb2.mono hb1.size)))
    have y3 : (w1.alloc (.cells #[.int .i64 ep, .int .i64 ix, .int .i64 th, .int .i64 mn, .slice D m cD] 36)).cell? ⟨w1.heap.size, 3, none⟩ = some (.int .i64 mn) := H2.out.1.cell 3
    have y0 : (w1.alloc (.cells #[.int .i64 ep, .int .i64 ix, .int .i64 th, .int .i64 mn, .slice D m cD] 36)).cell? ⟨w1.heap.size, 0, none⟩ = some (.int .i64 ep) := H2.out.1.cell 0
    have HSZ0 := Lib.hid hb1.size
    clear hb1 hY2 hb2 hs1
    go_wp2_with fail
    go_ret2
    exact HF.out _ H2.out.2
  rw [if_neg (fun h => h q2)] at hst
  have f1 : ((n : Int) != mn) = false := by rw [bne_eq_false_iff_eq]; exact q2
  by_cases q3 : ep = 1048576
  case pos =>
    rw [if_pos q3] at hst
    have HF := Lib.hid (fun w' hb => rf_fail (w := w) (w' := w') hst (by decide) hb)
    unfold RfPost at HF ⊢
    subst q3
    clear hst
    generalize coins.length = cn at *
    go_enter Tryd.func9, Tryd.ntmps9
    go_wp2_with fail
    refine HC.out.mono ?_
    rintro e w1 ⟨rfl, hb1⟩
    obtain ⟨D, cD, k0, k1, k2, k3, k4, hs1⟩ := HAT.out w1 hb1
    simp only [Nat.zero_mul, Nat.add_zero] at k0 k1 k2 k3 k4
    have hY2 := Box.new w1 #[.int .i64 1048576, .int .i64 ix, .int .i64 th, .int .i64 mn, .slice D m cD] 36
    have hb2 : Below w1.heap.size w1 (w1.alloc (.cells #[.int .i64 1048576, .int .i64 ix, .int .i64 th, .int .i64 mn, .slice D m cD] 36)) := (Below.refl _ w1).alloc (Nat.le_refl _) _
    have H2 := Lib.hid (And.intro hY2 (hb1.trans (hb2.mono hb1.size)))
    have y3 : (w1.alloc (.cells #[.int .i64 1048576, .int .i64 ix, .int .i64 th, .int .i64 mn, .slice D m cD] 36)).cell? ⟨w1.heap.size, 3, none⟩ = some (.int .i64 mn) := H2.out.1.cell 3
    have y0 : (w1.alloc (.cells #[.int .i64 1048576, .int .i64 ix, .int .i64 th, .int .i64 mn, .slice D m cD] 36)).cell? ⟨w1.heap.size, 0, none⟩ = some (.int .i64 1048576) := H2.out.1.cell 0
    have HSZ0 := Lib.hid hb1.size
    clear hb1 hY2 hb2 hs1
    go_wp2_with fail
    go_ret2
    exact HF.out _ H2.out.2
  rw [if_neg q3] at hst
  have f2 : (ep == 1048576) = false := by rw [beq_eq_false_iff_ne]; exact q3
  have HSP := Lib.hid (fun V A3 c3 (hbV : Below w.heap.size w V) (hs3 : Sl V A3 (List.replicate m 0) c3) => rsplit_any A3 Ac c3 cc (List.replicate m 0) coins 0 th mn V hs3 (HS.out.2.up hbV))
  unfold SplitPost at HSP
  rw [List.length_replicate] at HSP
  obtain ⟨E, hE⟩ : ∃ E, spe (List.replicate m 0) 0 th mn coins = E := ⟨_, rfl⟩
  obtain ⟨zs, hzs⟩ : ∃ zs, spl (List.replicate m 0) 0 th mn coins = zs := ⟨_, rfl⟩
  rw [hE, hzs] at HSP HRA
  rw [hE] at hst
  have HMK := Lib.hid (fun V => make_u8 m V (by omega))
  have HZ := Lib.hid (fun V => sl_zrow V m (by omega))
  obtain ⟨zn, hzn⟩ : ∃ zn, zs.length = zn := ⟨_, rfl⟩
  rw [hzn] at HSP HRA
  have HZN := Lib.hid hzn
  clear hE hzs hzn
  by_cases q4 : E = 0
  case neg =>
    have HF := Lib.hid (fun w' hb => rf_fail (w := w) (w' := w') hst q4 hb)
    unfold RfPost at HF ⊢
    have f4 : (E != 0) = true := by rw [bne_iff_ne]; exact q4
    clear hst
    generalize coins.length = cn at *
    go_enter Tryd.func9, Tryd.ntmps9
    go_wp2_with fail
    refine HC.out.mono ?_
    rintro e w1 ⟨rfl, hb1⟩
    obtain ⟨D, cD, k0, k1, k2, k3, k4, hs1⟩ := HAT.out w1 hb1
    simp only [Nat.zero_mul, Nat.add_zero] at k0 k1 k2 k3 k4
    have hY2 := Box.new w1 #[.int .i64 ep, .int .i64 ix, .int .i64 th, .int .i64 mn, .slice D m cD] 36
    have hb2 : Below w1.heap.size w1 (w1.alloc (.cells #[.int .i64 ep, .int .i64 ix, .int .i64 th, .int .i64 mn, .slice D m cD] 36)) := (Below.refl _ w1).alloc (Nat.le_refl _) _
    have H2 := Lib.hid (And.intro hY2 (hb1.trans (hb2.mono hb1.size)))
    have y3 : (w1.alloc (.cells #[.int .i64 ep, .int .i64 ix, .int .i64 th, .int .i64 mn, .slice D m cD] 36)).cell? ⟨w1.heap.size, 3, none⟩ = some (.int .i64 mn) := H2.out.1.cell 3
    have y0 : (w1.alloc (.cells #[.int .i64 ep, .int .i64 ix, .int .i64 th, .int .i64 mn, .slice D m cD] 36)).cell? ⟨w1.heap.size, 0, none⟩ = some (.int .i64 ep) := H2.out.1.cell 0
    have HSZ0 := Lib.hid hb1.size
    clear hb1 hY2 hb2 hs1
    have HSZ1 := Lib.hid (show w.heap.size ≤ w1.heap.size from HSZ0.out)
    go_upto_region 9 with fail
    clear k0 k1 k2 k3 k4 y3 y0
    obtain ⟨B7, hB7⟩ : ∃ B7, w1.heap.size = B7 := ⟨_, rfl⟩
    rw [hB7] at H2 ⊢
    obtain ⟨w2, hw2⟩ : ∃ w2, w1.alloc (.cells #[.int .i64 ep, .int .i64 ix, .int .i64 th, .int .i64 mn, .slice D m cD] 36) = w2 := ⟨_, rfl⟩
    rw [hw2] at H2 ⊢
    have HY := Lib.hid (fun V (h : Below w2.heap.size w2 V) => H2.out.1.below h)
    have HB72 := Lib.hid (show w.heap.size ≤ B7 from by rw [← hB7]; exact HSZ1.out)
    clear hw2 hB7
    have HSK := Lib.hid (fun w' (h : Below w2.heap.size w2 w') => (show w'.cell? ⟨B7, 2, none⟩ = some (.int .i64 th) ∧ w'.cell? ⟨B7, 3, none⟩ = some (.int .i64 mn) ∧ w'.cell? ⟨B7, 4, none⟩ = some (.slice D m cD) from ⟨(HY.out w' h).cell 2, (HY.out w' h).cell 3, (HY.out w' h).cell 4⟩))
    have B0 := Lib.hid (Below.refl w2.heap.size w2).drew
    have B1 := Lib.hid ((Below.refl w2.heap.size w2).alloc (Nat.le_refl _) (.cells (zrow m) 5)).drew
    have Z1 := Lib.hid (show Sl (w2.alloc (.cells (zrow m) 5)).drew (some ⟨w2.heap.size, 0, none⟩) (List.replicate m 0) m from HZ.out w2)
    have hmk := HMK.out
    have HSP2 := Lib.hid (fun V A3 c3 (h : Below w2.heap.size w2 V) hs3 => HSP.out V A3 c3 (H2.out.2.trans (h.mono H2.out.2.size)) hs3)
    go_region_held3 (fun w' => w'.cell? ⟨B7, 2, none⟩ = some (.int .i64 th) ∧ w'.cell? ⟨B7, 3, none⟩ = some (.int .i64 mn) ∧ w'.cell? ⟨B7, 4, none⟩ = some (.slice D m cD))
      (with_reducible first | exact HSK.out _ B0.out | exact HSK.out _ B1.out | exact HSK.out _ B5.out | go_keep)
      (first
        | (go_at_call 26; refine (HSP2.out _ _ _ B1.out Z1.out).mono ?_; rintro e w5 ⟨A5, c5, rfl, hS5, hb5⟩; have hb51 := bthen (a := w2) B1.out hb5; have B5 := Lib.hid hb51; have I5 := Lib.hid hS5; clear hb5 hb51 hS5)
        | fail)
    clear hmk
    have HB5 := Lib.hid (H2.out.2.trans (B5.out.mono H2.out.2.size))
    go_wp2_with fail
    go_ret2
    exact HF.out _ HB5.out
  subst q4
  have hra := HRA.out hst q2
  obtain ⟨_, hznn, hXl, hXat⟩ := hra
  obtain rfl : zn = n := hznn
  have HX := Lib.hid (And.intro hXl hXat)
  have HFX := Lib.hid (fun w' A' c' (hs : SS w' A' (rfl' l coins) c') (hb : Below w.heap.size w w') => (show RfPost l coins w (.returned (.tuple #[.slice A' zn c', .int .i64 0])) w' from ⟨A', c', by rw [hst, hXl], hs, hb⟩))
  have hq2 := q2
  obtain rfl : mn = (zn : Int) := hq2.symm
  have HEP := Lib.hid hep
  unfold RfPost at HFX ⊢
  clear hst hXl hXat HRA q2 hq2 f1
  have f1 : ((zn : Int) != (zn : Int)) = false := by simp
  generalize coins.length = cn at *
  generalize rfl' l coins = X at *
  go_enter Tryd.func9, Tryd.ntmps9
  go_wp2_with fail
  refine HC.out.mono ?_
  rintro e w1 ⟨rfl, hb1⟩
  obtain ⟨D, cD, k0, k1, k2, k3, k4, hs1⟩ := HAT.out w1 hb1
  simp only [Nat.zero_mul, Nat.add_zero] at k0 k1 k2 k3 k4
  have hY2 := Box.new w1 #[.int .i64 ep, .int .i64 ix, .int .i64 th, .int .i64 (zn : Int), .slice D m cD] 36
  have hb2 : Below w1.heap.size w1 (w1.alloc (.cells #[.int .i64 ep, .int .i64 ix, .int .i64 th, .int .i64 (zn : Int), .slice D m cD] 36)) := (Below.refl _ w1).alloc (Nat.le_refl _) _
  have H2 := Lib.hid (And.intro hY2 (hb1.trans (hb2.mono hb1.size)))
  have y3 : (w1.alloc (.cells #[.int .i64 ep, .int .i64 ix, .int .i64 th, .int .i64 (zn : Int), .slice D m cD] 36)).cell? ⟨w1.heap.size, 3, none⟩ = some (.int .i64 (zn : Int)) := H2.out.1.cell 3
  have y0 : (w1.alloc (.cells #[.int .i64 ep, .int .i64 ix, .int .i64 th, .int .i64 (zn : Int), .slice D m cD] 36)).cell? ⟨w1.heap.size, 0, none⟩ = some (.int .i64 ep) := H2.out.1.cell 0
  have HSZ0 := Lib.hid hb1.size
  clear hb1 hY2 hb2 hs1
  have HSZ1 := Lib.hid (show w.heap.size ≤ w1.heap.size from HSZ0.out)
  go_upto_region 9 with fail
  clear k0 k1 k2 k3 k4 y3 y0
  obtain ⟨B7, hB7⟩ : ∃ B7, w1.heap.size = B7 := ⟨_, rfl⟩
  rw [hB7] at H2 ⊢
  obtain ⟨w2, hw2⟩ : ∃ w2, w1.alloc (.cells #[.int .i64 ep, .int .i64 ix, .int .i64 th, .int .i64 (zn : Int), .slice D m cD] 36) = w2 := ⟨_, rfl⟩
  rw [hw2] at H2 ⊢
  have HY := Lib.hid (fun V (h : Below w2.heap.size w2 V) => H2.out.1.below h)
  have HB72 := Lib.hid (show w.heap.size ≤ B7 from by rw [← hB7]; exact HSZ1.out)
  clear hw2 hB7
  have HSK := Lib.hid (fun w' (h : Below w2.heap.size w2 w') => (show w'.cell? ⟨B7, 2, none⟩ = some (.int .i64 th) ∧ w'.cell? ⟨B7, 3, none⟩ = some (.int .i64 (zn : Int)) ∧ w'.cell? ⟨B7, 4, none⟩ = some (.slice D m cD) from ⟨(HY.out w' h).cell 2, (HY.out w' h).cell 3, (HY.out w' h).cell 4⟩))
  have B0 := Lib.hid (Below.refl w2.heap.size w2).drew
  have B1 := Lib.hid ((Below.refl w2.heap.size w2).alloc (Nat.le_refl _) (.cells (zrow m) 5)).drew
  have Z1 := Lib.hid (show Sl (w2.alloc (.cells (zrow m) 5)).drew (some ⟨w2.heap.size, 0, none⟩) (List.replicate m 0) m from HZ.out w2)
  have hmk := HMK.out
  have HSP2 := Lib.hid (fun V A3 c3 (h : Below w2.heap.size w2 V) hs3 => HSP.out V A3 c3 (H2.out.2.trans (h.mono H2.out.2.size)) hs3)
  go_region_held3 (fun w' => w'.cell? ⟨B7, 2, none⟩ = some (.int .i64 th) ∧ w'.cell? ⟨B7, 3, none⟩ = some (.int .i64 (zn : Int)) ∧ w'.cell? ⟨B7, 4, none⟩ = some (.slice D m cD))
    (with_reducible first | exact HSK.out _ B0.out | exact HSK.out _ B1.out | exact HSK.out _ B5.out | go_keep)
    (first
      | (go_at_call 26; refine (HSP2.out _ _ _ B1.out Z1.out).mono ?_; rintro e w5 ⟨A5, c5, rfl, hS5, hb5⟩; have hb51 := bthen (a := w2) B1.out hb5; have B5 := Lib.hid hb51; have I5 := Lib.hid hS5; clear hb5 hb51 hS5)
      | fail)
  clear hmk
  have HB5 := Lib.hid (H2.out.2.trans (B5.out.mono H2.out.2.size))
  have HY5 := Lib.hid (HY.out _ B5.out)
  go_wp2_with fail
  go_loopw [10, 11] (fun v i wr => ∃ (k : Nat) (A' : Option Addr) (c' : Nat), k ≤ zn ∧ v = .slice A' k c' ∧ i = .int .i64 (k : Int) ∧ OB w5 wr A' c' (X.take k) ∧ Below w5.heap.size w5 wr) (fun _ i _ => zn - (intOf i).toNat)
  case atStart => exact ⟨0, none, 0, Nat.zero_le _, rfl, rfl, OB.nil _ _, Below.refl _ _⟩
  case round =>
    obtain ⟨k, A', c', hk, rfl, rfl, hO, hbw⟩ := hrel
    obtain ⟨V, rfl⟩ : ∃ V, V = wr := ⟨_, rfl⟩
    have KR := Lib.hid (And.intro hO hbw)
    clear hO hbw
    by_cases hlk : k < zn
    case neg =>
      obtain rfl : k = zn := by omega
      have htk : X.take k = X := List.take_of_length_le (by rw [HX.out.1]; exact Nat.le_refl _)
      have h1 := KR.out.1.ss
      rw [htk] at h1
      have HR := Lib.hid (HFX.out V A' c' h1 (HB5.out.trans (KR.out.2.mono HB5.out.size)))
      have hdk : decide ((k : Int) < (k : Int)) = false := decide_eq_false (by omega)
      clear h1 htk
      go_wp2_with fail
      go_ret2
      exact HR.out
    have hdk : decide ((k : Int) < (zn : Int)) = true := decide_eq_true (by omega)
    obtain ⟨s, hs⟩ : ∃ s, l[k]? = some s := ⟨_, List.getElem?_eq_getElem (by rw [HN.out]; exact hlk)⟩
    obtain ⟨z, hz, hzl, hXk⟩ := HX.out.2 k s hs
    have hsm := HALL.out.1 s (List.mem_of_getElem? hs)
    have hVw := HB5.out.trans (KR.out.2.mono HB5.out.size)
    obtain ⟨Ds, ds, p0, p1, p2, p3, p4, hsD⟩ := (HALL.out.2 k s hs).up HBL.out hVw
    obtain ⟨b2, off2, rfl, hb2, hat2⟩ := I5.out.1 (by rw [HZN.out]; omega)
    obtain ⟨De, de, e0, e1, e2, e3, e4, hzD⟩ := (hat2 k z hz).up hb2 KR.out.2
    rw [hsm.1] at p4
    rw [hsm.2] at p0
    rw [hzl] at e4
    have HC4 := Lib.hid (fun W (hW : Below V.heap.size V W) => And.intro ((hW.cell (p := ⟨b, off + k * 5 + 4, none⟩) (World.block_lt_of_cell? _ _ p4)).trans p4) (And.intro ((hW.cell (p := ⟨b2, off2 + k * 5 + 4, none⟩) (World.block_lt_of_cell? _ _ e4)).trans e4) (And.intro (hsD.up hW) (And.intro (hzD.up hW) ((HY5.out.below (KR.out.2.trans (hW.mono KR.out.2.size))).cell 4)))))
    have wep : IntKind.i64.wrap (ep + 1) = ep + 1 := by rw [IntKind.wrap_i64]; have := HEP.out; omega
    have j0 : (0 : Int) ≤ (k : Int) := by omega
    have j1 : (k : Int) < (zn : Int) := by omega
    obtain ⟨six, hsix⟩ : ∃ q, s.ix = q := ⟨_, rfl⟩
    obtain ⟨sth, hsth⟩ : ∃ q, s.th = q := ⟨_, rfl⟩
    obtain ⟨smn, hsmn⟩ : ∃ q, s.mn = q := ⟨_, rfl⟩
    rw [hsix] at p1
    rw [hsth] at p2
    rw [hsmn] at p3
    have hx1 := Box.new V #[.int .i64 (ep + 1), .int .i64 six, .int .i64 sth, .int .i64 smn, .slice none 0 0] 36
    have hba := (Below.refl V.heap.size V).alloc (Nat.le_refl _) (.cells #[.int .i64 (ep + 1), .int .i64 six, .int .i64 sth, .int .i64 smn, .slice none 0 0] 36)
    have KV := Lib.hid (And.intro hx1 hba)
    have hud : (rsr z s).data = sumb s.data z.data := rfl
    have hDl : (sumb s.data z.data).length = m := by rw [sumb_length, hsm.1]
    have HDD := Lib.hid (And.intro hXk (And.intro hDl (show rsr z s = ⟨ep + 1, six, sth, smn, sumb s.data z.data⟩ from by unfold rsr; rw [hsm.2, hsix, hsth, hsmn])))
    have HSM := Lib.hid (And.intro hsm.1 hzl)
    clear hs hz hzl hXk hsm hVw hsD hb2 hat2 hzD e0 e1 e2 e3 e4 hba hx1 hsix hsth hsmn hud hDl
    go_upto_region 19 with fail
    clear p0 p1 p2 p3 p4
    obtain ⟨b12, hb12⟩ : ∃ b12, V.heap.size = b12 := ⟨_, rfl⟩
    rw [hb12] at KV ⊢
    have HB12 := Lib.hid hb12
    clear hb12
    generalize V.alloc (.cells #[.int .i64 (ep + 1), .int .i64 six, .int .i64 sth, .int .i64 smn, .slice none 0 0] 36) = V1 at *
    go_wp2_with fail
    go_loopw [13] (fun i wr => ∃ (j : Nat) (A9 : Option Addr) (c9 : Nat), j ≤ m ∧ i = .int .i64 (j : Int) ∧ Box wr b12 #[.int .i64 (ep + 1), .int .i64 six, .int .i64 sth, .int .i64 smn, .slice A9 j c9] 36 ∧ wr.ownsRow b12 5 1 (.slice A9 j c9) j (((sumb s.data z.data).take j).map bv) ∧ Below b12 V wr) (fun i _ => m - (intOf i).toNat)
    case atStart => exact ⟨0, none, 0, Nat.zero_le _, rfl, KV.out.1, World.ownsRow_nil _ _ _ _, KV.out.2⟩
    case round =>
      obtain ⟨j, A9, c9, hj, rfl, y12, ho9, hbv⟩ := hrel
      have hbV : Below V.heap.size V wr := by rw [HB12.out]; exact hbv
      obtain ⟨g1, g2, hsD, hzD, g5⟩ := HC4.out wr hbV
      have KS := Lib.hid (And.intro y12 (And.intro ho9 (And.intro hbv hbV)))
      clear y12 ho9 hbv hbV
      by_cases hlj : j < m
      case neg =>
        obtain rfl : j = m := by omega
        have htk : (sumb s.data z.data).take j = sumb s.data z.data := List.take_of_length_le (by rw [HDD.out.2.1]; exact Nat.le_refl _)
        rw [htk] at KS
        have hdj : decide ((j : Int) < (j : Int)) = false := decide_eq_false (by omega)
        have hba := (Below.refl wr.heap.size wr).alloc (Nat.le_refl _) (.cells #[.int .i64 (ep + 1), .int .i64 six, .int .i64 sth, .int .i64 smn, .slice A9 j c9] 36)
        obtain ⟨u, hu⟩ : ∃ u, rsr z s = u := ⟨_, rfl⟩
        have hu2 : u = ⟨ep + 1, six, sth, smn, sumb s.data z.data⟩ := hu.symm.trans HDD.out.2.2
        have hul : u.data.length = j := by rw [hu2]; exact HDD.out.2.1
        have hZb : w5.heap.size ≤ b12 := by rw [← HB12.out]; exact KR.out.2.size
        have hOB := (KR.out.1.up KS.out.2.2.2).up hba
        have hown : (wr.alloc (.cells #[.int .i64 (ep + 1), .int .i64 six, .int .i64 sth, .int .i64 smn, .slice A9 j c9] 36)).ownsRow w5.heap.size 5 1 (.slice A9 u.data.length c9) u.data.length (u.data.map bv) := by
          rw [hul, hu2]
          exact own_base (own_below KS.out.2.1 hba) hZb
        have hbox : Box (wr.alloc (.cells #[.int .i64 (ep + 1), .int .i64 six, .int .i64 sth, .int .i64 smn, .slice A9 j c9] 36)) wr.heap.size #[.int .i64 u.ep, .int .i64 u.ix, .int .i64 u.th, .int .i64 u.mn, .slice A9 u.data.length c9] 36 := by
          rw [hul, hu2]
          exact Box.new _ _ _
        have hb3 := (KR.out.2.trans (KS.out.2.2.2.mono KR.out.2.size)).alloc (Nat.le_trans KR.out.2.size KS.out.2.2.2.size) (.cells #[.int .i64 (ep + 1), .int .i64 six, .int .i64 sth, .int .i64 smn, .slice A9 j c9] 36)
        have hlk2 : (X.take k).length = k := by rw [List.length_take, HX.out.1]; omega
        have hzk : X.take (k + 1) = X.take k ++ [u] := by rw [List.take_add_one, HDD.out.1, hu]; rfl
        have HO := Lib.hid (And.intro hOB (And.intro hown (And.intro hbox (And.intro hb3 (And.intro hlk2 hzk)))))
        have z0 := KS.out.1.cell 0
        have z1 := KS.out.1.cell 1
        have z2 := KS.out.1.cell 2
        have z3 := KS.out.1.cell 3
        have z4 := KS.out.1.cell 4
        simp only [List.getElem?_toArray, List.getElem?_cons_zero, List.getElem?_cons_succ] at z0 z1 z2 z3 z4
        clear htk hba hOB hown hbox hb3 hlk2 hzk KS hu hu2 hul hZb g1 g2 hsD hzD
        go_wp2_with (at_builtin; go_must (refine wpList_append_ob (w0 := w5) rfl (.tmp 90) (.tmp 92) rfl A' (X.take k) k c' HO.out.2.2.2.2.1 rfl HO.out.1 wr.heap.size u A9 c9 rfl HO.out.2.2.1 HO.out.2.1 (by omega) HO.out.2.2.2.1 ?_); intro A12 c12 w12 ho12 hb12; have H12 := Lib.hid (And.intro ho12 hb12); clear ho12 hb12)
        go_roundw
        case rel => exact ⟨k + 1, A12, c12, by omega, rfl, by go_num, by rw [HO.out.2.2.2.2.2]; exact H12.out.1, H12.out.2⟩
        case measure => simp [intOf]; omega
      have hdj : decide ((j : Int) < (m : Int)) = true := decide_eq_true (by omega)
      obtain ⟨xj, hxj⟩ : ∃ y, s.data[j]? = some y := ⟨_, List.getElem?_eq_getElem (by rw [HSM.out.1]; exact hlj)⟩
      obtain ⟨zj, hzj⟩ : ∃ y, z.data[j]? = some y := ⟨_, List.getElem?_eq_getElem (by rw [HSM.out.2]; exact hlj)⟩
      obtain ⟨bd, od, rfl, hbd, hcd⟩ := hsD.1 (by rw [HSM.out.1]; omega)
      obtain ⟨be, oe, rfl, hbe, hce⟩ := hzD.1 (by rw [HSM.out.2]; omega)
      obtain ⟨v1, v2, v3, v4, _⟩ := HC4.out V (Below.refl _ _)
      have v3 : V.cell? ⟨bd, od + j, none⟩ = some (bv xj) := by
        obtain ⟨bd', od', e', _, hc'⟩ := v3.1 (by rw [HSM.out.1]; omega)
        injection e' with e'
        injection e' with h1 h2
        rw [h1, h2]
        exact hc' j xj hxj
      have v4 : V.cell? ⟨be, oe + j, none⟩ = some (bv zj) := by
        obtain ⟨be', oe', e', _, hc'⟩ := v4.1 (by rw [HSM.out.2]; omega)
        injection e' with e'
        injection e' with h1 h2
        rw [h1, h2]
        exact hc' j zj hzj
      have hdat : (sumb s.data z.data)[j]? = some (xj ^^^ zj) := by
        unfold sumb
        rw [List.getElem?_map, List.getElem?_range (by rw [HSM.out.1]; exact hlj), Option.map_some]
        show some (s.data.getD j 0 ^^^ z.data.getD j 0) = _
        rw [List.getD_eq_getElem?_getD, List.getD_eq_getElem?_getD, hxj, hzj]
        rfl
      have g3 := hcd j xj hxj
      have g4 := hce j zj hzj
      unfold bv at g3 g4 v3 v4
      have e2 := xor_u8' xj zj
      obtain ⟨xx, hxx⟩ : ∃ q, xj ^^^ zj = q := ⟨_, rfl⟩
      rw [hxx] at hdat e2
      have htk : (sumb s.data z.data).take (j + 1) = (sumb s.data z.data).take j ++ [xx] := by rw [List.take_add_one, hdat]; rfl
      obtain ⟨vn, hvn⟩ : ∃ vn, xx.toNat = vn := ⟨_, rfl⟩
      obtain ⟨xn, hxn⟩ : ∃ xn, xj.toNat = xn := ⟨_, rfl⟩
      obtain ⟨zn2, hzn2⟩ : ∃ zn2, zj.toNat = zn2 := ⟨_, rfl⟩
      rw [hxn] at g3 e2 v3
      rw [hzn2] at g4 e2 v4
      rw [hvn] at e2
      have hlit : (([xx].map bv).toArray : Array Value) = #[.int .u8 (vn : Int)] := by
        rw [← hvn]
        rfl
      have HTK := Lib.hid (And.intro htk hlit)
      have HD0 := Lib.hid (show (fun w' => w'.cell? ⟨b12, 4, none⟩ = some (.slice A9 j c9) ∧ w'.cell? ⟨b, off + k * 5 + 4, none⟩ = some (.slice (some ⟨bd, od, none⟩) m ds) ∧ w'.cell? ⟨bd, od + j, none⟩ = some (.int .u8 (xn : Int)) ∧ w'.cell? ⟨b2, off2 + k * 5 + 4, none⟩ = some (.slice (some ⟨be, oe, none⟩) m de) ∧ w'.cell? ⟨be, oe + j, none⟩ = some (.int .u8 (zn2 : Int))) wr from ⟨KS.out.1.cell 4, g1, g3, g2, g4⟩)
      have HD1 := Lib.hid (fun W' (hb : Below wr.heap.size wr W') => show (fun w' => w'.cell? ⟨b12, 4, none⟩ = some (.slice A9 j c9) ∧ w'.cell? ⟨b, off + k * 5 + 4, none⟩ = some (.slice (some ⟨bd, od, none⟩) m ds) ∧ w'.cell? ⟨bd, od + j, none⟩ = some (.int .u8 (xn : Int)) ∧ w'.cell? ⟨b2, off2 + k * 5 + 4, none⟩ = some (.slice (some ⟨be, oe, none⟩) m de) ∧ w'.cell? ⟨be, oe + j, none⟩ = some (.int .u8 (zn2 : Int))) W' from ⟨(KS.out.1.below hb).cell 4, (hb.cell (p := ⟨b, off + k * 5 + 4, none⟩) (World.block_lt_of_cell? _ _ g1)).trans g1, (hb.cell (p := ⟨bd, od + j, none⟩) (World.block_lt_of_cell? _ _ g3)).trans g3, (hb.cell (p := ⟨b2, off2 + k * 5 + 4, none⟩) (World.block_lt_of_cell? _ _ g2)).trans g2, (hb.cell (p := ⟨be, oe + j, none⟩) (World.block_lt_of_cell? _ _ g4)).trans g4⟩)
      have HGV := Lib.hid (fun W (hW : Below V.heap.size V W) => And.intro ((hW.cell (p := ⟨b, off + k * 5 + 4, none⟩) (World.block_lt_of_cell? _ _ v1)).trans v1) (And.intro ((hW.cell (p := ⟨bd, od + j, none⟩) (World.block_lt_of_cell? _ _ v3)).trans v3) (And.intro ((hW.cell (p := ⟨b2, off2 + k * 5 + 4, none⟩) (World.block_lt_of_cell? _ _ v2)).trans v2) ((hW.cell (p := ⟨be, oe + j, none⟩) (World.block_lt_of_cell? _ _ v4)).trans v4))))
      have HDV := Lib.hid (HD1.out wr.drew (Below.refl wr.heap.size wr).drew)
      have hb12b : b12 < wr.heap.size := KS.out.1.lt
      have hbase : b12 ≤ (wr.alloc (.cells #[.int .u8 (vn : Int)] 5)).drew.heap.size := by
        show b12 ≤ (wr.alloc _).heap.size
        rw [World.size_alloc]
        omega
      have hba := (Below.refl wr.heap.size wr).alloc (Nat.le_refl _) (.cells #[.int .u8 (vn : Int)] 5)
      have HBA := Lib.hid hba.drew
      have HSZ := Lib.hid (show Sl (wr.alloc (.cells #[.int .u8 (vn : Int)] 5)).drew (some ⟨wr.heap.size, 0, none⟩) [xx] 1 from sl_lit wr [xx] 1 rfl (by omega) #[.int .u8 (vn : Int)] HTK.out.2)
      have HNN := Lib.hid (And.intro hb12b hbase)
      have l0 : (0 : Int) ≤ (j : Int) := by omega
      have l1 : (j : Int) < (m : Int) := by omega
      clear hba v1 v2 v3 v4 hxj hzj hcd hce hbd hbe hdat hxx htk hvn hxn hzn2 hlit hb12b hbase
      go_upto_region 22 with fail
      clear g1 g2 g3 g4 g5
      refine wp_region_later 22 (fun w' => w'.cell? ⟨b12, 4, none⟩ = some (.slice A9 j c9) ∧ w'.cell? ⟨b, off + k * 5 + 4, none⟩ = some (.slice (some ⟨bd, od, none⟩) m ds) ∧ w'.cell? ⟨bd, od + j, none⟩ = some (.int .u8 (xn : Int)) ∧ w'.cell? ⟨b2, off2 + k * 5 + 4, none⟩ = some (.slice (some ⟨be, oe, none⟩) m de) ∧ w'.cell? ⟨be, oe + j, none⟩ = some (.int .u8 (zn2 : Int))) (by kernel_rfl) ?_
      refine takeL (d := some 68) (i := 0) (v := ?v0) rfl rfl (by kernel_rfl) (by kernel_rfl) (by kernel_rfl) (fun _ _ _ h => h) rfl (by kernel_rfl) (Or.inl ⟨by rfl, ?y0⟩) HDV.out ?r0
      case y0 =>
        intro w hSw
        try dsimp only at hSw
        obtain ⟨d0, d1, d2, d3, d4⟩ := hSw
        go_simp
        all_goals with_reducible rfl
      try simp only [Act.put, List.setIfInBounds_toArray, List.set_cons_zero, List.set_cons_succ]
      refine takeL (d := some 69) (i := 1) (v := ?v1) rfl rfl (by kernel_rfl) (by kernel_rfl) (by kernel_rfl) (fun _ _ _ h => h) rfl (by kernel_rfl) (Or.inl ⟨by rfl, ?y1⟩) HDV.out ?r1
      case y1 =>
        intro w hSw
        try dsimp only at hSw
        obtain ⟨d0, d1, d2, d3, d4⟩ := hSw
        go_simp
        all_goals with_reducible rfl
      try simp only [Act.put, List.setIfInBounds_toArray, List.set_cons_zero, List.set_cons_succ]
      refine takeL (d := some 70) (i := 2) (v := ?v2) rfl rfl (by kernel_rfl) (by kernel_rfl) (by kernel_rfl) (fun _ _ _ h => h) rfl (by kernel_rfl) (Or.inl ⟨by rfl, ?y2⟩) HDV.out ?r2
      case y2 =>
        intro w hSw
        try dsimp only at hSw
        obtain ⟨d0, d1, d2, d3, d4⟩ := hSw
        go_simp
        all_goals with_reducible rfl
      try simp only [Act.put, List.setIfInBounds_toArray, List.set_cons_zero, List.set_cons_succ]
      refine takeL (d := some 71) (i := 3) (v := ?v3) rfl rfl (by kernel_rfl) (by kernel_rfl) (by kernel_rfl) (fun _ _ _ h => h) rfl (by kernel_rfl) (Or.inl ⟨by rfl, ?y3⟩) HDV.out ?r3
      case y3 =>
        intro w hSw
        try dsimp only at hSw
        obtain ⟨d0, d1, d2, d3, d4⟩ := hSw
        go_simp
        all_goals with_reducible rfl
      try simp only [Act.put, List.setIfInBounds_toArray, List.set_cons_zero, List.set_cons_succ]
      refine takeL (d := some 72) (i := 4) (v := ?v4) rfl rfl (by kernel_rfl) (by kernel_rfl) (by kernel_rfl) (fun _ _ _ h => h) rfl (by kernel_rfl) (Or.inl ⟨by rfl, ?y4⟩) HDV.out ?r4
      case y4 =>
        intro w hSw
        try dsimp only at hSw
        obtain ⟨d0, d1, d2, d3, d4⟩ := hSw
        go_simp
        all_goals with_reducible rfl
      try simp only [Act.put, List.setIfInBounds_toArray, List.set_cons_zero, List.set_cons_succ]
      refine takeL (d := some 73) (i := 5) (v := ?v5) rfl rfl (by kernel_rfl) (by kernel_rfl) (by kernel_rfl) (fun _ _ _ h => h) rfl (by kernel_rfl) (Or.inl ⟨by rfl, ?y5⟩) HDV.out ?r5
      case y5 =>
        intro w hSw
        try dsimp only at hSw
        obtain ⟨d0, d1, d2, d3, d4⟩ := hSw
        go_simp
        all_goals with_reducible rfl
      try simp only [Act.put, List.setIfInBounds_toArray, List.set_cons_zero, List.set_cons_succ]
      refine takeL (d := some 74) (i := 6) (v := ?v6) rfl rfl (by kernel_rfl) (by kernel_rfl) (by kernel_rfl) (fun _ _ _ h => h) rfl (by kernel_rfl) (Or.inl ⟨by rfl, ?y6⟩) HDV.out ?r6
      case y6 =>
        intro w hSw
        try dsimp only at hSw
        obtain ⟨d0, d1, d2, d3, d4⟩ := hSw
        go_simp
        all_goals with_reducible rfl
      try simp only [Act.put, List.setIfInBounds_toArray, List.set_cons_zero, List.set_cons_succ]
      refine takeL (d := some 75) (i := 7) (v := ?v7) rfl rfl (by kernel_rfl) (by kernel_rfl) (by kernel_rfl) (fun _ _ _ h => h) rfl (by kernel_rfl) (Or.inl ⟨by rfl, ?y7⟩) HDV.out ?r7
      case y7 =>
        intro w hSw
        try dsimp only at hSw
        obtain ⟨d0, d1, d2, d3, d4⟩ := hSw
        go_simp
        all_goals with_reducible rfl
      try simp only [Act.put, List.setIfInBounds_toArray, List.set_cons_zero, List.set_cons_succ]
      refine takeL (d := some 76) (i := 8) (v := ?v8) rfl rfl (by kernel_rfl) (by kernel_rfl) (by kernel_rfl) (fun _ _ _ h => h) rfl (by kernel_rfl) (Or.inl ⟨by rfl, ?y8⟩) HDV.out ?r8
      case y8 =>
        intro w hSw
        try dsimp only at hSw
        obtain ⟨d0, d1, d2, d3, d4⟩ := hSw
        go_simp
        all_goals with_reducible rfl
      try simp only [Act.put, List.setIfInBounds_toArray, List.set_cons_zero, List.set_cons_succ]
      refine takeL (d := some 77) (i := 9) (v := ?v9) rfl rfl (by kernel_rfl) (by kernel_rfl) (by kernel_rfl) (fun _ _ _ h => h) rfl (by kernel_rfl) (Or.inl ⟨by rfl, ?y9⟩) HDV.out ?r9
      case y9 =>
        intro w hSw
        try dsimp only at hSw
        obtain ⟨d0, d1, d2, d3, d4⟩ := hSw
        go_simp
        all_goals with_reducible rfl
      try simp only [Act.put, List.setIfInBounds_toArray, List.set_cons_zero, List.set_cons_succ]
      refine takeL (d := some 78) (i := 10) (v := ?v10) rfl rfl (by kernel_rfl) (by kernel_rfl) (by kernel_rfl) (fun _ _ _ h => h) rfl (by kernel_rfl) (Or.inl ⟨by rfl, ?y10⟩) HDV.out ?r10
      case y10 =>
        intro w hSw
        try dsimp only at hSw
        obtain ⟨d0, d1, d2, d3, d4⟩ := hSw
        go_simp
        all_goals with_reducible rfl
      try simp only [Act.put, List.setIfInBounds_toArray, List.set_cons_zero, List.set_cons_succ]
      refine takeL (d := some 79) (i := 11) (v := ?v11) rfl rfl (by kernel_rfl) (by kernel_rfl) (by kernel_rfl) (fun _ _ _ h => h) rfl (by kernel_rfl) (Or.inl ⟨by rfl, ?y11⟩) HDV.out ?r11
      case y11 =>
        intro w hSw
        try dsimp only at hSw
        obtain ⟨d0, d1, d2, d3, d4⟩ := hSw
        go_simp
        all_goals with_reducible rfl
      try simp only [Act.put, List.setIfInBounds_toArray, List.set_cons_zero, List.set_cons_succ]
      refine takeL (d := some 80) (i := 12) (v := ?v12) rfl rfl (by kernel_rfl) (by kernel_rfl) (by kernel_rfl) (fun _ _ _ h => h) rfl (by kernel_rfl) (Or.inl ⟨by rfl, ?y12⟩) HDV.out ?r12
      case y12 =>
        intro w hSw
        try dsimp only at hSw
        obtain ⟨d0, d1, d2, d3, d4⟩ := hSw
        go_simp
        all_goals with_reducible rfl
      try simp only [Act.put, List.setIfInBounds_toArray, List.set_cons_zero, List.set_cons_succ]
      refine takeL (d := some 81) (i := 13) (v := ?v13) rfl rfl (by kernel_rfl) (by kernel_rfl) (by kernel_rfl) (fun _ _ _ h => h) rfl (by kernel_rfl) (Or.inl ⟨by rfl, ?y13⟩) HDV.out ?r13
      case y13 =>
        intro w hSw
        try dsimp only at hSw
        obtain ⟨d0, d1, d2, d3, d4⟩ := hSw
        go_simp
        all_goals with_reducible rfl
      try simp only [Act.put, List.setIfInBounds_toArray, List.set_cons_zero, List.set_cons_succ]
      refine takeL (d := some 82) (i := 14) (v := ?v14) rfl rfl (by kernel_rfl) (by kernel_rfl) (by kernel_rfl) (fun _ _ _ h => h) rfl (by kernel_rfl) (Or.inl ⟨by rfl, ?y14⟩) HDV.out ?r14
      case y14 =>
        intro w hSw
        try dsimp only at hSw
        obtain ⟨d0, d1, d2, d3, d4⟩ := hSw
        go_simp
        all_goals with_reducible rfl
      try simp only [Act.put, List.setIfInBounds_toArray, List.set_cons_zero, List.set_cons_succ]
      refine takeL (d := some 83) (i := 15) (v := ?v15) rfl rfl (by kernel_rfl) (by kernel_rfl) (by kernel_rfl) (fun _ _ _ h => h) rfl (by kernel_rfl) (Or.inl ⟨by rfl, ?y15⟩) HDV.out ?r15
      case y15 =>
        intro w hSw
        try dsimp only at hSw
        obtain ⟨d0, d1, d2, d3, d4⟩ := hSw
        go_simp
        all_goals with_reducible rfl
      try simp only [Act.put, List.setIfInBounds_toArray, List.set_cons_zero, List.set_cons_succ]
      refine takeL (d := some 84) (i := 16) (v := ?v16) rfl rfl (by kernel_rfl) (by kernel_rfl) (by kernel_rfl) (fun _ _ _ h => h) rfl (by kernel_rfl) (Or.inl ⟨by rfl, ?y16⟩) HDV.out ?r16
      case y16 =>
        intro w hSw
        try dsimp only at hSw
        obtain ⟨d0, d1, d2, d3, d4⟩ := hSw
        go_simp
        all_goals with_reducible rfl
      try simp only [Act.put, List.setIfInBounds_toArray, List.set_cons_zero, List.set_cons_succ]
      refine takeL (d := some 85) (i := 17) (v := ?v17) rfl rfl (by kernel_rfl) (by kernel_rfl) (by kernel_rfl) (fun _ _ _ h => h) rfl (by kernel_rfl) (Or.inl ⟨by rfl, ?y17⟩) HDV.out ?r17
      case y17 =>
        intro w hSw
        try dsimp only at hSw
        obtain ⟨d0, d1, d2, d3, d4⟩ := hSw
        go_simp
        all_goals with_reducible rfl
      try simp only [Act.put, List.setIfInBounds_toArray, List.set_cons_zero, List.set_cons_succ]
      refine takeL (d := some 86) (i := 18) (v := ?v18) rfl rfl (by kernel_rfl) (by kernel_rfl) (by kernel_rfl) (fun _ _ _ h => h) rfl (by kernel_rfl) (Or.inl ⟨by rfl, ?y18⟩) HDV.out ?r18
      case y18 =>
        intro w hSw
        try dsimp only at hSw
        obtain ⟨d0, d1, d2, d3, d4⟩ := hSw
        go_simp
        all_goals with_reducible rfl
      try simp only [Act.put, List.setIfInBounds_toArray, List.set_cons_zero, List.set_cons_succ]
      refine oneL (i := 19) (by kernel_rfl) rfl (fun K' hK => ?_)
      go_simp
      refine hK.out _ _ (fun _ => HD1.out _ HBA.out) ?_
      clear hK
      refine oneL (i := 20) (by kernel_rfl) rfl (fun K' hK => ?_)
      refine step_append_sl (base := b12) (by rfl) (.tmp 69) (.tmp 87) (by rfl) (.slice A9 j c9) j _ (by rfl) (own_below KS.out.2.1 HBA.out) (some ⟨wr.heap.size, 0, none⟩) [xx] 1 1 rfl (by rfl) HSZ.out (j + 1) rfl (by omega) HNN.out.2 ?_
      intro A11 c11 w11 ho11 hg11
      have hob := own_below KS.out.2.1 HBA.out
      have x11 := (KS.out.1.below HBA.out).grown hg11 (fun e => box_own (KS.out.1.below HBA.out) hob (by decide) e.symm)
      have hb11 : Below b12 V w11 := (KS.out.2.2.1.trans (HBA.out.mono (by have := HNN.out.1; omega))).grown hg11 HNN.out.2 (fun i hi => (hob.lt i hi).1)
      have f11 := x11.frozen 4
      have c11' : w11.cell? ⟨b12, 4, none⟩ = some (.slice A9 j c9) := x11.cell 4
      have K11 := Lib.hid (And.intro x11 (And.intro ho11 hb11))
      have HDW : Hid ((fun w' => w'.cell? ⟨b12, 4, none⟩ = some (.slice A9 j c9) ∧ w'.cell? ⟨b, off + k * 5 + 4, none⟩ = some (.slice (some ⟨bd, od, none⟩) m ds) ∧ w'.cell? ⟨bd, od + j, none⟩ = some (.int .u8 (xn : Int)) ∧ w'.cell? ⟨b2, off2 + k * 5 + 4, none⟩ = some (.slice (some ⟨be, oe, none⟩) m de) ∧ w'.cell? ⟨be, oe + j, none⟩ = some (.int .u8 (zn2 : Int))) w11) := ⟨c11', HGV.out w11 (by rw [HB12.out]; exact hb11)⟩
      clear ho11 hg11 hob x11 hb11
      refine hK.out _ _ (fun _ => HDW.out) ?_
      clear hK
      refine oneL (i := 21) (by kernel_rfl) rfl (fun K' hK => ?_)
      go_simp
      refine hK.out _ _ (fun _ => HDW.out) ?_
      clear hK
      refine oneL (i := 22) (by kernel_rfl) rfl (fun K' hK => ?_)
      go_simp
      refine hK.out _ _ (fun e => by simp at e) ?_
      clear hK
      refine doneL (by kernel_rfl) ?_ _
      have F1 : Box (w11.setCell ⟨b12, 4, none⟩ (.slice A11 (j + 1) c11)) b12 #[.int .i64 (ep + 1), .int .i64 six, .int .i64 sth, .int .i64 smn, .slice A11 (j + 1) c11] 36 := K11.out.1.set (i := 4) (v := .slice A11 (j + 1) c11)
      have F2 := K11.out.2.1.kept (set_grown_at w11 b12 4 (.slice A11 (j + 1) c11)) (.inr (box_own K11.out.1 K11.out.2.1 (by decide)))
      rw [← List.map_append, ← HTK.out.1] at F2
      have F := Lib.hid (And.intro F1 (And.intro F2 (K11.out.2.2.setCell (p := ⟨b12, 4, none⟩) (Nat.le_refl _) (.slice A11 (j + 1) c11))))
      clear F1 F2 K11 c11' f11 HD1 HDV HDW HBA HSZ HTK HD0
      generalize World.setCell _ ⟨b12, 4, none⟩ _ = wF at *
      go_wp2_with fail
      go_roundw
      case rel => exact ⟨j + 1, A11, c11, by omega, by go_num, F.out⟩
      case measure => simp [intOf]; omega

end
section
section
open Go.RowKit Go.Sort
set_option linter.unusedVariables false

set_option maxHeartbeats 2000000 in
set_option maxRecDepth 100000 in
theorem samesh_any (s : Shr) (A1 A2 : Option Addr) (c1 c2 : Nat) (w : World) (h1 : Sl w A1 s.data c1) (h2 : Sl w A2 s.data c2) : Calls Tryd.prog 27 #[shv s A1 c1, shv s A2 c2] w fun e w' => e = .returned (.bool true) ∧ Below w.heap.size w w' := by
  have hb0 : Below w.heap.size w ((w.alloc (.cells #[.int .i64 s.ep, .int .i64 s.ix, .int .i64 s.th, .int .i64 s.mn, .slice A1 s.data.length c1] 36)).alloc (.cells #[.int .i64 s.ep, .int .i64 s.ix, .int .i64 s.th, .int .i64 s.mn, .slice A2 s.data.length c2] 36)) :=
    ((Below.refl _ w).alloc (Nat.le_refl _) _).alloc (by simp) _
  have e1 := sl_str (h1.up hb0) rfl
  have e2 := sl_str (h2.up hb0) rfl
  have HB := Lib.hid hb0
  clear hb0 h1 h2
  unfold shv
  generalize (ByteArray.mk s.data.toArray) = str at *
  generalize s.data.length = n at *
  go_enter Tryd.func27, Tryd.ntmps27
  go_wp2_with fail
  go_ret
  exact ⟨rfl, HB.out⟩

set_option maxHeartbeats 2000000 in
set_option maxRecDepth 100000 in
theorem sames_any (A A2 : Option Addr) (c c2 n : Nat) (l : List Shr) (w : World) (hS : SS w A l c) (hS2 : SS w A2 l c2) (hn : l.length = n) (hl : n ≤ 1000000) :
    Calls Tryd.prog 10 #[.slice A n c, .slice A2 n c2] w fun e w' => e = .returned (.bool true) ∧ Below w.heap.size w w' := by
  have HS := Lib.hid (And.intro hS hS2)
  have HN := Lib.hid hn
  clear hS hS2 hn
  go_enter Tryd.func10, Tryd.ntmps10
  go_wp2_with fail
  go_loopw [5] (fun i wr => ∃ k : Nat, k ≤ n ∧ i = .int .i64 k ∧ Below w.heap.size w wr) (fun i _ => n - (intOf i).toNat)
  case atStart => exact ⟨0, Nat.zero_le _, rfl, Below.refl _ _⟩
  case round =>
    obtain ⟨k, hk, rfl, hbw⟩ := hrel
    have HBW := Lib.hid hbw
    by_cases hlt : k < n
    · obtain ⟨b, off, rfl, hb, hat⟩ := HS.out.1.1 (by rw [HN.out]; omega)
      obtain ⟨b2, off2, rfl, hb2, hat2⟩ := HS.out.2.1 (by rw [HN.out]; omega)
      obtain ⟨s, hs⟩ : ∃ s, l[k]? = some s := ⟨l[k]'(by rw [HN.out]; exact hlt), List.getElem?_eq_getElem _⟩
      obtain ⟨D1, d1, a0, a1, a2, a3, a4, aD⟩ := (hat k s hs).up hb hbw
      obtain ⟨D2, d2, e0, e1, e2, e3, e4, eD⟩ := (hat2 k s hs).up hb2 hbw
      have hsn := fun W (h : Below wr.heap.size wr W) => samesh_any s D1 D2 d1 d2 W (aD.up h) (eD.up h)
      unfold shv at hsn
      have HSN := Lib.hid hsn
      have g0 := fun d os => cell_regrown a0 d os
      have g1 := fun d os => cell_regrown a1 d os
      have g2 := fun d os => cell_regrown a2 d os
      have g3 := fun d os => cell_regrown a3 d os
      have g4 := fun d os => cell_regrown a4 d os
      have f0 := fun d os => cell_regrown e0 d os
      have f1 := fun d os => cell_regrown e1 d os
      have f2 := fun d os => cell_regrown e2 d os
      have f3 := fun d os => cell_regrown e3 d os
      have f4 := fun d os => cell_regrown e4 d os
      have i1 : (0 : Int) ≤ (k : Int) := by omega
      have i2 : (k : Int) < (n : Int) := by omega
      clear a0 a1 a2 a3 a4 e0 e1 e2 e3 e4 aD eD hsn hat hat2 hs hbw
      generalize s.data.length = sl at *
      go_wp2_with fail
      refine wp_region_quiet_below (by kernel_rfl) (by kernel_rfl) ?_
      repeat (quiet_step ((go_at_call 27; exact Calls.regrownAll HSN.out _ _)))
      refine wpQuiet_nil ?_
      intro w6 hw'
      have hb6 : Below wr.heap.size wr w6 := by
        obtain ⟨p, rfl⟩ := hw'
        exact below_regrown wr p.d p.os
      have B6 := Lib.hid (HBW.out.trans (hb6.mono HBW.out.size))
      clear hw' hb6 g0 g1 g2 g3 g4 f0 f1 f2 f3 f4 HSN
      go_wp2_with fail
      go_roundw
      case rel => exact ⟨k + 1, by omega, by go_num, B6.out⟩
      case measure => simp [intOf]; omega
    · obtain rfl : k = n := by omega
      clear hbw
      go_wp2_with fail
      go_ret
      exact ⟨rfl, HBW.out⟩
end

end
section
open Go.RowKit
set_option linter.unusedVariables false
set_option linter.unusedSimpArgs false

theorem rfl_small (l : List Shr) (coins : List UInt8) : (rfl' l coins).length ≤ l.length := by
  cases l with
  | nil => exact Nat.zero_le _
  | cons a r =>
    unfold rfl'
    simp only
    split
    · rw [List.length_map, List.length_range]; exact Nat.le_refl _
    · exact Nat.zero_le _

set_option maxHeartbeats 4000000 in
set_option maxRecDepth 100000 in
theorem lawEx_any (A0 : Option Addr) (c0 : Nat) (l : List Shr) (A1 : Option Addr) (c1 : Nat) (s : List UInt8) (A5 : Option Addr) (c5 : Nat) (coins : List UInt8) (w : World) (hK : KT w) (hS0 : SS w A0 l c0) (hS1 : Sl w A1 s c1) (hS5 : Sl w A5 coins c5) :
    Calls Tryd.prog 3 #[.slice A0 l.length c0, .slice A1 s.length c1, .slice A5 coins.length c5] w fun e w' => e = .returned (.bool true) ∧ Below w.heap.size w w' := by
  have HS := Lib.hid (sane_any w hK)
  have HFW := Lib.hid (fun w1 (hb : Below w.heap.size w w1) => rfew_any A0 c0 l w1 (hS0.up hb))
  have b0 := Nat.le_trans hS0.2.1 hS0.2.2.1
  have b1 := Nat.le_trans hS1.2.1 hS1.2.2.1
  have b5 := Nat.le_trans hS5.2.1 hS5.2.2.1
  unfold maxLen at b0 b1 b5
  cases hfw : few l with
  | false =>
    rw [hfw] at HFW
    clear hfw hS0 hS1 hS5 hK
    generalize l.length = ln at *
    generalize s.length = n at *
    generalize coins.length = m at *
    go_enter Tryd.func3, Tryd.ntmps3
    go_wp2_with fail
    refine HS.out.mono ?_
    rintro e w1 ⟨rfl, hb1⟩
    go_wp2_with fail
    refine (HFW.out w1 hb1).mono ?_
    rintro e w9 ⟨rfl, rfl⟩
    go_wp2_with fail
    go_ret
    exact ⟨rfl, hb1⟩

  | true =>
    have hl10 : l.length ≤ 10 := by
      unfold few at hfw
      rw [Bool.and_eq_true] at hfw
      exact of_decide_eq_true hfw.2
    rw [hfw] at HFW
    clear hfw
    by_cases p1 : 70 < s.length
    · have d1 : decide ((70 : Int) < (s.length : Int)) = true := decide_eq_true (by omega)
      have d2 : (70 : Int) < (s.length : Int) := by omega
      clear hS0 hS1 hS5 hK
      generalize l.length = ln at *
      generalize s.length = n at *
      generalize coins.length = m at *
      go_enter Tryd.func3, Tryd.ntmps3
      go_wp2_with fail
      refine HS.out.mono ?_
      rintro e w1 ⟨rfl, hb1⟩
      go_wp2_with fail
      refine (HFW.out w1 hb1).mono ?_
      rintro e w9 ⟨rfl, rfl⟩
      go_wp2_with fail
      go_ret
      exact ⟨rfl, hb1⟩

    · have d1 : decide ((70 : Int) < (s.length : Int)) = false := decide_eq_false (by omega)
      have d2 : ¬ (70 : Int) < (s.length : Int) := by omega
      by_cases p2 : 600 < coins.length
      · have d3 : decide ((600 : Int) < (coins.length : Int)) = true := decide_eq_true (by omega)
        have d4 : (600 : Int) < (coins.length : Int) := by omega
        clear hS0 hS1 hS5 hK
        generalize l.length = ln at *
        generalize s.length = n at *
        generalize coins.length = m at *
        go_enter Tryd.func3, Tryd.ntmps3
        go_wp2_with fail
        refine HS.out.mono ?_
        rintro e w1 ⟨rfl, hb1⟩
        go_wp2_with fail
        refine (HFW.out w1 hb1).mono ?_
        rintro e w9 ⟨rfl, rfl⟩
        go_wp2_with fail
        go_ret
        exact ⟨rfl, hb1⟩

      · have d3 : decide ((600 : Int) < (coins.length : Int)) = false := decide_eq_false (by omega)
        have d4 : ¬ (600 : Int) < (coins.length : Int) := by omega
        have HP := Lib.hid (fun w1 (hb : Below w.heap.size w w1) => explain_any A0 A1 c0 c1 l s w1 (hK.below hb) (hS0.up hb) (hS1.up hb) (by omega) (by omega))
        have HQ := Lib.hid (fun w1 (hb : Below w.heap.size w w1) => rexplain_any A0 A1 c0 c1 l s w1 (hS0.up hb) (hS1.up hb) (by omega))
        have HC := Lib.hid (fun w1 (hb : Below w.heap.size w w1) => refresh_any A0 A5 c0 c5 l coins w1 (hK.below hb) (hS0.up hb) (hS5.up hb) (by omega) (by omega))
        have HD := Lib.hid (fun w1 (hb : Below w.heap.size w w1) => rrefresh_any A0 A5 c0 c5 l coins w1 (hS0.up hb) (hS5.up hb) (by omega))
        have hzs := rfl_small l coins
        have HM := Lib.hid (fun (A A' : Option Addr) (c c' : Nat) w1 (hs : SS w1 A (rfl' l coins) c) (hs' : SS w1 A' (rfl' l coins) c') => sames_any A A' c c' (rfl' l coins).length (rfl' l coins) w1 hs hs' rfl (by omega))
        unfold ExPost at HP HQ
        unfold RfPost at HC HD
        obtain ⟨J, hJ⟩ : ∃ J, ex l s = J := ⟨_, rfl⟩
        obtain ⟨jl, hjl⟩ : ∃ jl, J.length = jl := ⟨_, rfl⟩
        rw [hJ, hjl] at HP HQ
        have HST := Lib.hid (fun (A : Option Addr) (c : Nat) (w' : World) (h : Sl w' A J c) => sl_str h hjl)
        clear hS0 hS1 hS5 hK hJ hjl
        generalize exe l s = E1 at *
        generalize rfl' l coins = Z at *
        generalize rfe l coins = E at *
        generalize Z.length = zn at *
        generalize l.length = ln at *
        generalize s.length = n at *
        generalize coins.length = m at *
        go_enter Tryd.func3, Tryd.ntmps3
        go_wp2_with fail
        refine HS.out.mono ?_
        rintro e w1 ⟨rfl, hb1⟩
        go_wp2_with fail
        refine (HFW.out w1 hb1).mono ?_
        rintro e w9 ⟨rfl, rfl⟩

        go_wp2_with fail
        refine (HP.out w1 hb1).mono ?_
        rintro e w2 ⟨A2, c2, rfl, hs2, hb2⟩
        have H2 := Lib.hid (And.intro hs2 (hb1.trans (hb2.mono hb1.size)))
        clear hs2 hb2 hb1
        go_wp2_with fail
        refine (HQ.out w2 H2.out.2).mono ?_
        rintro e w3 ⟨A3, c3, rfl, hs3, hb3⟩
        have H3 := Lib.hid (And.intro (H2.out.1.up hb3) (And.intro hs3 (H2.out.2.trans (hb3.mono H2.out.2.size))))
        clear hs3 hb3 H2
        go_wp2_with fail
        refine (HC.out w3 H3.out.2.2).mono ?_
        rintro e w4 ⟨A6, c6, rfl, hs4, hb4⟩
        have H4 := Lib.hid (And.intro (And.intro (H3.out.1.up hb4) (H3.out.2.1.up hb4)) (And.intro hs4 (H3.out.2.2.trans (hb4.mono H3.out.2.2.size))))
        clear hs4 hb4 H3
        go_wp2_with fail
        refine (HD.out w4 H4.out.2.2).mono ?_
        rintro e w5 ⟨A7, c7, rfl, hs5, hb5⟩
        have H5 := Lib.hid (And.intro (And.intro (H4.out.1.1.up hb5) (H4.out.1.2.up hb5)) (And.intro (H4.out.2.1.up hb5) (And.intro hs5 (H4.out.2.2.trans (hb5.mono H4.out.2.2.size)))))
        clear hs5 hb5 H4
        have hq1 := HST.out _ _ _ H5.out.1.1
        have hq2 := HST.out _ _ _ H5.out.1.2
        go_wp2_with fail
        refine (HM.out A6 A7 c6 c7 w5 H5.out.2.1 H5.out.2.2.1).mono ?_
        rintro e w6 ⟨rfl, hb6⟩
        have HB := Lib.hid (H5.out.2.2.2.trans (hb6.mono H5.out.2.2.2.size))
        clear hb6 hq1 hq2
        go_wp2_with fail
        go_ret
        exact ⟨rfl, HB.out⟩

end
end Go.Proofs.YtjkojjimlebmjaaDoor
