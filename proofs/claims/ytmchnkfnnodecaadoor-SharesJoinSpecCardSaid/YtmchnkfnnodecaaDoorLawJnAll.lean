/- RMul Lat Sumq OwB RfFew RfAlike RfCheck RfPts RfThr RfLag RfPoi RfJoin LawJn in one text (for the limit of files). -/
import Derived.Test.YtmchnkfnnodecaaDoorInv
import Derived.Test.YtmchnkfnnodecaaDoorMem
import Derived.OrdersHeld
import Derived.Deep.RegionHeld
import Derived.Test.YtmchnkfnnodecaaDoorAnyP
import Derived.Test.YtmchnkfnnodecaaDoorSum
import Derived.Test.YtmchnkfnnodecaaDoorSh
import Derived.LoopTactic
import Derived.Test.YtmchnkfnnodecaaDoorAlike
import Derived.Deep.QuietTactic
import Derived.BigQuiet
import Derived.Deep.Cut
import Derived.Deep.CutRange
import Derived.Test.YtmchnkfnnodecaaDoorCheck
import Derived.Test.YtmchnkfnnodecaaDoorSl
import Derived.Test.YtmchnkfnnodecaaDoorTail
import Derived.Test.YtmchnkfnnodecaaDoorAdd
import Derived.Deep.RegionHeld3
import Derived.Test.YtmchnkfnnodecaaDoorCol
import Derived.Deep.AppendLies
import Derived.Test.YtmchnkfnnodecaaDoorJoin
import Derived.Test.YtmchnkfnnodecaaDoorExP
import Derived.Test.YtmchnkfnnodecaaDoorSane
namespace Go.Proofs.YtmchnkfnnodecaaDoor
section
open Go.RowKit
set_option linter.unusedVariables false

/-- The reduction, one power after the other: j steps. -/
def rs (p : Nat) : Nat → Nat
  | 0 => p
  | j + 1 => if (rs p j).testBit (14 - j) then rs p j ^^^ 283 <<< (6 - j) else rs p j
theorem rs_lt (p : Nat) (hp : p < 32768) : ∀ j, rs p j < 32768
  | 0 => hp
  | j + 1 => by
    have ih := rs_lt p hp j
    have h2 : (283 : Nat) <<< (6 - j) < 2 ^ 15 := by
      have h1 : 2 ^ (6 - j) ≤ 2 ^ 6 := Nat.pow_le_pow_right (by omega) (by omega)
      rw [Nat.shiftLeft_eq]
      have := Nat.mul_le_mul (Nat.le_refl 283) h1
      omega
    unfold rs
    split
    · exact Nat.xor_lt_two_pow (n := 15) ih h2
    · exact ih
theorem rs_xor (p q : Nat) : ∀ j, rs (p ^^^ q) j = rs p j ^^^ rs q j
  | 0 => rfl
  | j + 1 => by
    simp only [rs]
    rw [rs_xor p q j, Nat.testBit_xor]
    generalize rs p j = x
    generalize rs q j = y
    generalize (283 : Nat) <<< (6 - j) = z
    cases x.testBit (14 - j) <;> cases y.testBit (14 - j)
    · rfl
    · exact Nat.xor_assoc x y z
    · show (x ^^^ y) ^^^ z = (x ^^^ z) ^^^ y
      rw [Nat.xor_assoc, Nat.xor_comm y z, Nat.xor_assoc]
    · show x ^^^ y = (x ^^^ z) ^^^ (y ^^^ z)
      rw [xor4, Nat.xor_self, Nat.xor_zero]
/-- Two functions that keep sums and agree at the single bits agree. -/
theorem lin_all (N : Nat) (f g : Nat → Nat) (hf : ∀ x y, x < 2 ^ N → y < 2 ^ N → f (x ^^^ y) = f x ^^^ f y) (hg : ∀ x y, x < 2 ^ N → y < 2 ^ N → g (x ^^^ y) = g x ^^^ g y)
    (h : ∀ i, i < N → f (2 ^ i) = g (2 ^ i)) : ∀ k, k ≤ N → ∀ p, p < 2 ^ k → f p = g p
  | 0, _, p, hp => by
    obtain rfl : p = 0 := by simpa using hp
    have e1 := hf 0 0 (Nat.two_pow_pos N) (Nat.two_pow_pos N)
    have e2 := hg 0 0 (Nat.two_pow_pos N) (Nat.two_pow_pos N)
    rw [Nat.xor_self] at e1 e2
    rw [Nat.xor_self] at e1 e2
    rw [e1, e2]
  | k + 1, hk, p, hp => by
    by_cases hlt : p < 2 ^ k
    · exact lin_all N f g hf hg h k (by omega) p hlt
    · have hN : 2 ^ k < 2 ^ N := Nat.pow_lt_pow_right (by omega) (by omega)
      have hpb : p / 2 ^ k = 1 := by
        apply Nat.div_eq_of_lt_le
        · omega
        · rw [Nat.pow_succ] at hp; omega
      have hq : p ^^^ 2 ^ k < 2 ^ k := by
        apply Nat.lt_pow_two_of_testBit
        intro i hi
        rw [Nat.testBit_xor, Nat.testBit_two_pow]
        by_cases e : k = i
        · subst e
          rw [Nat.testBit_eq_decide_div_mod_eq, hpb]
          simp
        · rw [Nat.testBit_lt_two_pow (Nat.lt_of_lt_of_le hp (Nat.pow_le_pow_right (by omega) (by omega)))]
          simp [e]
      have e : p = (p ^^^ 2 ^ k) ^^^ 2 ^ k := by rw [Nat.xor_assoc, Nat.xor_self, Nat.xor_zero]
      have ih := lin_all N f g hf hg h k (by omega) _ hq
      rw [e, hf _ _ (Nat.lt_trans hq hN) hN, hg _ _ (Nat.lt_trans hq hN) hN, ih, h k (by omega)]
theorem rs_red (p : Nat) (hp : p < 32768) : rs p 7 = red p := by
  have hd : allB (fun i => rs (2 ^ i) 7 == red (2 ^ i)) 15 = true := by decide +kernel
  exact lin_all 15 (fun p => rs p 7) red (fun x y _ _ => rs_xor x y 7) (fun x y hx hy => red_xor x y hx hy) (fun i hi => by simpa using allB_at hd i hi) 15 (Nat.le_refl _) p hp
theorem bit_rem (p k : Nat) : ((p : Int) / 2 ^ k).tmod 2 = if p.testBit k then 1 else 0 := by
  have h1 : ((p : Int) / 2 ^ k) = ((p / 2 ^ k : Nat) : Int) := by simp
  rw [h1, Nat.testBit_eq_decide_div_mod_eq]
  generalize p / 2 ^ k = d
  rw [Int.tmod_eq_emod_of_nonneg (by omega)]
  by_cases e : d % 2 = 1
  · rw [if_pos (decide_eq_true e)]; omega
  · rw [if_neg (by rw [decide_eq_false e]; simp)]; omega

theorem red_int (q j : Nat) (hq : q < 32768) (hj : j < 7) : bits .xor .i64 (rs q j : Int) (wrap64 (283 * 2 ^ (14 - j - 8))) = ((rs q j ^^^ 283 <<< (6 - j) : Nat) : Int) := by
  have h1 := rs_lt q hq j
  have h2 : (283 : Nat) <<< (6 - j) < 2 ^ 15 := by
    have h1 : 2 ^ (6 - j) ≤ 2 ^ 6 := Nat.pow_le_pow_right (by omega) (by omega)
    rw [Nat.shiftLeft_eq]
    have := Nat.mul_le_mul (Nat.le_refl 283) h1
    omega
  have h3 : (283 : Int) * (2 : Int) ^ (14 - j - 8) = (((283 : Nat) <<< (6 - j) : Nat) : Int) := by
    rw [Nat.shiftLeft_eq, show 14 - j - 8 = 6 - j by omega]
    simp
  rw [h3]
  generalize (283 : Nat) <<< (6 - j) = z at *
  rw [IntWalk.wrap64_in _ ⟨by omega, by omega⟩, xor_i _ _ (by omega) (by omega)]

set_option maxHeartbeats 400000 in
set_option maxRecDepth 100000 in
theorem rmul_any (a b : UInt8) (w : World) :
    Calls Tryd.prog 55 #[bv a, bv b] w fun e w' => e = .returned (bv (gm a b)) ∧ w = w' := by
  have e0 : bv (gm a b) = .int .u8 (rs (pr a.toNat b.toNat 8) 7 : Int) := by
    unfold bv
    rw [gm_nat, rs_red _ (pr8_lt _ _ (u8_lt a))]
    rfl
  rw [e0]
  clear e0
  unfold bv
  have ha := u8_lt a
  have hb := u8_lt b
  have hp8 := pr8_lt a.toNat b.toNat ha
  have hr7 : rs (pr a.toNat b.toNat 8) 7 < 256 := by
    rw [rs_red _ hp8]
    exact red2_lt _
  generalize a.toNat = a at *
  generalize b.toNat = b at *
  obtain ⟨q, hq8⟩ : ∃ q, pr a b 8 = q := ⟨_, rfl⟩
  rw [hq8] at hp8 hr7 ⊢
  have HP8 := Lib.hid (And.intro hp8 hr7)
  have HQ8 := Lib.hid hq8
  clear hp8 hr7 hq8
  go_enter Tryd.func55, Tryd.ntmps55
  go_wp2_with fail
  go_loop [5, 6] (fun p i => ∃ k : Nat, k ≤ 8 ∧ i = .int .i64 k ∧ p = .int .i64 (pr a b k : Nat)) (fun _ i => 8 - (intOf i).toNat)
  case atStart => exact ⟨0, by omega, rfl, rfl⟩
  case round =>
    obtain ⟨k, hk, rfl, rfl⟩ := hrel
    by_cases hlt : k < 8
    · have hbit := bit_rem b k
      by_cases ht : b.testBit k = true
      · rw [if_pos ht] at hbit
        go_wp2_with fail
        go_round
        case rel =>
          refine ⟨k + 1, by omega, by go_num, ?_⟩
          simp only [pr]
          rw [if_pos ht]
          exact congrArg (Value.int .i64) (step_int a b k ha hlt)
        case measure => simp [intOf]; omega
      · rw [if_neg ht] at hbit
        go_wp2_with fail
        go_round
        case rel =>
          refine ⟨k + 1, by omega, by go_num, ?_⟩
          simp only [pr]
          rw [if_neg ht]
        case measure => simp [intOf]; omega
    · obtain rfl : k = 8 := by omega
      rw [HQ8.out]
      go_wp2_with fail
      go_loop [5, 7] (fun p i => ∃ j : Nat, j ≤ 7 ∧ i = .int .i64 ((14 - j : Nat) : Int) ∧ p = .int .i64 (rs q j : Nat)) (fun _ i => (intOf i).toNat)
      case atStart => exact ⟨0, by omega, rfl, rfl⟩
      case round =>
        obtain ⟨j, hj, rfl, rfl⟩ := hrel
        by_cases hlt : j < 7
        · have hbit := bit_rem (rs q j) (14 - j)
          have hq := rs_lt q HP8.out.1 j
          have HQ := Lib.hid hq
          have hi : 8 ≤ 14 - j := by omega
          have hi2 : 14 - j ≤ 14 := by omega
          by_cases ht : (rs q j).testBit (14 - j) = true
          · rw [if_pos ht] at hbit
            go_wp2_with fail
            go_round
            case rel =>
              refine ⟨j + 1, by omega, by rw [show ((14 - (j + 1) : Nat) : Int) = ((14 - j : Nat) : Int) - 1 by omega], ?_⟩
              simp only [rs]
              rw [if_pos ht]
              exact congrArg (Value.int .i64) (red_int q j HP8.out.1 hlt)
            case measure => simp [intOf]; omega
          · rw [if_neg ht] at hbit
            go_wp2_with fail
            go_round
            case rel =>
              refine ⟨j + 1, by omega, by rw [show ((14 - (j + 1) : Nat) : Int) = ((14 - j : Nat) : Int) - 1 by omega], ?_⟩
              simp only [rs]
              rw [if_neg ht]
            case measure => simp [intOf]; omega
        · obtain rfl : j = 7 := by omega
          have hq := HP8.out.2
          go_wp2_with fail
          go_ret
          exact ⟨rfl, rfl⟩

/-- The inverse and the error. -/
def iv (a : UInt8) : UInt8 := if a = 0 then 0 else ginv a
def ie (a : UInt8) : Int := if a = 0 then 1 else 0
theorem iv_zero : iv 0 = 0 ∧ ie 0 = 1 := ⟨rfl, rfl⟩
theorem iv_pos {a : UInt8} (h : a ≠ 0) : iv a = ginv a ∧ ie a = 0 := ⟨if_neg h, if_neg h⟩
theorem u8_of {a : UInt8} {k : Nat} (h : k < 256) (e : UInt8.ofNat k = a) : k = a.toNat := by
  rw [← e, UInt8.toNat_ofNat_of_lt' (by simpa [UInt8.size] using h)]
set_option maxHeartbeats 400000 in
set_option maxRecDepth 100000 in
theorem rinv_any (a : UInt8) (w : World) :
    Calls Tryd.prog 74 #[bv a] w fun e w' => e = .returned (.tuple #[bv (iv a), .int .i64 (ie a)]) ∧ w = w' := by
  have hM : ∀ k : Nat, k < 256 → Calls Tryd.prog 55 #[bv a, .int .u8 (k : Int)] w fun e w' => e = .returned (.int .u8 ((gm a (UInt8.ofNat k)).toNat : Int)) ∧ w = w' := fun k hk => by
    rw [← bv_of k hk]
    exact rmul_any a (UInt8.ofNat k) w
  have HM := Lib.hid hM
  clear hM
  generalize hAV : bv a = av at *
  go_enter Tryd.func74, Tryd.ntmps74
  go_wp2_with fail
  go_loop [4] (fun i => ∃ k : Nat, 1 ≤ k ∧ k ≤ 256 ∧ i = .int .i64 k ∧ ∀ j, 1 ≤ j → j < k → gm a (UInt8.ofNat j) ≠ 1) (fun i => 256 - (intOf i).toNat)
  case atStart => exact ⟨1, by omega, by omega, rfl, fun j h1 h2 => by omega⟩
  case round =>
    obtain ⟨k, hk1, hk, rfl, hno⟩ := hrel
    have HNO := Lib.hid hno
    clear hno
    by_cases hlt : k < 256
    · have HMK := Lib.hid (HM.out k hlt)
      obtain ⟨z, hz⟩ : ∃ z, gm a (UInt8.ofNat k) = z := ⟨_, rfl⟩
      rw [hz] at HMK
      have HZ := Lib.hid hz
      clear hz
      by_cases h1 : z = 1
      · subst h1
        go_wp2_with fail
        refine HMK.out.mono ?_
        rintro e w1 ⟨rfl, rfl⟩
        go_wp2_with fail
        go_ret2
        have hu := inv_unique HZ.out
        have ha : a ≠ 0 := by
          rintro rfl
          have := HZ.out
          rw [zero_gm] at this
          exact absurd this (by decide)
        refine ⟨?_, rfl⟩
        rw [(iv_pos ha).1, (iv_pos ha).2, ← hu, bv_of k hlt]
        rfl
      · have hd : ((z.toNat : Int) == 1) = false := by
          rw [beq_eq_false_iff_ne]
          exact fun e => h1 (bv_inj.1 (e.trans rfl))
        go_wp2_with fail
        refine HMK.out.mono ?_
        rintro e w1 ⟨rfl, rfl⟩
        go_wp2_with fail
        go_round
        case rel =>
          refine ⟨k + 1, by omega, by omega, by go_num, fun j hj1 hj2 => ?_⟩
          by_cases e : j = k
          · subst e
            rw [HZ.out]
            exact h1
          · exact HNO.out j hj1 (by omega)
        case measure => simp [intOf]; omega
    · obtain rfl : k = 256 := by omega
      have ha : a = 0 := by
        refine Classical.byContradiction fun ha => ?_
        have h0 := inv_ne a ha
        have h1 := HNO.out (ginv a).toNat (by
          rcases Nat.eq_zero_or_pos (ginv a).toNat with e | e
          · exact absurd (UInt8.toNat_inj.1 (e.trans rfl)) h0
          · exact e) (u8_lt _)
        rw [UInt8.ofNat_toNat] at h1
        exact h1 (gm_inv a ha)
      go_wp2_with fail
      go_ret2
      refine ⟨?_, rfl⟩
      subst ha
      rfl

end
section
set_option linter.unusedVariables false
section
variable {P : Program} {md : Region.Mode} {ops : Array Oper} {Q : Exit → Act → World → Prop} {st : Nat} {D : World → Prop}

/-- D holds as long as operation st has not come up. -/
def Lt (st : Nat) (D : World → Prop) (listed : Array Bool) (w : World) : Prop := listed.getD st true = false → D w
def wpAnyL (P : Program) (md : Region.Mode) (ops : Array Oper) (Q : Exit → Act → World → Prop) (st : Nat) (D : World → Prop) : Nat → Array Bool → Act → World → Prop
  | 0, listed, a, w => Region.ready md ops listed = [] ∧ Q .normal a w
  | fuel + 1, listed, a, w =>
    (Region.ready md ops listed = [] → Q .normal a w) ∧
    ∀ i ∈ Region.ready md ops listed, wpOp P ops Q i (fun a' w' => Lt st D (listed.setIfInBounds i true) w' ∧ wpAnyL P md ops Q st D fuel (listed.setIfInBounds i true) a' w') a w
theorem wpAny_of_later : ∀ (fuel : Nat) (listed : Array Bool) (a : Act) (w : World), wpAnyL P md ops Q st D fuel listed a w → wpAny P md ops Q fuel listed a w
  | 0, _, _, _, h => h
  | fuel + 1, _, _, _, h => ⟨h.1, fun i hi => wpOp_mono (fun a' w' h' => wpAny_of_later fuel _ a' w' h'.2) (h.2 i hi)⟩
theorem wpAnyL_first {i : Nat} {oi : Oper} {v : Value} (hi : ops[i]? = some oi) (hsel : ∀ (j : Nat) (o : Oper) cs b, ops[j]? = some o → o.op ≠ .select cs b)
    (hQ : ∀ c a w, Q (.panic c) (a.put oi.dst v) w → Q (.panic c) a w) (hne : i ≠ st) {os : Oper} (hos : ops[st]? = some os) (hst : ∃ e ∈ os.after, Region.binds md e = true ∧ e.on = i) :
    ∀ (fuel : Nat) (listed : Array Bool) (a : Act) (w : World),
      (∀ j oj, ops[j]? = some oj → j ≠ i → listed.getD j true = false → (∀ e ∈ oj.after, Region.binds md e = true → e.on ≠ i) → oi.apart ops oj = true) →
      i ∈ Region.ready md ops listed → listed.getD st true = false → YieldsIf P ops D oi v a → D w →
      wpAnyL P md ops Q st D fuel (listed.setIfInBounds i true) (a.put oi.dst v) w → wpAnyL P md ops Q st D (fuel + 1) listed a w := by
  intro fuel
  induction fuel with
  | zero =>
    intro listed a w _ hr hs hy hS H
    refine ⟨fun h => (by rw [h] at hr; cases hr), fun j hj => ?_⟩
    by_cases hji : j = i
    · subst hji; exact hy.wpOp hi hS ⟨fun _ => hS, H⟩
    · have := ready_mono hj hji
      rw [H.1] at this
      cases this
  | succ fuel ih =>
    intro listed a w hfree hr hs hy hS H
    refine ⟨fun h => (by rw [h] at hr; cases hr), fun j hj => ?_⟩
    by_cases hji : j = i
    · subst hji; exact hy.wpOp hi hS ⟨fun _ => hS, H⟩
    · have h1 := H.2 j (ready_mono hj hji)
      obtain ⟨hjun, oj, hoj, hall⟩ := mem_ready.1 hj
      have hnot : ∀ e ∈ oj.after, Region.binds md e = true → e.on ≠ i := fun e he hb heq => by
        have h1 := hall e he hb
        have h0 := (mem_ready.1 hr).1
        rw [heq] at h1
        rcases Nat.lt_or_ge i listed.size with h' | h'
        · simp [h'] at h0 h1; rw [h0] at h1; cases h1
        · simp [Array.getElem?_eq_none h'] at h1
      have hjst : j ≠ st := fun e => by
        subst e
        rw [hoj] at hos
        cases hos
        obtain ⟨e, he, hb, ho⟩ := hst
        exact hnot e he hb ho
      have h2 := wpOp_putIf hoj (hfree j oj hoj hji hjun hnot) (fun cs b => hsel i oi cs b hi) (fun cs b => hsel j oj cs b hoj) hQ hy h1
      have hfree' : ∀ k ok, ops[k]? = some ok → k ≠ i → (listed.setIfInBounds j true).getD k true = false →
          (∀ e ∈ ok.after, Region.binds md e = true → e.on ≠ i) → oi.apart ops ok = true := fun k ok hk hki hun hno => by
        refine hfree k ok hk hki ?_ hno
        by_cases hjk : j = k
        · subst hjk; exact hjun
        · rw [getD_set_ne true hjk] at hun; exact hun
      have hs2 : (listed.setIfInBounds j true).getD st true = false := by rw [getD_set_ne true hjst]; exact hs
      have hD : ∀ w', Lt st D ((listed.setIfInBounds i true).setIfInBounds j true) w' → D w' := fun w' h => h (by rw [getD_set_ne true hjst, getD_set_ne true hne]; exact hs)
      refine wpOp_mono (fun a' w' h3 => ⟨fun _ => hD w' h3.2.1, ih (listed.setIfInBounds j true) a' w' hfree' (ready_mono hr (Ne.symm hji)) hs2 h3.1 (hD w' h3.2.1) ?_⟩) h2
      rw [Array.setIfInBounds_comm _ _ hji]
      exact h3.2.2
/-- An operation is taken first; its slot is told. -/
theorem takeL {i : Nat} {oi os : Oper} {d : Option Tmp} {v : Value} {fuel : Nat} {listed : Array Bool} {a : Act} {w : World} (hi : ops[i]? = some oi) (hd : oi.dst = d) (hs : Region.noSelect ops = true) (hf : Region.free md ops listed i = true)
    (hr : (Region.ready md ops listed).contains i = true) (hQ : ∀ c a w, Q (.panic c) (a.put oi.dst v) w → Q (.panic c) a w) (hos : ops[st]? = some os) (hst : (i != st && !(listed.getD st true) && os.after.any (fun e => Region.binds md e && e.on == i)) = true)
    (hy : YieldsIf P ops D oi v a) (hD : D w) (h : wpAnyL P md ops Q st D fuel (listed.setIfInBounds i true) (a.put d v) w) : wpAnyL P md ops Q st D (fuel + 1) listed a w := by
  simp only [Bool.and_eq_true, bne_iff_ne, ne_eq, Bool.not_eq_true'] at hst
  refine wpAnyL_first hi (Region.noSelect_spec hs) hQ hst.1.1 hos ?_ fuel listed a w (Region.free_spec hi hf) (by simpa using hr) hst.1.2 hy hD (hd ▸ h)
  obtain ⟨k, hk, he⟩ := Array.any_eq_true.1 hst.2
  simp only [Bool.and_eq_true, beq_iff_eq] at he
  exact ⟨_, Array.getElem_mem hk, he⟩
/-- The only operation that may come up. -/
theorem oneL {i : Nat} {o : Oper} {fuel : Nat} {listed : Array Bool} {a : Act} {w : World} (hr : Region.ready md ops listed = [i]) (ho : ops[i]? = some o)
    (h : ∀ K' : Act → World → Prop, Shut (∀ a w, Lt st D (listed.setIfInBounds i true) w → wpAnyL P md ops Q st D fuel (listed.setIfInBounds i true) a w → K' a w) → if Region.wanted o (yielded ops a.tmps) = true then Oper.wp P o a w K' Q else K' (a.put o.dst undef) w) :
    wpAnyL P md ops Q st D (fuel + 1) listed a w := by
  refine ⟨fun h0 => absurd (hr ▸ h0) (by simp), fun j hj => ?_⟩
  rw [hr] at hj
  rw [List.mem_singleton.1 hj]
  exact wpOp_step ho (fun K' hK => h K' (fun a w hS hW => hK a w ⟨hS, hW⟩))
theorem doneL {listed : Array Bool} {a : Act} {w : World} (hr : Region.ready md ops listed = []) (h : Q .normal a w) : ∀ fuel, wpAnyL P md ops Q st D fuel listed a w
  | 0 => ⟨hr, h⟩
  | _ + 1 => ⟨fun _ => h, by rw [hr]; simp⟩
theorem wp_region_later {id : Nat} {a : Act} {w : World} (st : Nat) (D : World → Prop) (hm : P.follows .mixedOrders = true)
    (h : wpAnyL P .any ops Q st D ops.size (Array.replicate ops.size false) a w.drew) : (Code.region id ops true).wp P Q a w := wp_region_any hm (wpAny_of_later _ _ _ _ h)
end

end
section
set_option linter.unusedVariables false

theorem hv_xor (x : UInt8) : ∀ (l v : List UInt8), l.length = v.length → hv (List.zipWith (· ^^^ ·) l v) x = hv l x ^^^ hv v x
  | [], [], _ => by simp [hv]
  | a :: l, b :: v, h => by
    show (a ^^^ b) ^^^ gm x (hv (List.zipWith (· ^^^ ·) l v) x) = (a ^^^ gm x (hv l x)) ^^^ (b ^^^ gm x (hv v x))
    rw [hv_xor x l v (by simpa using h), gm_right]
    exact x4 _ _ _ _
theorem sumb_zip {a b : List UInt8} (h : a.length = b.length) : sumb a b = List.zipWith (· ^^^ ·) a b := by
  apply List.ext_getElem
  · rw [sumb_length, List.length_zipWith]; omega
  · intro i h1 h2
    rw [sumb_length] at h1
    simp only [sumb, List.getElem_map, List.getElem_range, List.getElem_zipWith]
    rw [List.getD_eq_getElem?_getD, List.getD_eq_getElem?_getD, List.getElem?_eq_getElem h1, List.getElem?_eq_getElem (by omega : i < b.length)]
    rfl
theorem sumb_getD {a b : List UInt8} (h : a.length = b.length) (i : Nat) : (sumb a b).getD i 0 = a.getD i 0 ^^^ b.getD i 0 := by
  rw [sumb_zip h]
  simp only [List.getD_eq_getElem?_getD]
  by_cases hi : i < a.length
  · rw [List.getElem?_zipWith, List.getElem?_eq_getElem hi, List.getElem?_eq_getElem (by omega : i < b.length)]
    rfl
  · rw [List.getElem?_eq_none (by rw [List.length_zipWith]; omega), List.getElem?_eq_none (by omega), List.getElem?_eq_none (by omega)]
    rfl
theorem pcf_sum {a b p q : List UInt8} (each i : Nat) (h : a.length = b.length) (hp : p.length = q.length) : pcf (sumb a b) (sumb p q) each i = List.zipWith (· ^^^ ·) (pcf a p each i) (pcf b q each i) := by
  unfold pcf
  rw [sumb_getD h, sumb_zip hp, List.drop_zipWith, List.take_zipWith]
  rfl
theorem pols_getD {s coins : List UInt8} {each k : Nat} (h : k < s.length) : (pols s coins each).getD k [] = pcf s coins each k := by
  unfold pols
  rw [List.getD_eq_getElem?_getD, List.getElem?_map, List.getElem?_range h]
  rfl
theorem psh_data {s coins : List UInt8} {each i k : Nat} {ep th mn : Int} (h : k < s.length) : (psh ep th mn (pols s coins each) i).data.getD k 0 = hv (pcf s coins each k) (UInt8.ofNat (i + 1)) := by
  show (((List.range (pols s coins each).length).map fun k => hv ((pols s coins each).getD k []) (UInt8.ofNat (i + 1))).getD k 0) = _
  rw [pols_length, List.getD_eq_getElem?_getD, List.getElem?_map, List.getElem?_range h]
  show hv ((pols s coins each).getD k []) _ = _
  rw [pols_getD h]
theorem psh_len {s coins : List UInt8} {each i : Nat} {ep th mn : Int} : (psh ep th mn (pols s coins each) i).data.length = s.length := by simp [psh, pols]
/-- A share of the sum. -/
theorem psh_sum {a b p q : List UInt8} {each i : Nat} {ep ep2 th mn : Int} (h : a.length = b.length) (hp : p.length = a.length * each) (hq : q.length = b.length * each) :
    psh ep th mn (pols (sumb a b) (sumb p q) each) i = rsh (psh ep th mn (pols a p each) i) (psh ep2 th mn (pols b q each) i) := by
  have hd : (psh ep th mn (pols (sumb a b) (sumb p q) each) i).data = sumb (psh ep th mn (pols a p each) i).data (psh ep2 th mn (pols b q each) i).data := by
    apply List.ext_getElem
    · rw [psh_len, sumb_length, sumb_length, psh_len]
    · intro k h1 h2
      rw [psh_len, sumb_length] at h1
      have e1 : (psh ep th mn (pols (sumb a b) (sumb p q) each) i).data.getD k 0 = hv (pcf (sumb a b) (sumb p q) each k) (UInt8.ofNat (i + 1)) := psh_data (by rw [sumb_length]; exact h1)
      have e2 : (sumb (psh ep th mn (pols a p each) i).data (psh ep2 th mn (pols b q each) i).data).getD k 0 = hv (pcf a p each k) (UInt8.ofNat (i + 1)) ^^^ hv (pcf b q each k) (UInt8.ofNat (i + 1)) := by
        rw [sumb_getD (by rw [psh_len, psh_len]; exact h), psh_data h1, psh_data (by omega)]
      rw [pcf_sum each k h (by rw [hp, hq, h]), hv_xor _ _ _ (by rw [pcf_length hp h1, pcf_length hq (by omega)]), ← e2] at e1
      rw [List.getD_eq_getElem?_getD, List.getD_eq_getElem?_getD, List.getElem?_eq_getElem (by rw [psh_len, sumb_length]; exact h1), List.getElem?_eq_getElem h2] at e1
      exact e1
  unfold rsh
  rw [← hd]
  rfl
theorem spe_of {s coins : List UInt8} {ep th mn : Int} (h1 : s.length ≤ 64) (h2 : 1 ≤ th ∧ th ≤ mn ∧ mn ≤ 8) (h3 : 0 ≤ ep ∧ ep ≤ 1048576) (h4 : coins.length = s.length * (th.toNat - 1)) : spe s ep th mn coins = 0 := by
  unfold spe
  rw [if_neg (by omega), if_neg (fun h => h h2), if_neg (fun h => h h3), if_neg (fun h => h h4)]
theorem spl_length {s coins : List UInt8} {ep th mn : Int} (h : spe s ep th mn coins = 0) : (spl s ep th mn coins).length = mn.toNat := by
  rw [spl_eq h]; simp
theorem spl_at {s coins : List UInt8} {ep th mn : Int} (h : spe s ep th mn coins = 0) {i : Nat} (hi : i < mn.toNat) : (spl s ep th mn coins)[i]? = some (psh ep th mn (pols s coins (th.toNat - 1)) i) := by
  rw [spl_eq h, List.getElem?_map, List.getElem?_range hi]
  rfl
/-- Sums of shares are the shares of the sum. -/
theorem spl_sum {a b p q : List UInt8} {ep ep2 th mn : Int} (ha : spe a ep th mn p = 0) (hb : spe b ep2 th mn q = 0) (h : a.length = b.length) :
    spe (sumb a b) ep th mn (sumb p q) = 0 ∧ ∀ (i : Nat) (u v : Shr), (spl a ep th mn p)[i]? = some u → (spl b ep2 th mn q)[i]? = some v → (spl (sumb a b) ep th mn (sumb p q))[i]? = some (rsh u v) := by
  obtain ⟨h1, h2, h3, h4⟩ := spe_zero ha
  obtain ⟨_, _, _, h5⟩ := spe_zero hb
  have h0 : spe (sumb a b) ep th mn (sumb p q) = 0 := spe_of (by rw [sumb_length]; exact h1) h2 h3 (by rw [sumb_length, sumb_length]; exact h4)
  refine ⟨h0, fun i u v hu hv' => ?_⟩
  have hi : i < mn.toNat := by
    have := (List.getElem?_eq_some_iff.1 hu).1
    rw [spl_length ha] at this
    exact this
  rw [spl_at ha hi] at hu
  rw [spl_at hb hi] at hv'
  cases hu
  cases hv'
  rw [spl_at h0 hi, psh_sum h h4 h5]

end
section
open Go.RowKit
set_option linter.unusedVariables false
set_option linter.unusedSimpArgs false

/-- Two rows of two types lie in two blocks. -/
theorem own_types {w : World} {B1 B2 s1 s2 n1 n2 : Nat} {e1 e2 : TypeId} {v1 v2 : Value} {xs1 xs2 : List Value} (h1 : w.ownsRow B1 e1 s1 v1 n1 xs1) (h2 : w.ownsRow B2 e2 s2 v2 n2 xs2) (hne : e1 ≠ e2) : v1.ownBlock = none ∨ v1.ownBlock ≠ v2.ownBlock := by
  rcases h1.2 with ⟨hv, _⟩ | ⟨g, cap, cur, hv, _, hg, _⟩
  · subst hv
    exact .inl rfl
  · subst hv
    refine .inr (fun e => ?_)
    rcases h2.2 with ⟨hv2, _⟩ | ⟨g2, cap2, cur2, hv2, _, hg2, _⟩
    · subst hv2
      cases e
    · subst hv2
      injection e with e
      simp only at e
      subst e
      rw [hg] at hg2
      injection hg2 with hg2
      injection hg2 with _ hg2
      exact hne hg2
theorem box_own {w : World} {b B s n : Nat} {cs : Array Value} {t e : TypeId} {v : Value} {xs : List Value} (hb : Box w b cs t) (h : w.ownsRow B e s v n xs) (hne : t ≠ e) : v.ownBlock ≠ some b := by
  intro e1
  rcases h.2 with ⟨hv, _⟩ | ⟨g, cap, cur, hv, _, hg, _⟩
  · subst hv
    cases e1
  · subst hv
    injection e1 with e1
    simp only at e1
    subst e1
    unfold Box at hb
    rw [hb] at hg
    injection hg with hg
    injection hg with _ hg
    exact hne hg
theorem Sl.of_own {w : World} {B d : Nat} {D : Option Addr} {l : List UInt8} (h : w.ownsRow B 5 1 (.slice D l.length d) l.length (l.map bv)) : Sl w D l d := by
  have h1 := Bs.of_own h
  refine ⟨h1.1, h1.2.1, h1.2.2, fun hA => ?_⟩
  subst hA
  rcases h.2 with ⟨hv, hn⟩ | ⟨g, cap, cur, hv, _⟩
  · injection hv with _ _ hc
    exact ⟨List.length_eq_zero_iff.1 hn, hc⟩
  · injection hv with hv
    cases hv
def OB (w0 w : World) (A : Option Addr) (c : Nat) (l : List Shr) : Prop := ∃ bs : List (List Value), bs.length = l.length ∧ (∀ b ∈ bs, b.length = 5) ∧ w.ownsRow w0.heap.size 41 5 (.slice A l.length c) l.length bs.flatten ∧
  ∀ (i : Nat) (s : Shr), l[i]? = some s → ∃ D d, bs[i]? = some (shc s D d) ∧ w.ownsRow w0.heap.size 5 1 (.slice D s.data.length d) s.data.length (s.data.map bv)
theorem OB.nil (w0 w : World) : OB w0 w none 0 [] := ⟨[], rfl, by simp, World.ownsRow_nil _ _ _ _, fun i s hi => by cases hi⟩
theorem OB.up {w0 w w' : World} {A : Option Addr} {c : Nat} {l : List Shr} (h : OB w0 w A c l) (hb : Below w.heap.size w w') : OB w0 w' A c l := by
  obtain ⟨bs, hl, h5, ho, hs⟩ := h
  refine ⟨bs, hl, h5, own_below ho hb, fun i s hi => ?_⟩
  obtain ⟨D, d, h1, h2⟩ := hs i s hi
  exact ⟨D, d, h1, own_below h2 hb⟩
theorem OB.ss {w0 w : World} {A : Option Addr} {c : Nat} {l : List Shr} (h : OB w0 w A c l) : SS w A l c := by
  obtain ⟨bs, hl, h5, ho, hs⟩ := h
  exact OwnS.ss (B := w0.heap.size) (w := w) ⟨bs, hl, h5, ho, fun i s hi => by
    obtain ⟨D, d, h1, h2⟩ := hs i s hi
    exact ⟨D, d, h1, Sl.of_own h2⟩⟩ (Below.refl _ _)
/-- append of one share whose bytes are the call's own. -/
theorem wpList_append_ob {w0 w : World} {ops : Array Oper} {rest : List Oper} {o : Oper} {a : Act} {Q : Exit → Act → World → Prop} (hgd : o.guard = none) (s x : Operand)
    (ho : o.op = .call { callee := .builtin .append, args := #[s, x], argTypes := #[22, 22] })
    (A : Option Addr) (l : List Shr) (n c : Nat) (hn : l.length = n) (hs : a.eval s = .slice A n c) (hO : OB w0 w A c l) (q : Nat) (u : Shr) (D : Option Addr) (d : Nat) (hx : a.eval x = .slice (some ⟨q, 0, none⟩) 1 1)
    (hq : Box w q #[.int .i64 u.ep, .int .i64 u.ix, .int .i64 u.th, .int .i64 u.mn, .slice D u.data.length d] 41) (hD : w.ownsRow w0.heap.size 5 1 (.slice D u.data.length d) u.data.length (u.data.map bv)) (hb : n ≤ 100000) (hb0 : Below w0.heap.size w0 w)
    (h : ∀ A' c' w', OB w0 w' A' c' (l ++ [u]) → Below w0.heap.size w0 w' → wpList Tryd.prog ops Q rest (a.put o.dst (.slice A' (n + 1) c')) w') : wpList Tryd.prog ops Q (o :: rest) a w := by
  subst hn
  obtain ⟨i0, hi0, hz0, hz1, hz2⟩ := info_parts sh_info
  obtain ⟨bs, hl, h5, hown, hss⟩ := hO
  have hnews : ∀ j v, (shc u D d)[j]? = some v → w.cell? ((⟨q, 0, none⟩ : Addr).add j) = some v := World.news_of_block hq
  refine wpList_append_own w hgd s x 22 ho w0.heap.size 41 i0 (.agg #[.int .i64 0, .int .i64 0, .int .i64 0, .int .i64 0, .slice none 0 0]) 5 56 Tryd.underlying22 hi0 hz0 hz1 hz2 rfl (by decide) _ l.length bs.flatten hs hown ⟨q, 0, none⟩ 1 1 (shc u D d) hx rfl hnews (shc_one u D d) (le_maxLen (by omega)) (by omega) hb0.size ?_
  intro v' w' ho' hg' _
  obtain ⟨A1, c1, rfl⟩ := own_form ho'
  have hkeep : ∀ {D2 : Option Addr} {n2 d2 : Nat} {xs : List Value}, w.ownsRow w0.heap.size 5 1 (.slice D2 n2 d2) n2 xs → w'.ownsRow w0.heap.size 5 1 (.slice D2 n2 d2) n2 xs := fun h2 => h2.kept hg' (own_types h2 hown (by decide))
  refine h A1 c1 w' ⟨bs ++ [shc u D d], by simp [hl], fun b hb => ?_, ?_, fun i t hi => ?_⟩ (hb0.grown hg' hb0.size (fun i hi => (hown.lt i hi).1))
  · rcases List.mem_append.1 hb with h | h
    · exact h5 b h
    · rw [List.mem_singleton.1 h]
      rfl
  · rw [List.length_append, List.flatten_append]
    simpa using ho'
  · by_cases e : i < l.length
    · rw [List.getElem?_append_left e] at hi
      obtain ⟨D2, d2, h1, h2⟩ := hss i t hi
      exact ⟨D2, d2, by rw [List.getElem?_append_left (by omega)]; exact h1, hkeep h2⟩
    · have hil := (List.getElem?_eq_some_iff.1 hi).1
      rw [List.length_append, List.length_singleton] at hil
      obtain rfl : i = l.length := by omega
      rw [List.getElem?_append_right (Nat.le_refl _)] at hi
      simp at hi
      subst hi
      exact ⟨D, d, by rw [List.getElem?_append_right (by omega), hl]; simp, hkeep hD⟩

end
section
open Go.RowKit
set_option linter.unusedVariables false

def few (l : List Shr) : Bool := l.all (fun u => decide (u.data.length ≤ 70)) && decide (l.length ≤ 10)

set_option maxHeartbeats 1000000 in
set_option maxRecDepth 100000 in
theorem rfew_any (A : Option Addr) (c : Nat) (l : List Shr) (w : World) (hS : SS w A l c) :
    Calls Tryd.prog 11 #[.slice A l.length c] w fun e w' => e = .returned (.bool (few l)) ∧ w = w' := by
  have HS := Lib.hid hS
  have hlm := Nat.le_trans hS.2.1 hS.2.2.1
  unfold maxLen at hlm
  obtain ⟨n, hn⟩ : ∃ n, l.length = n := ⟨_, rfl⟩
  have HN := Lib.hid hn
  have HT : Hid (∀ (k : Nat) (u : Shr), l[k]? = some u → 70 < u.data.length → few l = false) := fun k u hu h => by
    unfold few
    rw [Bool.and_eq_false_iff, List.all_eq_false]
    exact Or.inl ⟨u, List.mem_of_getElem? hu, by simpa using h⟩
  have HA : Hid ((∀ (j : Nat) (u : Shr), j < n → l[j]? = some u → u.data.length ≤ 70) → few l = decide ((n : Int) ≤ 10)) := fun h => by
    unfold few
    have h1 : l.all (fun u => decide (u.data.length ≤ 70)) = true := by
      rw [List.all_eq_true]
      intro u hu
      obtain ⟨j, hj, rfl⟩ := List.mem_iff_getElem.1 hu
      exact decide_eq_true (h j _ (by omega) (List.getElem?_eq_getElem hj))
    rw [h1, hn, Bool.true_and]
    by_cases h2 : n ≤ 10
    · rw [decide_eq_true h2, decide_eq_true (by omega)]
    · rw [decide_eq_false h2, decide_eq_false (by omega)]
  rw [hn] at hlm ⊢
  clear hS hn
  go_enter Tryd.func11, Tryd.ntmps11
  go_wp2_with fail
  go_loopw [3] (fun i wr => ∃ k : Nat, k ≤ n ∧ i = .int .i64 k ∧ (∀ (j : Nat) (u : Shr), j < k → l[j]? = some u → u.data.length ≤ 70) ∧ w = wr) (fun i _ => n - (intOf i).toNat)
  case atStart => exact ⟨0, Nat.zero_le _, rfl, fun j u h => by omega, rfl⟩
  case round =>
    obtain ⟨k, hk, rfl, hall, rfl⟩ := hrel
    have HAL := Lib.hid hall
    clear hall
    by_cases hlt : k < n
    · obtain ⟨u, hu⟩ : ∃ u, l[k]? = some u := ⟨_, List.getElem?_eq_getElem (by rw [HN.out]; exact hlt)⟩
      obtain ⟨b, off, rfl, hb, hat⟩ := HS.out.1 (by rw [HN.out]; omega)
      obtain ⟨D, d, k0, k1, k2, k3, k4, hD⟩ := hat k u hu
      have HF := Lib.hid (HT.out k u hu)
      have i1 : (0 : Int) ≤ (k : Int) := by omega
      have i2 : (k : Int) < (n : Int) := by omega
      have HU := Lib.hid hu
      clear hat hD hu k0 k1 k2 k3
      obtain ⟨ul, hul⟩ : ∃ ul, u.data.length = ul := ⟨_, rfl⟩
      have HUL := Lib.hid hul
      rw [hul] at HF k4
      clear hul
      by_cases h70 : 70 < ul
      · have d1 : decide ((70 : Int) < (ul : Int)) = true := decide_eq_true (by omega)
        have d2 : (70 : Int) < (ul : Int) := by omega
        go_wp2_with fail
        go_ret
        exact ⟨ret_bool (HF.out h70).symm, rfl⟩
      · have d1 : decide ((70 : Int) < (ul : Int)) = false := decide_eq_false (by omega)
        have d2 : ¬ (70 : Int) < (ul : Int) := by omega
        go_wp2_with fail
        go_roundw
        case rel => exact ⟨k + 1, by omega, by go_num, fun j v hj hv => by
          by_cases e : j = k
          · subst e
            have := HU.out.symm.trans hv
            injection this with this
            rw [← this, HUL.out]
            omega
          · exact HAL.out j v (by omega) hv, by first | rfl | trivial⟩
        case measure => simp [intOf]; omega
    · obtain rfl : k = n := by omega
      have HFW := Lib.hid (HA.out HAL.out)
      go_wp2_with fail
      go_ret
      exact ⟨ret_bool HFW.out.symm, rfl⟩

end
section
open Go.RowKit
set_option linter.unusedVariables false
set_option linter.unusedSimpArgs false

set_option maxHeartbeats 4000000 in
set_option maxRecDepth 100000 in
theorem ralike_some (b off n : Nat) (c : Nat) (l : List Shr) (e0 x0 t0 m0 : Int) (D0 : List UInt8) (A0 : Option Addr) (d0 c0 : Nat) (w : World) (hS : SS w (some ⟨b, off, none⟩) l c) (hn : l.length = n) (hl : n ≤ 1000000) (h0 : l[0]? = some ⟨e0, x0, t0, m0, D0⟩) (hd0 : D0.length = d0) (hb : b < w.heap.size)
    (z0 : w.cell? ⟨b, off, none⟩ = some (.int .i64 e0)) (z1 : w.cell? ⟨b, off + 1, none⟩ = some (.int .i64 x0)) (z2 : w.cell? ⟨b, off + 2, none⟩ = some (.int .i64 t0)) (z3 : w.cell? ⟨b, off + 3, none⟩ = some (.int .i64 m0)) (z4 : w.cell? ⟨b, off + 4, none⟩ = some (.slice A0 d0 c0)) :
    Calls Tryd.prog 35 #[.slice (some ⟨b, off, none⟩) n c] w fun e w' => e = .returned (.bool (alk l)) ∧ Below w.heap.size w w' := by
  have hp : 0 < n := by
    have := (List.getElem?_eq_some_iff.1 h0).1
    omega
  have HAC := alk_cons h0
  simp only [hd0] at HAC
  have HFALSE : Hid (t0 < 1 ∨ m0 < t0 ∨ 8 < m0 ∨ 64 < d0 → alk l = false) := fun h => by
    rw [HAC]
    rcases h with h | h | h | h
    · rw [decide_eq_false (by omega)]; rfl
    · rw [decide_eq_false (by omega)]; rfl
    · rw [decide_eq_false (by omega)]; rfl
    · rw [decide_eq_false (by omega : ¬ d0 ≤ 64), Bool.and_false]; rfl
  have HTRUE : Hid (¬ t0 < 1 → ¬ m0 < t0 → ¬ 8 < m0 → ¬ 64 < d0 → alkFrom ⟨e0, x0, t0, m0, D0⟩ 0 (l.drop 0) = alk l) := fun q1 q2 q3 q4 => by
    rw [HAC, decide_eq_true (by omega), decide_eq_true (by omega : d0 ≤ 64)]
    rfl
  have i1 : (0 : Int) < (n : Int) := by omega
  have i2 : ((n : Int) == 0) = false := by simp; omega
  have HS := Lib.hid hS
  have HN := Lib.hid hn
  have HD := Lib.hid hd0
  have H0 := Lib.hid h0
  clear hS hn HAC hd0 h0
  by_cases p0 : t0 < 1
  · have f0 : decide (t0 < (1 : Int)) = true := decide_eq_true (by omega)
    have g0 : t0 < (1 : Int) := by omega
    have HF := Lib.hid (HFALSE.out (by omega))
    clear HFALSE
    go_enter Tryd.func35, Tryd.ntmps35
    go_upto_region 4 with fail
    have hb1 := (Below.refl w.heap.size w).alloc (Nat.le_refl _) (.cells #[.int .i64 e0, .int .i64 x0, .int .i64 t0, .int .i64 m0, .slice A0 d0 c0] 41)
    have xb := Box.new w #[.int .i64 e0, .int .i64 x0, .int .i64 t0, .int .i64 m0, .slice A0 d0 c0] 41
    have y2 := xb.cell 2
    have y3 := xb.cell 3
    have y4 := xb.cell 4
    have H1 := Lib.hid (And.intro xb hb1)
    clear xb hb1 z0 z1 z2 z3 z4
    go_wp2_with fail
    go_ret
    exact ⟨ret_bool HF.out.symm, H1.out.2⟩

  · skip
    by_cases p1 : m0 < t0
    · have f0 : decide (t0 < (1 : Int)) = false := decide_eq_false (by omega)
      have g0 : ¬ t0 < (1 : Int) := by omega
      have f1 : decide (m0 < t0) = true := decide_eq_true (by omega)
      have g1 : m0 < t0 := by omega
      have HF := Lib.hid (HFALSE.out (by omega))
      clear HFALSE
      go_enter Tryd.func35, Tryd.ntmps35
      go_upto_region 4 with fail
      have hb1 := (Below.refl w.heap.size w).alloc (Nat.le_refl _) (.cells #[.int .i64 e0, .int .i64 x0, .int .i64 t0, .int .i64 m0, .slice A0 d0 c0] 41)
      have xb := Box.new w #[.int .i64 e0, .int .i64 x0, .int .i64 t0, .int .i64 m0, .slice A0 d0 c0] 41
      have y2 := xb.cell 2
      have y3 := xb.cell 3
      have y4 := xb.cell 4
      have H1 := Lib.hid (And.intro xb hb1)
      clear xb hb1 z0 z1 z2 z3 z4
      go_wp2_with fail
      go_ret
      exact ⟨ret_bool HF.out.symm, H1.out.2⟩

    · skip
      by_cases p2 : 8 < m0
      · have f0 : decide (t0 < (1 : Int)) = false := decide_eq_false (by omega)
        have g0 : ¬ t0 < (1 : Int) := by omega
        have f1 : decide (m0 < t0) = false := decide_eq_false (by omega)
        have g1 : ¬ m0 < t0 := by omega
        have f2 : decide ((8 : Int) < m0) = true := decide_eq_true (by omega)
        have g2 : (8 : Int) < m0 := by omega
        have HF := Lib.hid (HFALSE.out (by omega))
        clear HFALSE
        go_enter Tryd.func35, Tryd.ntmps35
        go_upto_region 4 with fail
        have hb1 := (Below.refl w.heap.size w).alloc (Nat.le_refl _) (.cells #[.int .i64 e0, .int .i64 x0, .int .i64 t0, .int .i64 m0, .slice A0 d0 c0] 41)
        have xb := Box.new w #[.int .i64 e0, .int .i64 x0, .int .i64 t0, .int .i64 m0, .slice A0 d0 c0] 41
        have y2 := xb.cell 2
        have y3 := xb.cell 3
        have y4 := xb.cell 4
        have H1 := Lib.hid (And.intro xb hb1)
        clear xb hb1 z0 z1 z2 z3 z4
        go_wp2_with fail
        go_ret
        exact ⟨ret_bool HF.out.symm, H1.out.2⟩

      · skip
        by_cases p3 : (64 : Int) < (d0 : Int)
        · have f0 : decide (t0 < (1 : Int)) = false := decide_eq_false (by omega)
          have g0 : ¬ t0 < (1 : Int) := by omega
          have f1 : decide (m0 < t0) = false := decide_eq_false (by omega)
          have g1 : ¬ m0 < t0 := by omega
          have f2 : decide ((8 : Int) < m0) = false := decide_eq_false (by omega)
          have g2 : ¬ (8 : Int) < m0 := by omega
          have f3 : decide ((64 : Int) < (d0 : Int)) = true := decide_eq_true (by omega)
          have g3 : (64 : Int) < (d0 : Int) := by omega
          have HF := Lib.hid (HFALSE.out (by omega))
          clear HFALSE
          go_enter Tryd.func35, Tryd.ntmps35
          go_upto_region 4 with fail
          have hb1 := (Below.refl w.heap.size w).alloc (Nat.le_refl _) (.cells #[.int .i64 e0, .int .i64 x0, .int .i64 t0, .int .i64 m0, .slice A0 d0 c0] 41)
          have xb := Box.new w #[.int .i64 e0, .int .i64 x0, .int .i64 t0, .int .i64 m0, .slice A0 d0 c0] 41
          have y2 := xb.cell 2
          have y3 := xb.cell 3
          have y4 := xb.cell 4
          have H1 := Lib.hid (And.intro xb hb1)
          clear xb hb1 z0 z1 z2 z3 z4
          go_wp2_with fail
          go_ret
          exact ⟨ret_bool HF.out.symm, H1.out.2⟩

        · skip
          have HST := Lib.hid (HTRUE.out (by omega) (by omega) (by omega) (by omega))
          have f0 : decide (t0 < (1 : Int)) = false := decide_eq_false (by omega)
          have g0 : ¬ t0 < (1 : Int) := by omega
          have f1 : decide (m0 < t0) = false := decide_eq_false (by omega)
          have g1 : ¬ m0 < t0 := by omega
          have f2 : decide ((8 : Int) < m0) = false := decide_eq_false (by omega)
          have g2 : ¬ (8 : Int) < m0 := by omega
          have f3 : decide ((64 : Int) < (d0 : Int)) = false := decide_eq_false (by omega)
          have g3 : ¬ (64 : Int) < (d0 : Int) := by omega
          clear HFALSE HTRUE
          go_enter Tryd.func35, Tryd.ntmps35
          go_upto_region 4 with fail
          have hb1 := (Below.refl w.heap.size w).alloc (Nat.le_refl _) (.cells #[.int .i64 e0, .int .i64 x0, .int .i64 t0, .int .i64 m0, .slice A0 d0 c0] 41)
          have xb := Box.new w #[.int .i64 e0, .int .i64 x0, .int .i64 t0, .int .i64 m0, .slice A0 d0 c0] 41
          have y2 := xb.cell 2
          have y3 := xb.cell 3
          have y4 := xb.cell 4
          have H1 := Lib.hid (And.intro xb hb1)
          clear xb hb1 z0 z1 z2 z3 z4
          go_upto_region 6 with fail
          clear y2 y3 y4
          generalize hw1 : w.alloc (.cells #[.int .i64 e0, .int .i64 x0, .int .i64 t0, .int .i64 m0, .slice A0 d0 c0] 41) = w1 at *
          clear hw1
          go_wp2_with fail
          go_loopw [4] (fun i wr => ∃ (k : Nat) (bi : Int), k ≤ n ∧ i = .int .i64 k ∧ alkFrom ⟨e0, x0, t0, m0, D0⟩ bi (l.drop k) = alk l ∧ 0 ≤ bi ∧ (k = 0 → bi = 0) ∧ (∀ u, 0 < k → l[k - 1]? = some u → bi = u.ix) ∧ Below w1.heap.size w1 wr) (fun i _ => n - (intOf i).toNat)
          case atStart => exact ⟨0, 0, Nat.zero_le _, rfl, HST.out, by omega, fun _ => rfl, fun u h => by omega, Below.refl _ _⟩
          case round =>
            obtain ⟨k, bi, hk, rfl, hR, hbi, hb0, hbp, hbw⟩ := hrel
            have KR := Lib.hid (And.intro hbw (And.intro hb0 hbp))
            clear hbw hb0 hbp
            by_cases hlt : k < n
            · have hlk : k < l.length := by rw [HN.out]; exact hlt
              obtain ⟨s, hs⟩ : ∃ s, l[k]? = some s := ⟨_, List.getElem?_eq_getElem hlk⟩
              have hgk : l[k]'hlk = s := by rw [List.getElem?_eq_getElem hlk] at hs; exact Option.some.inj hs
              rw [alk_drop bi hlk, hgk] at hR
              obtain ⟨b9, off9, e9, hb9, hat⟩ := ((HS.out.up H1.out.2).up KR.out.1).1 (by rw [HN.out]; omega)
              injection e9 with e9
              injection e9 with e91 e92
              subst e91 e92
              obtain ⟨A1, c1, k0, k1, k2, k3, k4, hD1⟩ := hat k s hs
              have hprev : ∀ j : Nat, k = j + 1 → wr.cell? ⟨b, off + j * 5 + 1, none⟩ = some (.int .i64 bi) := fun j hj => by
                obtain ⟨u, hu⟩ : ∃ u, l[j]? = some u := ⟨_, List.getElem?_eq_getElem (by rw [HN.out]; omega)⟩
                obtain ⟨_, _, _, p1, _⟩ := hat j u hu
                rw [KR.out.2.2 u (by omega) (by rw [hj]; exact hu)]
                exact p1
              have HSK := Lib.hid hs
              obtain ⟨e1, x1, t1, m1, D1⟩ := s
              have hR2 : (decide (t1 = t0 ∧ m1 = m0 ∧ D1.length = D0.length) && decide (bi < x1) && decide (x1 ≤ m1) && alkFrom ⟨e0, x0, t0, m0, D0⟩ x1 (l.drop (k + 1))) = alk l := hR
              simp only at k0 k1 k2 k3 k4
              obtain ⟨d1, hd1⟩ : ∃ d1, D1.length = d1 := ⟨_, rfl⟩
              rw [hd1, HD.out] at hR2
              rw [hd1] at k4
              have HR := Lib.hid hR2
              clear hR hR2 hd1 hD1 hat hs hgk hlk hb9
              have i3 : (0 : Int) ≤ (k : Int) := by omega
              have i4 : (k : Int) < (n : Int) := by omega
              go_upto_region 10 with fail
              have hb5 := (Below.refl wr.heap.size wr).alloc (Nat.le_refl _) (.cells #[.int .i64 e1, .int .i64 x1, .int .i64 t1, .int .i64 m1, .slice A1 d1 c1] 41)
              have xb := Box.new wr #[.int .i64 e1, .int .i64 x1, .int .i64 t1, .int .i64 m1, .slice A1 d1 c1] 41
              have xa := (H1.out.1.below KR.out.1).below hb5
              have a1 := xb.cell 1
              have a2 := xb.cell 2
              have a3 := xb.cell 3
              have a4 := xb.cell 4
              have y2 := xa.cell 2
              have y3 := xa.cell 3
              have y4 := xa.cell 4
              have hpr : ∀ j : Nat, k = j + 1 → (wr.alloc (.cells #[.int .i64 e1, .int .i64 x1, .int .i64 t1, .int .i64 m1, .slice A1 d1 c1] 41)).cell? ⟨b, off + j * 5 + 1, none⟩ = some (.int .i64 bi) := fun j hj => by
                have hbw : b < wr.heap.size := Nat.lt_of_lt_of_le (Nat.lt_of_lt_of_le hb H1.out.2.size) KR.out.1.size
                exact (hb5.cell (p := ⟨b, off + j * 5 + 1, none⟩) hbw).trans (hprev j hj)
              have HPR := Lib.hid hpr
              have K5 := Lib.hid (And.intro (KR.out.1.trans (hb5.mono KR.out.1.size)) (And.intro KR.out.2.1 HSK.out))
              clear k0 k1 k2 k3 k4 hb5 xb xa hpr hprev
              generalize wr.alloc (.cells #[.int .i64 e1, .int .i64 x1, .int .i64 t1, .int .i64 m1, .slice A1 d1 c1] 41) = W5 at *
              by_cases v1 : t1 = t0
              · skip
                by_cases v2 : m1 = m0
                · skip
                  by_cases v3 : d1 = d0
                  · skip
                    by_cases v4 : 1 ≤ x1
                    · skip
                      by_cases v5 : x1 ≤ m0
                      · skip
                        have q7 : (decide (t1 = t0 ∧ m1 = m0 ∧ d1 = d0)) = true := decide_eq_true ⟨v1, v2, v3⟩
                        have HQ7 := Lib.hid q7
                        clear q7
                        have q1 : (t1 != t0) = false := by simpa using v1
                        have q2 : (m1 != m0) = false := by simpa using v2
                        have q3 : ((d1 : Int) != (d0 : Int)) = false := by simpa using (show (d1 : Int) = (d0 : Int) by omega)
                        have q4 : decide (x1 < (1 : Int)) = false := decide_eq_false (by omega)
                        have r4 : ¬ x1 < (1 : Int) := by omega
                        have q5 : decide (m0 < x1) = false := decide_eq_false (by omega)
                        have r5 : ¬ m0 < x1 := by omega
                        have HV := Lib.hid (And.intro v1 (And.intro v2 v3))
                        have hm5 : x1 ≤ m1 := by omega
                        have HM5 := Lib.hid hm5
                        clear v1 v2 v3 hm5
                        by_cases v6 : k = 0
                        · have HF : Hid (alkFrom ⟨e0, x0, t0, m0, D0⟩ x1 (l.drop (k + 1)) = alk l) := by
                            have h1 := KR.out.2.1 v6
                            have h2 := HR.out
                            rw [HQ7.out, decide_eq_true HM5.out, decide_eq_true (show bi < x1 by omega)] at h2
                            exact h2
                          have q6 : decide ((0 : Int) < (k : Int)) = false := decide_eq_false (by omega)
                          have r6 : ¬ (0 : Int) < (k : Int) := by omega
                          have s6 : ¬ 0 < k := by omega
                          clear v6
                          have HB := Lib.hid K5.out.1
                          clear HR
                          go_quiet (fail)
                          go_wp2_with fail
                          go_roundw
                          case rel => exact ⟨k + 1, x1, by omega, by go_num, HF.out, by omega, fun h => by omega, fun u _ hu => by
                            have h1 := K5.out.2.2.symm.trans hu
                            injection h1 with h1
                            rw [← h1], HB.out.trans ((below_drewN _ _).mono HB.out.size)⟩
                          case measure => simp [intOf]; omega
                        · obtain ⟨j, hj⟩ : ∃ j, k = j + 1 := ⟨k - 1, by omega⟩
                          have q6 : decide ((0 : Int) < (k : Int)) = true := decide_eq_true (by omega)
                          have r6 : (0 : Int) < (k : Int) := by omega
                          have s6 : 0 < k := by omega
                          have hwr : IntKind.i64.wrap ((k : Int) - 1) = (j : Int) := by rw [IntKind.wrap_i64]; omega
                          have i5 : (0 : Int) ≤ (j : Int) := by omega
                          have i6 : (j : Int) < (n : Int) := by omega
                          have kp := HPR.out j hj
                          clear hj v6
                          by_cases v7 : x1 ≤ bi
                          · have HF : Hid (alk l = false) := by rw [Hid, ← HR.out, decide_eq_false (show ¬ bi < x1 by omega)]; simp
                            have q8 : decide (x1 ≤ bi) = true := decide_eq_true v7
                            have HB := Lib.hid (H1.out.2.trans (K5.out.1.mono H1.out.2.size))
                            clear HR
                            go_quiet (fail)
                            go_wp2_with fail
                            go_ret
                            exact ⟨ret_bool HF.out.symm, HB.out.trans ((below_drewN _ _).mono HB.out.size)⟩

                          · have HF : Hid (alkFrom ⟨e0, x0, t0, m0, D0⟩ x1 (l.drop (k + 1)) = alk l) := by
                              have h2 := HR.out
                              rw [HQ7.out, decide_eq_true HM5.out, decide_eq_true (show bi < x1 by omega)] at h2
                              exact h2
                            have q8 : decide (x1 ≤ bi) = false := decide_eq_false v7
                            have HB := Lib.hid K5.out.1
                            clear HR
                            go_quiet (fail)
                            go_wp2_with fail
                            go_roundw
                            case rel => exact ⟨k + 1, x1, by omega, by go_num, HF.out, by omega, fun h => by omega, fun u _ hu => by
                              have h1 := K5.out.2.2.symm.trans hu
                              injection h1 with h1
                              rw [← h1], HB.out.trans ((below_drewN _ _).mono HB.out.size)⟩
                            case measure => simp [intOf]; omega

                      · skip
                        have q1 : (t1 != t0) = false := by simpa using v1
                        have q2 : (m1 != m0) = false := by simpa using v2
                        have q3 : ((d1 : Int) != (d0 : Int)) = false := by simpa using (show (d1 : Int) = (d0 : Int) by omega)
                        have q4 : decide (x1 < (1 : Int)) = false := decide_eq_false (by omega)
                        have r4 : ¬ x1 < (1 : Int) := by omega
                        have q5 : decide (m0 < x1) = true := decide_eq_true (by omega)
                        have r5 : m0 < x1 := by omega
                        have HF : Hid (alk l = false) := by rw [Hid, ← HR.out, decide_eq_false (show ¬ x1 ≤ m1 by omega)]; simp
                        clear v1 v2 v3
                        have HB := Lib.hid (H1.out.2.trans (K5.out.1.mono H1.out.2.size))
                        clear HR
                        go_quiet (fail)
                        go_wp2_with fail
                        go_ret
                        exact ⟨ret_bool HF.out.symm, HB.out.trans ((below_drewN _ _).mono HB.out.size)⟩


                    · skip
                      have q1 : (t1 != t0) = false := by simpa using v1
                      have q2 : (m1 != m0) = false := by simpa using v2
                      have q3 : ((d1 : Int) != (d0 : Int)) = false := by simpa using (show (d1 : Int) = (d0 : Int) by omega)
                      have q4 : decide (x1 < (1 : Int)) = true := decide_eq_true (by omega)
                      have r4 : x1 < (1 : Int) := by omega
                      have HF : Hid (alk l = false) := by rw [Hid, ← HR.out, decide_eq_false (show ¬ bi < x1 by omega)]; simp
                      clear v1 v2 v3
                      have HB := Lib.hid (H1.out.2.trans (K5.out.1.mono H1.out.2.size))
                      clear HR
                      go_quiet (fail)
                      go_wp2_with fail
                      go_ret
                      exact ⟨ret_bool HF.out.symm, HB.out.trans ((below_drewN _ _).mono HB.out.size)⟩


                  · skip
                    have q1 : (t1 != t0) = false := by simpa using v1
                    have q2 : (m1 != m0) = false := by simpa using v2
                    have q3 : ((d1 : Int) != (d0 : Int)) = true := by simpa using (show ¬ (d1 : Int) = (d0 : Int) by omega)
                    have HF : Hid (alk l = false) := by rw [Hid, ← HR.out, decide_eq_false (fun h => v3 h.2.2)]; rfl
                    clear v1 v2 v3
                    have HB := Lib.hid (H1.out.2.trans (K5.out.1.mono H1.out.2.size))
                    clear HR
                    go_quiet (fail)
                    go_wp2_with fail
                    go_ret
                    exact ⟨ret_bool HF.out.symm, HB.out.trans ((below_drewN _ _).mono HB.out.size)⟩


                · skip
                  have q1 : (t1 != t0) = false := by simpa using v1
                  have q2 : (m1 != m0) = true := by simpa using v2
                  have HF : Hid (alk l = false) := by rw [Hid, ← HR.out, decide_eq_false (fun h => v2 h.2.1)]; rfl
                  clear v1 v2
                  have HB := Lib.hid (H1.out.2.trans (K5.out.1.mono H1.out.2.size))
                  clear HR
                  go_quiet (fail)
                  go_wp2_with fail
                  go_ret
                  exact ⟨ret_bool HF.out.symm, HB.out.trans ((below_drewN _ _).mono HB.out.size)⟩


              · skip
                have q1 : (t1 != t0) = true := by simpa using v1
                have HF : Hid (alk l = false) := by rw [Hid, ← HR.out, decide_eq_false (fun h => v1 h.1)]; rfl
                clear v1
                have HB := Lib.hid (H1.out.2.trans (K5.out.1.mono H1.out.2.size))
                clear HR
                go_quiet (fail)
                go_wp2_with fail
                go_ret
                exact ⟨ret_bool HF.out.symm, HB.out.trans ((below_drewN _ _).mono HB.out.size)⟩

            · obtain rfl : k = n := by omega
              have HF : Hid (alk l = true) := by
                rw [Hid, ← hR, List.drop_of_length_le (by rw [HN.out]; exact Nat.le_refl _)]
                rfl
              have HB := Lib.hid (H1.out.2.trans (KR.out.1.mono H1.out.2.size))
              clear hR
              go_wp2_with fail
              go_ret
              exact ⟨ret_bool HF.out.symm, HB.out⟩


end
section
open Go.RowKit
set_option linter.unusedVariables false
set_option linter.unusedSimpArgs false

set_option maxHeartbeats 1000000 in
set_option maxRecDepth 100000 in
theorem ralike_any (A : Option Addr) (c : Nat) (l : List Shr) (w : World) (hS : SS w A l c) (hl : l.length ≤ 1000000) :
    Calls Tryd.prog 35 #[.slice A l.length c] w fun e w' => e = .returned (.bool (alk l)) ∧ Below w.heap.size w w' := by
  by_cases hp : l.length = 0
  · obtain rfl : l = [] := List.eq_nil_of_length_eq_zero hp
    simp only [List.length_nil]
    clear hp hl hS
    go_enter Tryd.func35, Tryd.ntmps35
    go_wp2_with fail
    go_ret
    exact ⟨rfl, Below.refl _ _⟩
  · obtain ⟨s0, h0⟩ : ∃ s0, l[0]? = some s0 := ⟨l[0]'(by omega), by simp⟩
    obtain ⟨b, off, rfl, hb, hat⟩ := hS.1 (by omega)
    obtain ⟨A0, c0, z0, z1, z2, z3, z4, _⟩ := hat 0 s0 h0
    simp only [Nat.zero_mul, Nat.add_zero] at z0 z1 z2 z3 z4
    obtain ⟨e0, x0, t0, m0, D0⟩ := s0
    exact ralike_some b off l.length c l e0 x0 t0 m0 D0 A0 D0.length c0 w hS rfl hl h0 rfl hb z0 z1 z2 z3 z4

set_option maxHeartbeats 4000000 in
set_option maxRecDepth 100000 in
theorem rchk_any (A : Option Addr) (c : Nat) (l : List Shr) (w : World) (hS : SS w A l c) (hl : l.length ≤ 1000000) :
    Calls Tryd.prog 15 #[.slice A l.length c] w fun e w' => e = .returned (.int .i64 (chk l)) ∧ Below w.heap.size w w' := by
  have HA := Lib.hid (ralike_any A c l w hS hl)
  have HS := Lib.hid hS
  clear hS
  obtain ⟨n, hn⟩ : ∃ n, l.length = n := ⟨_, rfl⟩
  have HN := Lib.hid hn
  cases hal : alk l with
  | false =>
    have HF : Hid (chk l = 60) := by unfold chk; rw [hal]; rfl
    rw [hal] at HA
    rw [hn] at HA ⊢
    clear hal hn
    go_enter Tryd.func15, Tryd.ntmps15
    go_wp2_with fail
    refine HA.out.mono ?_
    rintro e w1 ⟨rfl, hb1⟩
    go_wp2_with fail
    go_ret
    exact ⟨congrArg (fun z => Ending.returned (.int .i64 z)) HF.out.symm, hb1⟩
  | true =>
    obtain ⟨s0, h0⟩ := alk_pos hal
    have HO := Lib.hid (onee_cons h0)
    have HC : Hid (chk l = if onee l = false then 61 else 0) := by unfold chk; rw [hal]; rfl
    have H0 := Lib.hid h0
    have hp : 0 < n := by
      have := (List.getElem?_eq_some_iff.1 h0).1
      omega
    rw [hal] at HA
    rw [hn] at HA hl ⊢
    clear hal hn h0
    obtain ⟨b, off, rfl, hb, hat⟩ := HS.out.1 (by rw [HN.out]; omega)
    have HAT := Lib.hid hat
    obtain ⟨e0, x0, t0, m0, D0⟩ := s0
    simp only at HO
    clear hat
    go_enter Tryd.func15, Tryd.ntmps15
    go_wp2_with fail
    refine HA.out.mono ?_
    rintro e w1 ⟨rfl, hb1⟩
    have HB1 := Lib.hid hb1
    clear hb1
    go_wp2_with fail
    go_loopw [3] (fun i wr => ∃ k : Nat, k ≤ n ∧ i = .int .i64 k ∧ sameEp e0 (l.take k) = true ∧ (0 < k → 0 ≤ e0 ∧ e0 ≤ 1048576) ∧ Below w.heap.size w wr) (fun i _ => n - (intOf i).toNat)
    case atStart => exact ⟨0, Nat.zero_le _, rfl, rfl, fun h => by omega, HB1.out⟩
    case round =>
      obtain ⟨k, hk, rfl, hse, h0e, hbw⟩ := hrel
      by_cases hlt : k < n
      · have hlk : k < l.length := by rw [HN.out]; exact hlt
        obtain ⟨A1, c1, k0, hr1⟩ := (HAT.out k _ (ge_some hlk)).up hb hbw
        obtain ⟨A2, c2, z0, hr2⟩ := (HAT.out 0 _ H0.out).up hb hbw
        simp only [Nat.zero_mul, Nat.add_zero] at z0
        have htk := sameEp_take e0 l k hlk
        have hno := sameEp_no e0 l k hlk
        obtain ⟨e1, he1⟩ : ∃ e1, (l[k]'hlk).ep = e1 := ⟨_, rfl⟩
        rw [he1] at k0 htk hno
        have hx1 : e1 ≠ e0 ∨ e1 < 0 ∨ 1048576 < e1 → chk l = 61 := fun h => by
          rw [HC.out, if_pos]
          rw [HO.out]
          by_cases h1 : e1 = e0
          · subst h1
            rw [decide_eq_false (show ¬ (0 ≤ e1 ∧ e1 ≤ 1048576) by omega), Bool.and_false]
          · rw [hno h1]
            rfl
        have hx2 : e1 = e0 → 0 ≤ e1 ∧ e1 ≤ 1048576 → sameEp e0 (l.take (k + 1)) = true ∧ 0 ≤ e0 ∧ e0 ≤ 1048576 := fun h1 h2 => by
          rw [htk, hse, h1, decide_eq_true rfl]
          exact ⟨rfl, h1 ▸ h2⟩
        have HX := Lib.hid (And.intro hx1 hx2)
        have HB := Lib.hid hbw
        have i1 : (0 : Int) < (n : Int) := by omega
        have i3 : (0 : Int) ≤ (k : Int) := by omega
        have i4 : (k : Int) < (n : Int) := by omega
        clear hr1 hr2 hx1 hx2 htk hno he1 hlk hse h0e hbw
        by_cases v1 : e1 = e0
        · skip
          by_cases v2 : 0 ≤ e1
          · skip
            by_cases v3 : e1 ≤ 1048576
            · skip
              have q1 : (e1 != e0) = false := by simpa using v1
              have q2 : decide (e1 < (0 : Int)) = false := decide_eq_false (by omega)
              have r2 : ¬ e1 < (0 : Int) := by omega
              have q3 : decide ((1048576 : Int) < e1) = false := decide_eq_false (by omega)
              have r3 : ¬ (1048576 : Int) < e1 := by omega
              have HF := Lib.hid (HX.out.2 v1 (show 0 ≤ e1 ∧ e1 ≤ 1048576 by omega))
              clear v1
              go_wp2_with fail
              go_quiet (fail)
              go_wp2_with fail
              go_roundw
              case rel => exact ⟨k + 1, by omega, by go_num, HF.out.1, fun _ => HF.out.2, HB.out.trans ((below_drewN _ _).mono HB.out.size)⟩
              case measure => simp [intOf]; omega

            · skip
              have q1 : (e1 != e0) = false := by simpa using v1
              have q2 : decide (e1 < (0 : Int)) = false := decide_eq_false (by omega)
              have r2 : ¬ e1 < (0 : Int) := by omega
              have q3 : decide ((1048576 : Int) < e1) = true := decide_eq_true (by omega)
              have r3 : (1048576 : Int) < e1 := by omega
              have HF : Hid (chk l = 61) := HX.out.1 (by omega)
              clear v1
              go_wp2_with fail
              go_quiet (fail)
              go_wp2_with fail
              go_ret
              exact ⟨congrArg (fun z => Ending.returned (.int .i64 z)) HF.out.symm, HB.out.trans ((below_drewN _ _).mono HB.out.size)⟩


          · skip
            have q1 : (e1 != e0) = false := by simpa using v1
            have q2 : decide (e1 < (0 : Int)) = true := decide_eq_true (by omega)
            have r2 : e1 < (0 : Int) := by omega
            have HF : Hid (chk l = 61) := HX.out.1 (by omega)
            clear v1
            go_wp2_with fail
            go_quiet (fail)
            go_wp2_with fail
            go_ret
            exact ⟨congrArg (fun z => Ending.returned (.int .i64 z)) HF.out.symm, HB.out.trans ((below_drewN _ _).mono HB.out.size)⟩


        · skip
          have q1 : (e1 != e0) = true := by simpa using v1
          have HF : Hid (chk l = 61) := HX.out.1 (by omega)
          clear v1
          go_wp2_with fail
          go_quiet (fail)
          go_wp2_with fail
          go_ret
          exact ⟨congrArg (fun z => Ending.returned (.int .i64 z)) HF.out.symm, HB.out.trans ((below_drewN _ _).mono HB.out.size)⟩


      · obtain rfl : k = n := by omega
        have HF : Hid (chk l = 0) := by
          have h1 := hse
          rw [List.take_of_length_le (by rw [HN.out]; exact Nat.le_refl _)] at h1
          rw [Hid, HC.out, HO.out, h1, decide_eq_true (h0e hp)]
          rfl
        have HB := Lib.hid hbw
        clear hse h0e hbw
        go_wp2_with fail
        go_ret
        exact ⟨congrArg (fun z => Ending.returned (.int .i64 z)) HF.out.symm, HB.out⟩

end
section
open Go.RowKit
set_option linter.unusedVariables false
set_option linter.unusedSimpArgs false

set_option maxHeartbeats 1000000 in
set_option maxRecDepth 100000 in
theorem rover_any (a b : UInt8) (w : World) : Calls Tryd.prog 61 #[bv a, bv b] w fun e w' => e = .returned (bv (gm a (iv b))) ∧ w = w' := by
  have HI := Lib.hid (rinv_any b w)
  have HM := Lib.hid (rmul_any a (iv b) w)
  generalize gm a (iv b) = r at *
  generalize iv b = q at *
  generalize ie b = z at *
  go_enter Tryd.func61, Tryd.ntmps61
  go_wp2_with fail
  refine HI.out.mono ?_
  rintro e w1 ⟨rfl, rfl⟩
  go_wp2_with fail
  refine HM.out.mono ?_
  rintro e w2 ⟨rfl, rfl⟩
  go_wp2_with fail
  go_ret
  exact ⟨rfl, rfl⟩

theorem nodup_step {xs : List UInt8} {k : Nat} (h : (xs.take k).Nodup) (hk : k < xs.length) (hn : ∀ i, i < k → xs.getD i 0 ≠ xs.getD k 0) : (xs.take (k + 1)).Nodup := by
  rw [List.take_succ_eq_append_getElem hk, List.nodup_append]
  refine ⟨h, by simp, fun a ha b hb => ?_⟩
  obtain ⟨i, hi, rfl⟩ := List.mem_iff_getElem.1 ha
  rw [List.mem_singleton] at hb
  subst hb
  have hi2 : i < k := by
    rw [List.length_take] at hi
    omega
  have := hn i hi2
  rw [List.getD_eq_getElem?_getD, List.getD_eq_getElem?_getD, List.getElem?_eq_getElem hk, List.getElem?_eq_getElem (by omega)] at this
  simpa using this
theorem nodup_no {xs : List UInt8} {i k : Nat} (hi : i < k) (hk : k < xs.length) (h : xs.getD i 0 = xs.getD k 0) : ¬ xs.Nodup := fun hn => by
  rw [List.getD_eq_getElem?_getD, List.getD_eq_getElem?_getD, List.getElem?_eq_getElem hk, List.getElem?_eq_getElem (by omega)] at h
  exact List.pairwise_iff_getElem.1 hn i k (by omega) hk hi (by simpa using h)

set_option maxHeartbeats 2000000 in
set_option maxRecDepth 100000 in
theorem rpts_any (A : Option Addr) (c : Nat) (xs : List UInt8) (A2 : Option Addr) (c2 m : Nat) (w : World) (hS : Sl w A xs c) (hl : xs.length ≤ 1000000) (hm : m ≤ 1000000) :
    Calls Tryd.prog 60 #[.slice A xs.length c, .slice A2 m c2] w fun e w' => e = .returned (.bool (decide (xs.length = m ∧ xs.Nodup))) ∧ Below w.heap.size w w' := by
  have HS := Lib.hid hS
  obtain ⟨n, hn⟩ : ∃ n, xs.length = n := ⟨_, rfl⟩
  have HN := Lib.hid hn
  rw [hn] at hl ⊢
  clear hS hn
  by_cases hnm : n = m
  · have q1 : ((n : Int) != (m : Int)) = false := by simpa using (show (n : Int) = (m : Int) by omega)
    have HT : Hid (xs.Nodup → true = decide (n = m ∧ xs.Nodup)) := fun h => (decide_eq_true ⟨hnm, h⟩).symm
    have HX : Hid (¬ xs.Nodup → false = decide (n = m ∧ xs.Nodup)) := fun h => (decide_eq_false (fun z => h z.2)).symm
    generalize decide (n = m ∧ xs.Nodup) = R at *
    clear hnm
    go_enter Tryd.func60, Tryd.ntmps60
    go_wp2_with fail
    go_loopw [5] (fun i wr => ∃ k : Nat, k ≤ n ∧ i = .int .i64 k ∧ (xs.take k).Nodup ∧ Below w.heap.size w wr) (fun i _ => n - (intOf i).toNat)
    case atStart => exact ⟨0, Nat.zero_le _, rfl, by simp, Below.refl _ _⟩
    case round =>
      obtain ⟨k, hk, rfl, hnd, hbw⟩ := hrel
      obtain ⟨V, rfl⟩ : ∃ V, V = wr := ⟨_, rfl⟩
      have KR := Lib.hid (And.intro hnd hbw)
      clear hnd hbw
      by_cases hlt : k < n
      · go_wp2_with fail
        go_loopw [6] (fun i wr => ∃ j : Nat, j ≤ k ∧ i = .int .i64 (j : Nat) ∧ (∀ i, i < j → xs.getD i 0 ≠ xs.getD k 0) ∧ Below w.heap.size w wr) (fun i _ => k - (intOf i).toNat)
        case atStart => exact ⟨0, Nat.zero_le _, rfl, fun i h => by omega, KR.out.2⟩
        case round =>
          obtain ⟨j, hj, rfl, hne, hbv⟩ := hrel
          have KS := Lib.hid (And.intro hne hbv)
          clear hne hbv
          by_cases hlj : j < k
          · obtain ⟨b, off, rfl, hb, hc⟩ := (HS.out.up KS.out.2).1 (by rw [HN.out]; omega)
            have hk0 : xs[k]? = some (xs.getD k 0) := by
              rw [List.getD_eq_getElem?_getD, List.getElem?_eq_getElem (by rw [HN.out]; omega)]
              rfl
            have hj0 : xs[j]? = some (xs.getD j 0) := by
              rw [List.getD_eq_getElem?_getD, List.getElem?_eq_getElem (by rw [HN.out]; omega)]
              rfl
            have k0 : wr.cell? ⟨b, off + k, none⟩ = some (.int .u8 ((xs.getD k 0).toNat : Int)) := hc k _ hk0
            have k1 : wr.cell? ⟨b, off + j, none⟩ = some (.int .u8 ((xs.getD j 0).toNat : Int)) := hc j _ hj0
            have HE : Hid ((xs.getD j 0).toNat = (xs.getD k 0).toNat → xs.getD j 0 = xs.getD k 0) := fun h => UInt8.toNat_inj.1 h
            have HQ : Hid (xs.getD j 0 = xs.getD k 0 → ¬ xs.Nodup) := fun h => nodup_no hlj (by rw [HN.out]; exact hlt) h
            have HE2 : Hid ((xs.getD j 0).toNat ≠ (xs.getD k 0).toNat → xs.getD j 0 ≠ xs.getD k 0) := fun h e => h (congrArg UInt8.toNat e)
            have i1 : (0 : Int) ≤ (k : Int) := by omega
            have i2 : (k : Int) < (n : Int) := by omega
            have i3 : (0 : Int) ≤ (j : Int) := by omega
            have i4 : (j : Int) < (n : Int) := by omega
            have HB := Lib.hid KS.out.2
            clear hk0 hj0 hc
            generalize (xs.getD k 0).toNat = x at *
            generalize (xs.getD j 0).toNat = y at *
            by_cases hxy : y = x
            · have q2 : ((y : Int) == (x : Int)) = true := by simpa using (show (y : Int) = (x : Int) by omega)
              have HF := Lib.hid (HX.out (HQ.out (HE.out hxy)))
              clear hxy HE HQ HE2
              go_wp2_with fail
              go_quiet (fail)
              go_wp2_with fail
              go_ret
              exact ⟨ret_bool HF.out, HB.out.trans ((below_drewN wr nq).mono HB.out.size)⟩
            · have q2 : ((y : Int) == (x : Int)) = false := by simpa using (show ¬ (y : Int) = (x : Int) by omega)
              have HF := Lib.hid (HE2.out hxy)
              clear hxy HE HQ HE2
              go_wp2_with fail
              go_quiet (fail)
              go_wp2_with fail
              go_roundw
              case rel => exact ⟨j + 1, by omega, by go_num, fun i hi => by
                by_cases e : i = j
                · subst e
                  exact HF.out
                · exact KS.out.1 i (by omega), HB.out.trans ((below_drewN wr nq).mono HB.out.size)⟩
              case measure => simp [intOf]; omega
          · obtain rfl : j = k := by omega
            have HF := Lib.hid (nodup_step KR.out.1 (by rw [HN.out]; exact hlt) KS.out.1)
            go_wp2_with fail
            go_roundw
            case rel => exact ⟨j + 1, by omega, by go_num, HF.out, KS.out.2⟩
            case measure => simp [intOf]; omega
      · obtain rfl : k = n := by omega
        have h1 := KR.out.1
        rw [List.take_of_length_le (by rw [HN.out]; exact Nat.le_refl _)] at h1
        have HF := Lib.hid (HT.out h1)
        clear h1
        go_wp2_with fail
        go_ret
        exact ⟨ret_bool HF.out, KR.out.2⟩
  · have q1 : ((n : Int) != (m : Int)) = true := by simpa using (show ¬ (n : Int) = (m : Int) by omega)
    have HF : Hid (false = decide (n = m ∧ xs.Nodup)) := (decide_eq_false (fun z => hnm z.1)).symm
    generalize decide (n = m ∧ xs.Nodup) = R at *
    go_enter Tryd.func60, Tryd.ntmps60
    go_wp2_with fail
    go_ret
    exact ⟨ret_bool HF.out, Below.refl _ _⟩

end
section
open Go.RowKit
set_option linter.unusedVariables false
set_option linter.unusedSimpArgs false

/-- The first k factors of the i-th summand. -/
def fk (xs : List UInt8) (at_ : UInt8) (i : Nat) (y : UInt8) : Nat → UInt8
  | 0 => y
  | k + 1 => if k = i then fk xs at_ i y k else gm (fk xs at_ i y k) (gm (at_ ^^^ xs.getD k 0) (iv (xs.getD i 0 ^^^ xs.getD k 0)))
/-- The first i summands. -/
def sk (xs ys : List UInt8) (at_ : UInt8) : Nat → UInt8
  | 0 => 0
  | i + 1 => sk xs ys at_ i ^^^ fk xs at_ i (ys.getD i 0) xs.length

set_option maxHeartbeats 4000000 in
set_option maxRecDepth 100000 in
theorem rthru_any (A : Option Addr) (c : Nat) (xs : List UInt8) (A2 : Option Addr) (c2 : Nat) (ys : List UInt8) (at_ : UInt8) (w : World) (hS : Sl w A xs c) (hS2 : Sl w A2 ys c2) (hl : xs.length ≤ 1000000) (hxy : xs.length = ys.length) (hnd : xs.Nodup) :
    Calls Tryd.prog 42 #[.slice A xs.length c, .slice A2 ys.length c2, bv at_] w fun e w' => e = .returned (.tuple #[bv (sk xs ys at_ xs.length), .int .i64 0]) ∧ Below w.heap.size w w' := by
  have HP := Lib.hid (rpts_any A c xs A2 c2 ys.length w hS hl (by omega))
  rw [decide_eq_true ⟨hxy, hnd⟩] at HP
  have HS := Lib.hid (And.intro hS hS2)
  have HF : Hid (∀ i y k, fk xs at_ i y (k + 1) = if k = i then fk xs at_ i y k else gm (fk xs at_ i y k) (gm (at_ ^^^ xs.getD k 0) (iv (xs.getD i 0 ^^^ xs.getD k 0)))) := fun _ _ _ => rfl
  have HG : Hid (∀ i, sk xs ys at_ (i + 1) = sk xs ys at_ i ^^^ fk xs at_ i (ys.getD i 0) xs.length) := fun _ => rfl
  rw [← hxy] at HP ⊢
  obtain ⟨n, hn⟩ : ∃ n, xs.length = n := ⟨_, rfl⟩
  have HN := Lib.hid (And.intro hn (hxy.symm.trans hn))
  rw [hn] at hl HP HG ⊢
  clear hS hS2 hn hxy hnd
  have hat : bv at_ = .int .u8 (at_.toNat : Int) := rfl
  rw [hat]
  obtain ⟨an, han⟩ : ∃ an, at_.toNat = an := ⟨_, rfl⟩
  have HAN := Lib.hid han
  rw [han]
  clear hat han
  go_enter Tryd.func42, Tryd.ntmps42
  go_wp2_with fail
  refine HP.out.mono ?_
  rintro e w1 ⟨rfl, hb1⟩
  have HB1 := Lib.hid hb1
  clear hb1
  go_wp2_with fail
  go_loopw [8, 9] (fun y i wr => ∃ ii : Nat, ii ≤ n ∧ i = .int .i64 (ii : Nat) ∧ y = .int .u8 ((sk xs ys at_ ii).toNat : Int) ∧ Below w.heap.size w wr) (fun _ i _ => n - (intOf i).toNat)
  case atStart => exact ⟨0, Nat.zero_le _, rfl, rfl, HB1.out⟩
  case round =>
    obtain ⟨ii, hii, rfl, rfl, hbw⟩ := hrel
    obtain ⟨V, rfl⟩ : ∃ V, V = wr := ⟨_, rfl⟩
    have KR := Lib.hid hbw
    clear hbw
    by_cases hlt : ii < n
    · obtain ⟨yi, hyi⟩ : ∃ yi, ys.getD ii 0 = yi := ⟨_, rfl⟩
      have hy0 : ys[ii]? = some yi := by
        rw [← hyi, List.getD_eq_getElem?_getD, List.getElem?_eq_getElem (by rw [HN.out.2]; exact hlt)]
        rfl
      obtain ⟨b2, o2, rfl, hb2, hc2⟩ := (HS.out.2.up KR.out).1 (by rw [HN.out.2]; omega)
      have k0 : V.cell? ⟨b2, o2 + ii, none⟩ = some (.int .u8 (yi.toNat : Int)) := hc2 ii yi hy0
      have hg := HG.out ii
      rw [hyi] at hg
      have HGI := Lib.hid hg
      have i1 : (0 : Int) ≤ (ii : Int) := by omega
      have i2 : (ii : Int) < (n : Int) := by omega
      obtain ⟨sn, hsn⟩ : ∃ sn, sk xs ys at_ ii = sn := ⟨_, rfl⟩
      have HSN := Lib.hid hsn
      rw [hsn]
      clear hc2 hy0 hyi hg hsn
      go_upto_region 8 with fail
      go_wp2_with fail
      go_loopw [10, 11] (fun f i wr => ∃ k : Nat, k ≤ n ∧ i = .int .i64 (k : Nat) ∧ f = .int .u8 ((fk xs at_ ii yi k).toNat : Int) ∧ Below w.heap.size w wr) (fun _ i _ => n - (intOf i).toNat)
      case atStart => exact ⟨0, Nat.zero_le _, rfl, rfl, KR.out⟩
      case round =>
        obtain ⟨k, hk, rfl, rfl, hbv⟩ := hrel
        have KS := Lib.hid hbv
        clear hbv
        by_cases hlk : k < n
        · have hf := HF.out ii yi k
          by_cases hki : k = ii
          · rw [if_pos hki] at hf
            have HFK := Lib.hid hf
            have q1 : ((k : Int) != (ii : Int)) = false := by simpa using (show (k : Int) = (ii : Int) by omega)
            clear hf hki
            go_wp2_with fail
            go_roundw
            case rel => exact ⟨k + 1, by omega, by go_num, by rw [HFK.out], KS.out⟩
            case measure => simp [intOf]; omega
          · rw [if_neg hki] at hf
            have q1 : ((k : Int) != (ii : Int)) = true := by simpa using (show ¬ (k : Int) = (ii : Int) by omega)
            obtain ⟨b, off, rfl, hb, hc⟩ := (HS.out.1.up KS.out).1 (by rw [HN.out.1]; omega)
            obtain ⟨xk, hxk⟩ : ∃ xk, xs.getD k 0 = xk := ⟨_, rfl⟩
            obtain ⟨xi, hxi⟩ : ∃ xi, xs.getD ii 0 = xi := ⟨_, rfl⟩
            have hk0 : xs[k]? = some xk := by
              rw [← hxk, List.getD_eq_getElem?_getD, List.getElem?_eq_getElem (by rw [HN.out.1]; exact hlk)]
              rfl
            have hi0 : xs[ii]? = some xi := by
              rw [← hxi, List.getD_eq_getElem?_getD, List.getElem?_eq_getElem (by rw [HN.out.1]; exact hlt)]
              rfl
            have k1 : wr.cell? ⟨b, off + k, none⟩ = some (.int .u8 (xk.toNat : Int)) := hc k xk hk0
            have k2 : wr.cell? ⟨b, off + ii, none⟩ = some (.int .u8 (xi.toNat : Int)) := hc ii xi hi0
            rw [hxk, hxi] at hf
            obtain ⟨fn, hfn⟩ : ∃ fn, fk xs at_ ii yi k = fn := ⟨_, rfl⟩
            rw [hfn] at hf
            have e1 := xor_u8' at_ xk
            rw [HAN.out] at e1
            have e2 := xor_u8' xi xk
            have HO : Hid (∀ W, Calls Tryd.prog 61 #[.int .u8 ((at_ ^^^ xk).toNat : Int), .int .u8 ((xi ^^^ xk).toNat : Int)] W fun e w' => e = .returned (.int .u8 ((gm (at_ ^^^ xk) (iv (xi ^^^ xk))).toNat : Int)) ∧ W = w') := fun W => rover_any _ _ W
            generalize gm (at_ ^^^ xk) (iv (xi ^^^ xk)) = ov at *
            have HM : Hid (∀ W, Calls Tryd.prog 55 #[.int .u8 (fn.toNat : Int), .int .u8 (ov.toNat : Int)] W fun e w' => e = .returned (.int .u8 ((gm fn ov).toNat : Int)) ∧ W = w') := fun W => rmul_any _ _ W
            have HFK := Lib.hid hf
            rw [hfn]
            generalize (at_ ^^^ xk).toNat = d1 at *
            generalize (xi ^^^ xk).toNat = d2 at *
            generalize xk.toNat = x1 at *
            generalize xi.toNat = x2 at *
            have hk1 : ∀ m, (wr.drewN m).cell? ⟨b, off + k, none⟩ = some (.int .u8 (x1 : Int)) ∧ (wr.drewN m).cell? ⟨b, off + ii, none⟩ = some (.int .u8 (x2 : Int)) := fun m => ⟨k1, k2⟩
            have i3 : (0 : Int) ≤ (k : Int) := by omega
            have i4 : (k : Int) < (n : Int) := by omega
            have KB := Lib.hid (fun m => KS.out.trans ((below_drewN wr m).mono KS.out.size))
            clear hc hk0 hi0 hxk hxi hf hfn hki
            go_upto_region 12 with fail
            go_quiet ((first | (go_at_call 61; exact quietL (HO.out _)) | (go_at_call 55; exact quietL (HM.out _))))
            go_wp2_with fail
            go_roundw
            case rel => exact ⟨k + 1, by omega, by go_num, by rw [HFK.out], KB.out _⟩
            case measure => simp [intOf]; omega
        · obtain rfl : k = n := by omega
          have hx := xor_u8' sn (fk xs at_ ii yi k)
          have HX : Hid (sn ^^^ fk xs at_ ii yi k = sk xs ys at_ (ii + 1)) := by rw [Hid, HGI.out, HSN.out]
          generalize fk xs at_ ii yi k = fz at *
          generalize hz : (sn ^^^ fz) = z at *
          go_wp2_with fail
          go_roundw
          case rel => exact ⟨ii + 1, by omega, by go_num, by rw [← HX.out], KS.out⟩
          case measure => simp [intOf]; omega
    · obtain rfl : ii = n := by omega
      obtain ⟨r, hr⟩ : ∃ r, sk xs ys at_ ii = r := ⟨_, rfl⟩
      have HR := Lib.hid hr
      rw [hr]
      clear hr
      go_wp2_with fail
      go_ret2
      exact ⟨congrArg (fun z => Ending.returned (.tuple #[bv z, .int .i64 0])) HR.out.symm, KR.out⟩

end
section
set_option linter.unusedVariables false

theorem hv_rep (z : UInt8) : ∀ n, hv (List.replicate n 0) z = 0
  | 0 => rfl
  | n + 1 => by
    rw [List.replicate_succ]
    show 0 ^^^ gm z (hv (List.replicate n 0) z) = 0
    rw [hv_rep z n, gm_zero]
    rfl
/-- The polynomial of the i-th summand, by its first k factors. -/
def onk (xs : List UInt8) (i : Nat) (y : UInt8) : Nat → List UInt8
  | 0 => [y]
  | k + 1 => if k = i then onk xs i y k else am (List.replicate ((onk xs i y k).length + 1) 0) (tf (onk xs i y k) (xs.getD k 0)) (iv (xs.getD i 0 ^^^ xs.getD k 0))
theorem onk_length (xs : List UInt8) (i : Nat) (y : UInt8) : ∀ k, (onk xs i y k).length = if k ≤ i then k + 1 else k
  | 0 => by simp [onk]
  | k + 1 => by
    unfold onk
    by_cases h : k = i
    · rw [if_pos h, onk_length xs i y k, if_pos (by omega), if_neg (by omega)]
    · rw [if_neg h, am_length, List.length_replicate, onk_length xs i y k]
      by_cases h2 : k ≤ i
      · rw [if_pos h2, if_pos (by omega)]
      · rw [if_neg h2, if_neg (by omega)]
theorem onk_hv (xs : List UInt8) (i : Nat) (y z : UInt8) : ∀ k, hv (onk xs i y k) z = fk xs z i y k
  | 0 => by
    show y ^^^ gm z 0 = y
    rw [gm_zero]
    simp
  | k + 1 => by
    unfold onk fk
    by_cases h : k = i
    · rw [if_pos h, if_pos h]
      exact onk_hv xs i y z k
    · rw [if_neg h, if_neg h, am_hv _ _ _ _ (by rw [tf_length, List.length_replicate]; exact Nat.le_refl _), hv_rep, tf_hv, onk_hv xs i y z k, UInt8.zero_xor]
      generalize fk xs z i y k = a
      generalize z ^^^ xs.getD k 0 = b
      generalize iv (xs.getD i 0 ^^^ xs.getD k 0) = c
      rw [gm_assoc, gm_comm a (gm b c), gm_comm c b]
/-- The polynomial of the first i summands. -/
def lsk (xs ys : List UInt8) : Nat → List UInt8
  | 0 => List.replicate xs.length 0
  | i + 1 => am (lsk xs ys i) (onk xs i (ys.getD i 0) xs.length) 1
theorem lsk_length (xs ys : List UInt8) : ∀ i, (lsk xs ys i).length = xs.length
  | 0 => List.length_replicate
  | i + 1 => by
    unfold lsk
    rw [am_length]
    exact lsk_length xs ys i
theorem lsk_hv (xs ys : List UInt8) (z : UInt8) : ∀ i, i ≤ xs.length → hv (lsk xs ys i) z = sk xs ys z i
  | 0, _ => hv_rep z _
  | i + 1, h => by
    unfold lsk sk
    rw [am_hv _ _ _ _ (by rw [onk_length, lsk_length, if_neg (by omega)]; exact Nat.le_refl _), one_gm, lsk_hv xs ys z i (by omega), onk_hv]
/-- A summand at its own place, and at another. -/
theorem fk_own {xs : List UInt8} (hn : xs.Nodup) {i : Nat} (hi : i < xs.length) (y : UInt8) : ∀ k, k ≤ xs.length → fk xs (xs.getD i 0) i y k = y
  | 0, _ => rfl
  | k + 1, h => by
    unfold fk
    by_cases e : k = i
    · rw [if_pos e]
      exact fk_own hn hi y k (by omega)
    · have hne : xs.getD i 0 ^^^ xs.getD k 0 ≠ 0 := fun h0 => by
        have h1 := UInt8.xor_eq_zero_iff.1 h0
        rcases Nat.lt_or_gt_of_ne e with h2 | h2
        · exact nodup_no h2 hi h1.symm hn
        · exact nodup_no h2 (by omega) h1 hn
      rw [if_neg e, fk_own hn hi y k (by omega), (iv_pos hne).1, gm_inv _ hne, gm_one]
theorem fk_other {xs : List UInt8} {i j : Nat} (hij : j ≠ i) (y : UInt8) : ∀ k, j < k → fk xs (xs.getD j 0) i y k = 0
  | 0, h => by omega
  | k + 1, h => by
    unfold fk
    by_cases e : k = j
    · subst e
      rw [if_neg hij, UInt8.xor_self, zero_gm, gm_zero]
    · have := fk_other (xs := xs) hij y k (by omega)
      rw [this]
      split
      · rfl
      · rw [zero_gm]
theorem sk_at {xs ys : List UInt8} (hn : xs.Nodup) {j : Nat} (hj : j < xs.length) : ∀ i, i ≤ xs.length → sk xs ys (xs.getD j 0) i = if j < i then ys.getD j 0 else 0
  | 0, _ => rfl
  | i + 1, h => by
    unfold sk
    rw [sk_at hn hj i (by omega)]
    by_cases e : i = j
    · subst e
      rw [if_neg (by omega), if_pos (by omega), fk_own hn hj _ _ (Nat.le_refl _), UInt8.zero_xor]
    · rw [fk_other (fun h => e h.symm) _ _ hj, UInt8.xor_zero]
      by_cases h2 : j < i
      · rw [if_pos h2, if_pos (by omega)]
      · rw [if_neg h2, if_neg (by omega)]
/-- The sum is the polynomial through the points. -/
theorem lsk_co {xs ys : List UInt8} (h : isP xs ys) : lsk xs ys xs.length = co xs ys := by
  have hl := lsk_length xs ys xs.length
  have hu := unique (xs := xs) (l := lsk xs ys xs.length) (m := co xs ys) hl (by rw [co_len h]; exact Nat.le_refl _) h.2 (fun x hx => by
    obtain ⟨j, hj, rfl⟩ := List.mem_iff_getElem.1 hx
    have e : xs[j] = xs.getD j 0 := by rw [List.getD_eq_getElem?_getD, List.getElem?_eq_getElem hj]; rfl
    rw [e, lsk_hv xs ys _ _ (Nat.le_refl _), sk_at h.2 hj _ (Nat.le_refl _), if_pos hj, co_at h j hj])
  apply List.ext_getElem
  · rw [hl, co_len h]
  · intro i h1 h2
    have := hu i h1
    rw [List.getD_eq_getElem?_getD, List.getD_eq_getElem?_getD, List.getElem?_eq_getElem h1, List.getElem?_eq_getElem h2] at this
    simpa using this
theorem sk_co {xs ys : List UInt8} (h : isP xs ys) (z : UInt8) : sk xs ys z xs.length = hv (co xs ys) z := by
  rw [← lsk_co h, lsk_hv xs ys z _ (Nat.le_refl _)]

end
section
open Go.RowKit
set_option linter.unusedVariables false
set_option linter.unusedSimpArgs false

/-- append of one byte to a row of the call's own: where it lies. -/
theorem wpList_append_b1 {B : Nat} {W : World} {ops : Array Oper} {rest : List Oper} {o : Oper} {a : Act} {Q : Exit → Act → World → Prop} (hgd : o.guard = none) (s x : Operand)
    (ho : o.op = .call { callee := .builtin .append, args := #[s, x], argTypes := #[23, 23] })
    (A : Option Addr) (n c : Nat) (xs : List Value) (hs : a.eval s = .slice A n c) (hown : W.ownsRow B 5 1 (.slice A n c) n xs) (q : Nat) (z : UInt8) (hx : a.eval x = .slice (some ⟨q, 0, none⟩) 1 1) (hq : Box W q #[bv z] 5) (hb : n ≤ 100000) (hbase : B ≤ W.heap.size)
    (h : ∀ g c' W', W'.ownsRow B 5 1 (.slice (some ⟨g, 0, none⟩) (n + 1) c') (n + 1) (xs ++ [bv z]) → W.grownBy W' (Value.slice A n c).ownBlock → ((Value.slice A n c).ownBlock = some g ∨ g = W.heap.size) → wpList Tryd.prog ops Q rest (a.put o.dst (.slice (some ⟨g, 0, none⟩) (n + 1) c')) W') : wpList Tryd.prog ops Q (o :: rest) a W := by
  obtain ⟨i0, hi0, hz0, hz1, hz2⟩ := info_parts u8_info
  have hnews : ∀ j v, [bv z][j]? = some v → W.cell? ((⟨q, 0, none⟩ : Addr).add j) = some v := fun j v hv => by
    rw [add_off, Nat.zero_add, hq.cell j]
    simpa using hv
  refine wpList_append_lies W hgd s x 23 ho B 5 i0 (.int .u8 0) 1 1 Tryd.underlying23 hi0 hz0 hz1 hz2 rfl (by decide) _ n xs hs hown ⟨q, 0, none⟩ 1 1 [bv z] hx rfl hnews (bv_one [z]) (by decide) (le_maxLen (by omega)) (by omega) hbase _ rfl ?_
  intro g c1 w' ho' hg' hat _
  exact h g c1 w' ho' hg' hat

theorem far1 {wr : World} {B k c1 c2 g1 : Nat} {A1 A2 : Option Addr} {ys : List Value} {C : Obj} (h2 : wr.ownsRow B 5 1 (.slice A2 k c2) k ys) (hap : (Value.slice A2 k c2).ownBlock = none ∨ (Value.slice A2 k c2).ownBlock ≠ (Value.slice A1 k c1).ownBlock)
    (hat : (Value.slice A1 k c1).ownBlock = some g1 ∨ g1 = (wr.alloc C).heap.size) : (Value.slice A2 k c2).ownBlock ≠ some g1 := fun e => by
  rcases hat with h | h
  · rcases hap with p | p
    · rw [p] at e
      cases e
    · exact p (e.trans h.symm)
  · have h3 := (h2.lt g1 e).2
    rw [World.size_alloc] at h
    omega
theorem pts_end {w W7 W9 : World} {k n1 c1 c2 g1 g2 c2' : Nat} {A2 : Option Addr} {xs ys : List Value} {C : Obj} (h1 : W7.ownsRow w.heap.size 5 1 (.slice (some ⟨g1, 0, none⟩) n1 c1) n1 xs) (h2 : W7.ownsRow w.heap.size 5 1 (.slice A2 k c2) k ys) (hne : (Value.slice A2 k c2).ownBlock ≠ some g1) (hb : Below w.heap.size w W7)
    (hg : (W7.alloc C).grownBy W9 (Value.slice A2 k c2).ownBlock) (hat : (Value.slice A2 k c2).ownBlock = some g2 ∨ g2 = (W7.alloc C).heap.size) :
    W9.ownsRow w.heap.size 5 1 (.slice (some ⟨g1, 0, none⟩) n1 c1) n1 xs ∧ ((Value.slice (some ⟨g2, 0, none⟩) n1 c2').ownBlock = none ∨ (Value.slice (some ⟨g2, 0, none⟩) n1 c2').ownBlock ≠ (Value.slice (some ⟨g1, 0, none⟩) n1 c1).ownBlock) ∧ Below w.heap.size w W9 := by
  have hba := (Below.refl W7.heap.size W7).alloc (Nat.le_refl _) C
  have hb2 := hb.trans (hba.mono hb.size)
  refine ⟨(own_below h1 hba).kept hg (.inr (fun e => hne e.symm)), .inr (fun e => ?_), hb2.grown hg hb2.size (fun i hi => (h2.lt i hi).1)⟩
  injection e with e
  simp only at e
  subst e
  rcases hat with h | h
  · exact hne h
  · have h3 := (h1.lt g2 rfl).2
    rw [World.size_alloc] at h
    omega

set_option maxHeartbeats 2000000 in
set_option maxRecDepth 100000 in
theorem rpoints_any (A : Option Addr) (c : Nat) (l : List Shr) (place : Nat) (w : World) (hS : SS w A l c) (hl : l.length ≤ 1000) (hix : ∀ u ∈ l, 0 ≤ u.ix ∧ u.ix ≤ 255) (hd : ∀ u ∈ l, place < u.data.length) :
    Calls Tryd.prog 41 #[.slice A l.length c, .int .i64 (place : Int)] w fun e w' => ∃ A1 c1 A2 c2, e = .returned (.tuple #[.slice A1 l.length c1, .slice A2 l.length c2]) ∧ Sl w' A1 (idxs l) c1 ∧ Sl w' A2 (colm l place) c2 ∧ Below w.heap.size w w' := by
  have HS := Lib.hid (And.intro hS (And.intro hix hd))
  have hxl : (idxs l).length = l.length := by simp [idxs]
  have hcl : (colm l place).length = l.length := by simp [colm]
  have hxa : ∀ (k : Nat) (u : Shr), l[k]? = some u → (idxs l)[k]? = some (ixb u) := fun k u hu => by
    have hk := (List.getElem?_eq_some_iff.1 hu).1
    unfold idxs
    rw [List.getElem?_map, List.getElem?_range hk, Option.map_some, hu]
    rfl
  have hca : ∀ (k : Nat) (u : Shr), l[k]? = some u → (colm l place)[k]? = some (u.data.getD place 0) := fun k u hu => by
    have hk := (List.getElem?_eq_some_iff.1 hu).1
    unfold colm
    rw [List.getElem?_map, List.getElem?_range hk, Option.map_some, hu]
    rfl
  generalize idxs l = X at *
  generalize colm l place = Y at *
  obtain ⟨n, hn⟩ : ∃ n, l.length = n := ⟨_, rfl⟩
  rw [hn] at hxl hcl
  have HN := Lib.hid (And.intro hn (And.intro hxl (And.intro hcl (And.intro hxa hca))))
  rw [hn] at hl ⊢
  clear hS hix hd hn hxl hcl hxa hca
  go_enter Tryd.func41, Tryd.ntmps41
  go_wp2_with fail
  go_loopw [6, 7, 8] (fun v1 v2 i wr => ∃ (k : Nat) (A1 : Option Addr) (c1 : Nat) (A2 : Option Addr) (c2 : Nat), k ≤ n ∧ v1 = .slice A1 k c1 ∧ v2 = .slice A2 k c2 ∧ i = .int .i64 (k : Nat) ∧ wr.ownsRow w.heap.size 5 1 (.slice A1 k c1) k ((X.take k).map bv) ∧ wr.ownsRow w.heap.size 5 1 (.slice A2 k c2) k ((Y.take k).map bv) ∧ ((Value.slice A2 k c2).ownBlock = none ∨ (Value.slice A2 k c2).ownBlock ≠ (Value.slice A1 k c1).ownBlock) ∧ Below w.heap.size w wr) (fun _ _ i _ => n - (intOf i).toNat)
  case atStart => exact ⟨0, none, 0, none, 0, Nat.zero_le _, rfl, rfl, rfl, World.ownsRow_nil _ _ _ _, World.ownsRow_nil _ _ _ _, Or.inl rfl, Below.refl _ _⟩
  case round =>
    obtain ⟨k, A1, c1, A2, c2, hk, rfl, rfl, rfl, ho1, ho2, hap, hb⟩ := hrel
    have KR := Lib.hid (And.intro ho1 (And.intro ho2 (And.intro hap hb)))
    clear ho1 ho2 hap hb
    by_cases hlt : k < n
    · obtain ⟨u, hu⟩ : ∃ u, l[k]? = some u := ⟨_, List.getElem?_eq_getElem (by rw [HN.out.1]; exact hlt)⟩
      obtain ⟨b, off, rfl, hbl, hat⟩ := HS.out.1.1 (by rw [HN.out.1]; omega)
      obtain ⟨D, d, k0, k1, k2, k3, k4, hD⟩ := hat k u hu
      have hum := List.mem_of_getElem? hu
      have hix := HS.out.2.1 u hum
      have hdl := HS.out.2.2 u hum
      have hX := HN.out.2.2.2.1 k u hu
      have hY := HN.out.2.2.2.2 k u hu
      obtain ⟨z1, hz1⟩ : ∃ z1, ixb u = z1 := ⟨_, rfl⟩
      obtain ⟨z2, hz2⟩ : ∃ z2, u.data.getD place 0 = z2 := ⟨_, rfl⟩
      rw [hz1] at hX
      rw [hz2] at hY
      obtain ⟨bd, od, rfl, hbd, hcd⟩ := hD.1 (by omega)
      have hzc : u.data[place]? = some z2 := by
        rw [← hz2, List.getD_eq_getElem?_getD, List.getElem?_eq_getElem hdl]
        rfl
      have m0 : w.cell? ⟨bd, od + place, none⟩ = some (.int .u8 (z2.toNat : Int)) := hcd place z2 hzc
      have hw1 : IntKind.u8.wrap u.ix = (z1.toNat : Int) := by
        rw [← hz1, IntKind.wrap_u8]
        unfold ixb
        rw [UInt8.toNat_ofNat']
        omega
      obtain ⟨dl, hdl2⟩ : ∃ dl, u.data.length = dl := ⟨_, rfl⟩
      rw [hdl2] at k4 hdl
      have htx : X.take (k + 1) = X.take k ++ [z1] := by rw [List.take_add_one, hX]; rfl
      have hty : Y.take (k + 1) = Y.take k ++ [z2] := by rw [List.take_add_one, hY]; rfl
      have HT := Lib.hid (And.intro htx hty)
      have HC := Lib.hid (fun W' (hb : Below w.heap.size w W') => And.intro ((hb.cell (p := ⟨b, off + k * 5 + 1, none⟩) hbl).trans k1) (And.intro ((hb.cell (p := ⟨b, off + k * 5 + 4, none⟩) hbl).trans k4) ((hb.cell (p := ⟨bd, od + place, none⟩) hbd).trans m0)))
      obtain ⟨q1, q4, q0⟩ := HC.out wr KR.out.2.2.2
      have hb1 := (Below.refl wr.heap.size wr).alloc (Nat.le_refl _) (.cells #[.int .u8 (z1.toNat : Int)] 5)
      have HA1 := Lib.hid (And.intro (own_below KR.out.1 hb1) (And.intro (own_below KR.out.2.1 hb1) (And.intro (show Box (wr.alloc (.cells #[.int .u8 (z1.toNat : Int)] 5)) wr.heap.size #[bv z1] 5 from Box.new wr _ _) (KR.out.2.2.2.trans (hb1.mono KR.out.2.2.2.size)))))
      have i1 : (0 : Int) ≤ (k : Int) := by omega
      have i2 : (k : Int) < (n : Int) := by omega
      have i3 : (0 : Int) ≤ (place : Int) := by omega
      have i4 : (place : Int) < (dl : Int) := by omega
      clear hu hat hD hum hix hX hY hz1 hz2 hcd hzc hdl2 htx hty hb1 k0 k1 k2 k3 k4 m0
      go_wp2_with (first
        | (at_builtin; refine wpList_append_b1 (B := w.heap.size) rfl (.tmp 15) (.tmp 22) rfl A1 k c1 _ rfl HA1.out.1 wr.heap.size z1 rfl HA1.out.2.2.1 (by omega) HA1.out.2.2.2.size ?_; intro g1 c1' W7 ho7 hg7 hat7; have hb7 := HA1.out.2.2.2.grown hg7 HA1.out.2.2.2.size (fun i hi => (HA1.out.1.lt i hi).1); have hne7 := far1 KR.out.2.1 KR.out.2.2.1 hat7; have H7 := Lib.hid (And.intro ho7 (And.intro (HA1.out.2.1.kept hg7 KR.out.2.2.1) (And.intro hne7 hb7))); obtain ⟨q1, q4, q0⟩ := HC.out W7 hb7; clear ho7 hg7 hat7 hb7 hne7)
        | (at_builtin; refine wpList_append_b1 (B := w.heap.size) rfl (.tmp 24) (.tmp 33) rfl A2 k c2 _ rfl (own_below H7.out.2.1 ((Below.refl W7.heap.size W7).alloc (Nat.le_refl _) (.cells #[.int .u8 (z2.toNat : Int)] 5))) W7.heap.size z2 rfl (Box.new W7 _ _) (by omega) ((H7.out.2.2.2.alloc H7.out.2.2.2.size (.cells #[.int .u8 (z2.toNat : Int)] 5)).size) ?_; intro g2 c2' W9 ho9 hg9 hat9; have H9 := Lib.hid (pts_end (c2' := c2') H7.out.1 H7.out.2.1 H7.out.2.2.1 H7.out.2.2.2 hg9 hat9); have HO9 := Lib.hid ho9; clear ho9 hg9 hat9))
      go_roundw
      case rel => exact ⟨k + 1, some ⟨g1, 0, none⟩, c1', some ⟨g2, 0, none⟩, c2', by omega, rfl, rfl, by go_num, by rw [HT.out.1, List.map_append]; exact H9.out.1, by rw [HT.out.2, List.map_append]; exact HO9.out, H9.out.2.1, H9.out.2.2⟩
      case measure => simp [intOf]; omega
    · obtain rfl : k = n := by omega
      have h1 := KR.out.1
      have h2 := KR.out.2.1
      rw [List.take_of_length_le (by rw [HN.out.2.1]; exact Nat.le_refl _)] at h1
      rw [List.take_of_length_le (by rw [HN.out.2.2.1]; exact Nat.le_refl _)] at h2
      have HF := Lib.hid (And.intro (Sl.of_own' h1 HN.out.2.1.symm) (Sl.of_own' h2 HN.out.2.2.1.symm))
      clear h1 h2
      go_wp2_with fail
      go_ret2
      exact ⟨A1, c1, A2, c2, rfl, HF.out.1, HF.out.2, KR.out.2.2.2⟩

end
section
open Go.RowKit
set_option linter.unusedVariables false
set_option linter.unusedSimpArgs false

theorem SS.takec {w : World} {A : Option Addr} {l : List Shr} {c : Nat} (h : SS w A l c) (t : Nat) : SS w A (l.take t) c := by
  refine ⟨fun hp => ?_, Nat.le_trans (List.length_take_le' t l) h.2.1, h.2.2.1, fun e => ?_⟩
  · have hp2 : 0 < l.length := by rw [List.length_take] at hp; omega
    obtain ⟨b, off, e, hb, hs⟩ := h.1 hp2
    refine ⟨b, off, e, hb, fun i s hi => hs i s ?_⟩
    rw [List.getElem?_take] at hi
    split at hi
    · exact hi
    · cases hi
  · obtain ⟨h1, h2⟩ := h.2.2.2 e
    rw [h1]
    exact ⟨List.take_nil, h2⟩
theorem idxs_nodup {l : List Shr} (h : alk l = true) (t : Nat) : (idxs (l.take t)).Nodup := by
  have h1 := places_nodup h 0 (by omega)
  have h2 : (idxs l).Nodup := (List.nodup_append.1 h1).1
  rw [idxs_map] at h2 ⊢
  exact h2.sublist ((List.take_sublist t l).map ixb)

set_option maxHeartbeats 4000000 in
set_option maxRecDepth 100000 in
theorem rjoin_any (A : Option Addr) (c : Nat) (l : List Shr) (w : World) (hS : SS w A l c) (hl : l.length ≤ 1000) :
    Calls Tryd.prog 18 #[.slice A l.length c] w (JoinPost l w) := by
  have HC := Lib.hid (rchk_any A c l w hS (by omega))
  have HS := Lib.hid hS
  clear hS
  by_cases q1 : chk l = 0
  · obtain ⟨ha, ho⟩ := chk_zero q1
    obtain ⟨s0, h0⟩ := alk_pos ha
    obtain ⟨⟨t1, t2, t3⟩, hd, hall⟩ := alk_facts ha h0
    have i0 : 0 < l.length := (List.getElem?_eq_some_iff.1 h0).1
    obtain ⟨b, off, rfl, hb, hat⟩ := HS.out.1 i0
    obtain ⟨A0, c0, z0, z1, z2, z3, z4, hs0⟩ := hat 0 s0 h0
    simp only [Nat.zero_mul, Nat.add_zero] at z0 z1 z2 z3 z4
    obtain ⟨t, ht⟩ : ∃ t : Nat, s0.th = (t : Int) := ⟨s0.th.toNat, by omega⟩
    rw [ht] at z2 t1
    have HZ := Lib.hid (fun W' (hb1 : Below w.heap.size w W') => And.intro ((hb1.cell (p := ⟨b, off + 2, none⟩) hb).trans z2) ((hb1.cell (p := ⟨b, off + 4, none⟩) hb).trans z4))
    have hje : jne l = if l.length < t then 60 else 0 := by
      unfold jne
      rw [if_neg (fun h => h q1), h0]
      show (if (l.length : Int) < s0.th then (60 : Int) else 0) = _
      rw [ht]
      by_cases h : l.length < t
      · rw [if_pos h, if_pos (by omega)]
      · rw [if_neg h, if_neg (by omega)]
    rw [q1] at HC
    have i1 : (0 : Int) < (l.length : Int) := by omega
    by_cases q2 : l.length < t
    · rw [if_pos q2] at hje
      have hjn : jn l = [] := by unfold jn; rw [hje, if_neg (by decide)]
      have HF := Lib.hid (fun w' (hb : Below w.heap.size w w') => (show JoinPost l w (.returned (.tuple #[.slice none 0 0, .int .i64 60])) w' from ⟨none, 0, by rw [hje, hjn]; rfl, by rw [hjn]; exact sl_none w', hb⟩))
      have f1 : decide ((l.length : Int) < (t : Int)) = true := decide_eq_true (by omega)
      have f2 : (l.length : Int) < (t : Int) := by omega
      clear hjn hje hall hat ha ho h0 q1 hs0 z0 z1 z2 z3 z4
      generalize l.length = n at *
      go_enter Tryd.func18, Tryd.ntmps18
      go_wp2_with fail
      refine HC.out.mono ?_
      rintro e w1 ⟨rfl, hb1⟩
      obtain ⟨k2, k4⟩ := HZ.out w1 hb1
      have HB := Lib.hid hb1
      clear hb1
      go_wp2_with fail
      go_ret2
      exact HF.out _ HB.out
    · rw [if_neg q2] at hje
      obtain ⟨dl, hdl⟩ : ∃ dl, s0.data.length = dl := ⟨_, rfl⟩
      have hjn : jn l = (List.range dl).map fun place => hv (co (idxs (l.take t)) (colm (l.take t) place)) 0 := by
        unfold jn fsts
        rw [if_pos hje, h0, ← hdl]
        show ((List.range s0.data.length).map fun place => hv (co (idxs (l.take s0.th.toNat)) (colm (l.take s0.th.toNat) place)) 0) = _
        rw [ht]
        rfl
      have hmem : ∀ s ∈ l.take t, s ∈ l := fun s hs => List.mem_of_mem_take hs
      have hlt : (l.take t).length = t := by rw [List.length_take]; omega
      have hil : (idxs (l.take t)).length = t := by simp [idxs]; omega
      have hP : ∀ k w1, Below w.heap.size w w1 → k < dl → Calls Tryd.prog 41 #[.slice (some ⟨b, off, none⟩) t c, .int .i64 (k : Int)] w1 fun e w' => ∃ A1 c1 A2 c2, e = .returned (.tuple #[.slice A1 t c1, .slice A2 t c2]) ∧ Sl w' A1 (idxs (l.take t)) c1 ∧ Sl w' A2 (colm (l.take t) k) c2 ∧ Below w1.heap.size w1 w' := fun k w1 hb1 hk => by
        have := rpoints_any (some ⟨b, off, none⟩) c (l.take t) k w1 ((HS.out.up hb1).takec t) (by omega) (fun u hu => by have := (hall u (hmem u hu)).2; omega) (fun u hu => by rw [(hall u (hmem u hu)).1.2.2, hdl]; exact hk)
        rw [hlt] at this
        exact this
      have hT : ∀ k w1 A1 c1 A2 c2, Sl w1 A1 (idxs (l.take t)) c1 → Sl w1 A2 (colm (l.take t) k) c2 → Calls Tryd.prog 42 #[.slice A1 t c1, .slice A2 t c2, .int .u8 0] w1 fun e w' => e = .returned (.tuple #[bv (hv (co (idxs (l.take t)) (colm (l.take t) k)) 0), .int .i64 0]) ∧ Below w1.heap.size w1 w' := fun k w1 A1 c1 A2 c2 h1 h2 => by
        have hcl : (colm (l.take t) k).length = t := by rw [colm_length]; exact hlt
        have hnd := idxs_nodup ha t
        have := rthru_any A1 c1 (idxs (l.take t)) A2 c2 (colm (l.take t) k) 0 w1 h1 h2 (by omega) (by omega) hnd
        rw [sk_co ⟨by omega, hnd⟩, hil, hcl] at this
        exact this
      have HPT := Lib.hid (And.intro hP hT)
      have hjl : (jn l).length = dl := by rw [hjn]; simp
      have hja : ∀ k, k < dl → (jn l)[k]? = some (hv (co (idxs (l.take t)) (colm (l.take t) k)) 0) := fun k hk => by
        rw [hjn, List.getElem?_map, List.getElem?_range hk]
        rfl
      have HJ := Lib.hid (And.intro hje (And.intro hjl hja))
      have HF := Lib.hid (fun w' A' c' (hs : Sl w' A' (jn l) c') (hb : Below w.heap.size w w') => (show JoinPost l w (.returned (.tuple #[.slice A' dl c', .int .i64 0])) w' from ⟨A', c', by rw [hje, hjl], hs, hb⟩))
      have f1 : decide ((l.length : Int) < (t : Int)) = false := decide_eq_false (by omega)
      have f2 : ¬ (l.length : Int) < (t : Int) := by omega
      have g1 : (0 : Int) ≤ (t : Int) := by omega
      have g2 : (t : Int) ≤ (c : Int) := by have := HS.out.2.1; omega
      rw [hdl] at hd HZ
      clear hjn hje hall hat ha ho h0 q1 hs0 z0 z1 z2 z3 z4 hP hT hjl hja hmem hlt hil hdl
      generalize l.length = n at *
      generalize jn l = J at *
      go_enter Tryd.func18, Tryd.ntmps18
      go_wp2_with fail
      refine HC.out.mono ?_
      rintro e w1 ⟨rfl, hb1⟩
      obtain ⟨k2, k4⟩ := HZ.out w1 hb1
      have HB := Lib.hid hb1
      clear hb1
      go_upto_region 7 with fail
      clear k2 k4
      go_wp2_with fail
      go_loopw [5, 6] (fun v i wr => ∃ (k : Nat) (A' : Option Addr) (c' : Nat), k ≤ dl ∧ v = .slice A' k c' ∧ i = .int .i64 (k : Nat) ∧ wr.ownsRow w.heap.size 5 1 (.slice A' k c') k ((J.take k).map bv) ∧ Below w.heap.size w wr) (fun _ i _ => dl - (intOf i).toNat)
      case atStart => exact ⟨0, none, 0, Nat.zero_le _, rfl, rfl, World.ownsRow_nil _ _ _ _, HB.out⟩
      case round =>
        obtain ⟨k, A', c', hk, rfl, rfl, ho, hbw⟩ := hrel
        have KR := Lib.hid (And.intro ho hbw)
        obtain ⟨k2, k4⟩ := HZ.out wr hbw
        clear ho hbw
        by_cases hlk : k < dl
        · have HP1 := Lib.hid (HPT.out.1 k wr KR.out.2 hlk)
          have hj := HJ.out.2.2 k hlk
          have HT1 := Lib.hid (HPT.out.2 k)
          obtain ⟨z, hz⟩ : ∃ z, hv (co (idxs (l.take t)) (colm (l.take t) k)) 0 = z := ⟨_, rfl⟩
          rw [hz] at hj HT1
          unfold bv at HT1
          have htk : J.take (k + 1) = J.take k ++ [z] := by rw [List.take_add_one, hj]; rfl
          have HTK := Lib.hid htk
          clear hj hz htk
          go_wp2_with fail
          refine HP1.out.mono ?_
          rintro e w2 ⟨A1, c1, A2, c2, rfl, hx1, hx2, hb2⟩
          have H2 := Lib.hid (And.intro hx1 (And.intro hx2 (And.intro (own_below KR.out.1 hb2) (KR.out.2.trans (hb2.mono KR.out.2.size)))))
          clear hx1 hx2 hb2 k2 k4
          go_wp2_with fail
          refine (HT1.out w2 A1 c1 A2 c2 H2.out.1 H2.out.2.1).mono ?_
          rintro e w3 ⟨rfl, hb3⟩
          have hb4 := (Below.refl w3.heap.size w3).alloc (Nat.le_refl _) (.cells #[.int .u8 (z.toNat : Int)] 5)
          have ho3 := own_below H2.out.2.2.1 hb3
          have hbz := H2.out.2.2.2.trans (hb3.mono H2.out.2.2.2.size)
          have H3 := Lib.hid (And.intro (own_below ho3 hb4) (hbz.trans (hb4.mono hbz.size)))
          clear hb3 hb4 ho3 hbz
          go_wp2_with (at_builtin; go_must (refine wpList_append_b1 (B := w.heap.size) rfl (.tmp 49) (.tmp 51) rfl A' k c' _ rfl H3.out.1 w3.heap.size z rfl (Box.new w3 _ _) (by omega) H3.out.2.size ?_; intro g5 c5 w5 ho5 hg5 _; have hb5 := H3.out.2.grown hg5 H3.out.2.size (fun i hi => (H3.out.1.lt i hi).1); have H5 := Lib.hid (And.intro ho5 hb5); clear ho5 hg5 hb5))
          go_roundw
          case rel => exact ⟨k + 1, some ⟨g5, 0, none⟩, c5, by omega, rfl, by go_num, by rw [HTK.out, List.map_append]; exact H5.out.1, H5.out.2⟩
          case measure => simp [intOf]; omega
        · obtain rfl : k = dl := by omega
          have h1 := KR.out.1
          rw [List.take_of_length_le (by rw [HJ.out.2.1]; exact Nat.le_refl _)] at h1
          have HR := Lib.hid (HF.out wr A' c' (Sl.of_own' h1 HJ.out.2.1.symm) KR.out.2)
          clear h1
          go_wp2_with fail
          go_ret2
          exact HR.out
  · have hje : jne l = chk l := by unfold jne; rw [if_pos q1]
    have hjn : jn l = [] := by unfold jn; rw [hje, if_neg q1]
    have HF := Lib.hid (fun w' (hb : Below w.heap.size w w') => (show JoinPost l w (.returned (.tuple #[.slice none 0 0, .int .i64 (chk l)])) w' from ⟨none, 0, by rw [hje, hjn]; rfl, by rw [hjn]; exact sl_none w', hb⟩))
    have f1 : (chk l != 0) = true := by simpa using q1
    clear hje hjn q1
    generalize chk l = ck at *
    generalize l.length = n at *
    go_enter Tryd.func18, Tryd.ntmps18
    go_wp2_with fail
    refine HC.out.mono ?_
    rintro e w1 ⟨rfl, hb1⟩
    have HB := Lib.hid hb1
    clear hb1
    go_wp2_with fail
    go_ret2
    exact HF.out _ HB.out

end
section
open Go.RowKit
set_option linter.unusedVariables false
set_option linter.unusedSimpArgs false

set_option maxHeartbeats 4000000 in
set_option maxRecDepth 100000 in
theorem lawJn_any (A0 : Option Addr) (c0 : Nat) (l : List Shr) (w : World) (hK : KT w) (hS0 : SS w A0 l c0) :
    Calls Tryd.prog 4 #[.slice A0 l.length c0] w fun e w' => e = .returned (.bool true) ∧ Below w.heap.size w w' := by
  have HS := Lib.hid (sane_any w hK)
  have HFW := Lib.hid (fun w1 (hb : Below w.heap.size w w1) => rfew_any A0 c0 l w1 (hS0.up hb))
  have b0 := Nat.le_trans hS0.2.1 hS0.2.2.1
  unfold maxLen at b0
  cases hfw : few l with
  | false =>
    rw [hfw] at HFW
    clear hfw hS0 hK
    generalize l.length = ln at *
    go_enter Tryd.func4, Tryd.ntmps4
    go_wp2_with fail
    refine HS.out.mono ?_
    rintro e w1 ⟨rfl, hb1⟩
    go_wp2_with fail
    refine (HFW.out w1 hb1).mono ?_
    rintro e w9 ⟨rfl, rfl⟩

    go_wp2_with fail
    go_ret
    exact ⟨rfl, hb1⟩
  | true =>
    have hl10 : l.length ≤ 10 := by
      unfold few at hfw
      rw [Bool.and_eq_true] at hfw
      exact of_decide_eq_true hfw.2
    rw [hfw] at HFW
    clear hfw
    have HP := Lib.hid (fun w1 (hb : Below w.heap.size w w1) => join_any A0 c0 l w1 (hK.below hb) (hS0.up hb) (by omega))
    have HQ := Lib.hid (fun w1 (hb : Below w.heap.size w w1) => rjoin_any A0 c0 l w1 (hS0.up hb) (by omega))
    unfold JoinPost at HP HQ
    obtain ⟨J, hJ⟩ : ∃ J, jn l = J := ⟨_, rfl⟩
    obtain ⟨E, hE⟩ : ∃ E, jne l = E := ⟨_, rfl⟩
    obtain ⟨jl, hjl⟩ : ∃ jl, J.length = jl := ⟨_, rfl⟩
    rw [hJ, hE, hjl] at HP HQ
    have HST := Lib.hid (fun (A : Option Addr) (c : Nat) (w' : World) (h : Sl w' A J c) => sl_str h hjl)
    clear hS0 hK hJ hE hjl
    generalize l.length = ln at *
    go_enter Tryd.func4, Tryd.ntmps4
    go_wp2_with fail
    refine HS.out.mono ?_
    rintro e w1 ⟨rfl, hb1⟩
    go_wp2_with fail
    refine (HFW.out w1 hb1).mono ?_
    rintro e w9 ⟨rfl, rfl⟩

    go_wp2_with fail
    refine (HP.out w1 hb1).mono ?_
    rintro e w2 ⟨A2, c2, rfl, hs2, hb2⟩
    have H2 := Lib.hid (And.intro hs2 (hb1.trans (hb2.mono hb1.size)))
    clear hs2 hb2 hb1
    go_wp2_with fail
    refine (HQ.out w2 H2.out.2).mono ?_
    rintro e w3 ⟨A3, c3, rfl, hs3, hb3⟩
    have H3 := Lib.hid (And.intro (H2.out.1.up hb3) (And.intro hs3 (H2.out.2.trans (hb3.mono H2.out.2.size))))
    clear hs3 hb3 H2
    have hq1 := HST.out _ _ _ H3.out.1
    have hq2 := HST.out _ _ _ H3.out.2.1
    go_wp2_with fail
    go_ret
    exact ⟨rfl, H3.out.2.2⟩

end
end Go.Proofs.YtmchnkfnnodecaaDoor
