/- RMul OwB Lat LawHide- Sumq RfEv RfFew RfAlike RfCheck RfSplit LawSpl in one text (for the limit of files). -/
import Derived.Test.YtmchnkfnnodecaaDoorInv
import Derived.Test.YtmchnkfnnodecaaDoorMem
import Derived.OrdersHeld
import Derived.Deep.RegionHeld
import Derived.Test.YtmchnkfnnodecaaDoorAnyP
import Derived.Test.YtmchnkfnnodecaaDoorExplain
import Derived.Test.YtmchnkfnnodecaaDoorRef
import Derived.Test.YtmchnkfnnodecaaDoorQl
import Derived.Lib.QuietBelow
import Derived.Deep.QuietTactic
import Derived.LoopTactic
import Derived.Test.YtmchnkfnnodecaaDoorSane
import Derived.Test.YtmchnkfnnodecaaDoorSum
import Derived.Test.YtmchnkfnnodecaaDoorAdd
import Derived.Test.YtmchnkfnnodecaaDoorSl
import Derived.Test.YtmchnkfnnodecaaDoorSh
import Derived.Test.YtmchnkfnnodecaaDoorAlike
import Derived.BigQuiet
import Derived.Deep.Cut
import Derived.Deep.CutRange
import Derived.Test.YtmchnkfnnodecaaDoorCheck
import Derived.Test.YtmchnkfnnodecaaDoorSplit
import Derived.Deep.RegionHeld3
namespace Go.Proofs.YtmchnkfnnodecaaDoor
section
open Go.RowKit
set_option linter.unusedVariables false

/-- The reduction, one power after the other: j steps. -/
def rs (p : Nat) : Nat → Nat
  | 0 => p
  | j + 1 => if (rs p j).testBit (14 - j) then rs p j ^^^ 283 <<< (6 - j) else rs p j
theorem rs_lt (p : Nat) (hp : p < 32768) : ∀ j, rs p j < 32768
  | 0 => hp
  | j + 1 => by
    have ih := rs_lt p hp j
    have h2 : (283 : Nat) <<< (6 - j) < 2 ^ 15 := by
      have h1 : 2 ^ (6 - j) ≤ 2 ^ 6 := Nat.pow_le_pow_right (by omega) (by omega)
      rw [Nat.shiftLeft_eq]
      have := Nat.mul_le_mul (Nat.le_refl 283) h1
      omega
    unfold rs
    split
    · exact Nat.xor_lt_two_pow (n := 15) ih h2
    · exact ih
theorem rs_xor (p q : Nat) : ∀ j, rs (p ^^^ q) j = rs p j ^^^ rs q j
  | 0 => rfl
  | j + 1 => by
    simp only [rs]
    rw [rs_xor p q j, Nat.testBit_xor]
    generalize rs p j = x
    generalize rs q j = y
    generalize (283 : Nat) <<< (6 - j) = z
    cases x.testBit (14 - j) <;> cases y.testBit (14 - j)
    · rfl
    · exact Nat.xor_assoc x y z
    · show (x ^^^ y) ^^^ z = (x ^^^ z) ^^^ y
      rw [Nat.xor_assoc, Nat.xor_comm y z, Nat.xor_assoc]
    · show x ^^^ y = (x ^^^ z) ^^^ (y ^^^ z)
      rw [xor4, Nat.xor_self, Nat.xor_zero]
/-- Two functions that keep sums and agree at the single bits agree. -/
theorem lin_all (N : Nat) (f g : Nat → Nat) (hf : ∀ x y, x < 2 ^ N → y < 2 ^ N → f (x ^^^ y) = f x ^^^ f y) (hg : ∀ x y, x < 2 ^ N → y < 2 ^ N → g (x ^^^ y) = g x ^^^ g y)
    (h : ∀ i, i < N → f (2 ^ i) = g (2 ^ i)) : ∀ k, k ≤ N → ∀ p, p < 2 ^ k → f p = g p
  | 0, _, p, hp => by
    obtain rfl : p = 0 := by simpa using hp
    have e1 := hf 0 0 (Nat.two_pow_pos N) (Nat.two_pow_pos N)
    have e2 := hg 0 0 (Nat.two_pow_pos N) (Nat.two_pow_pos N)
    rw [Nat.xor_self] at e1 e2
    rw [Nat.xor_self] at e1 e2
    rw [e1, e2]
  | k + 1, hk, p, hp => by
    by_cases hlt : p < 2 ^ k
    · exact lin_all N f g hf hg h k (by omega) p hlt
    · have hN : 2 ^ k < 2 ^ N := Nat.pow_lt_pow_right (by omega) (by omega)
      have hpb : p / 2 ^ k = 1 := by
        apply Nat.div_eq_of_lt_le
        · omega
        · rw [Nat.pow_succ] at hp; omega
      have hq : p ^^^ 2 ^ k < 2 ^ k := by
        apply Nat.lt_pow_two_of_testBit
        intro i hi
        rw [Nat.testBit_xor, Nat.testBit_two_pow]
        by_cases e : k = i
        · subst e
          rw [Nat.testBit_eq_decide_div_mod_eq, hpb]
          simp
        · rw [Nat.testBit_lt_two_pow (Nat.lt_of_lt_of_le hp (Nat.pow_le_pow_right (by omega) (by omega)))]
          simp [e]
      have e : p = (p ^^^ 2 ^ k) ^^^ 2 ^ k := by rw [Nat.xor_assoc, Nat.xor_self, Nat.xor_zero]
      have ih := lin_all N f g hf hg h k (by omega) _ hq
      rw [e, hf _ _ (Nat.lt_trans hq hN) hN, hg _ _ (Nat.lt_trans hq hN) hN, ih, h k (by omega)]
theorem rs_red (p : Nat) (hp : p < 32768) : rs p 7 = red p := by
  have hd : allB (fun i => rs (2 ^ i) 7 == red (2 ^ i)) 15 = true := by decide +kernel
  exact lin_all 15 (fun p => rs p 7) red (fun x y _ _ => rs_xor x y 7) (fun x y hx hy => red_xor x y hx hy) (fun i hi => by simpa using allB_at hd i hi) 15 (Nat.le_refl _) p hp
theorem bit_rem (p k : Nat) : ((p : Int) / 2 ^ k).tmod 2 = if p.testBit k then 1 else 0 := by
  have h1 : ((p : Int) / 2 ^ k) = ((p / 2 ^ k : Nat) : Int) := by simp
  rw [h1, Nat.testBit_eq_decide_div_mod_eq]
  generalize p / 2 ^ k = d
  rw [Int.tmod_eq_emod_of_nonneg (by omega)]
  by_cases e : d % 2 = 1
  · rw [if_pos (decide_eq_true e)]; omega
  · rw [if_neg (by rw [decide_eq_false e]; simp)]; omega

theorem red_int (q j : Nat) (hq : q < 32768) (hj : j < 7) : bits .xor .i64 (rs q j : Int) (wrap64 (283 * 2 ^ (14 - j - 8))) = ((rs q j ^^^ 283 <<< (6 - j) : Nat) : Int) := by
  have h1 := rs_lt q hq j
  have h2 : (283 : Nat) <<< (6 - j) < 2 ^ 15 := by
    have h1 : 2 ^ (6 - j) ≤ 2 ^ 6 := Nat.pow_le_pow_right (by omega) (by omega)
    rw [Nat.shiftLeft_eq]
    have := Nat.mul_le_mul (Nat.le_refl 283) h1
    omega
  have h3 : (283 : Int) * (2 : Int) ^ (14 - j - 8) = (((283 : Nat) <<< (6 - j) : Nat) : Int) := by
    rw [Nat.shiftLeft_eq, show 14 - j - 8 = 6 - j by omega]
    simp
  rw [h3]
  generalize (283 : Nat) <<< (6 - j) = z at *
  rw [IntWalk.wrap64_in _ ⟨by omega, by omega⟩, xor_i _ _ (by omega) (by omega)]

set_option maxHeartbeats 400000 in
set_option maxRecDepth 100000 in
theorem rmul_any (a b : UInt8) (w : World) :
    Calls Tryd.prog 55 #[bv a, bv b] w fun e w' => e = .returned (bv (gm a b)) ∧ w = w' := by
  have e0 : bv (gm a b) = .int .u8 (rs (pr a.toNat b.toNat 8) 7 : Int) := by
    unfold bv
    rw [gm_nat, rs_red _ (pr8_lt _ _ (u8_lt a))]
    rfl
  rw [e0]
  clear e0
  unfold bv
  have ha := u8_lt a
  have hb := u8_lt b
  have hp8 := pr8_lt a.toNat b.toNat ha
  have hr7 : rs (pr a.toNat b.toNat 8) 7 < 256 := by
    rw [rs_red _ hp8]
    exact red2_lt _
  generalize a.toNat = a at *
  generalize b.toNat = b at *
  obtain ⟨q, hq8⟩ : ∃ q, pr a b 8 = q := ⟨_, rfl⟩
  rw [hq8] at hp8 hr7 ⊢
  have HP8 := Lib.hid (And.intro hp8 hr7)
  have HQ8 := Lib.hid hq8
  clear hp8 hr7 hq8
  go_enter Tryd.func55, Tryd.ntmps55
  go_wp2_with fail
  go_loop [5, 6] (fun p i => ∃ k : Nat, k ≤ 8 ∧ i = .int .i64 k ∧ p = .int .i64 (pr a b k : Nat)) (fun _ i => 8 - (intOf i).toNat)
  case atStart => exact ⟨0, by omega, rfl, rfl⟩
  case round =>
    obtain ⟨k, hk, rfl, rfl⟩ := hrel
    by_cases hlt : k < 8
    · have hbit := bit_rem b k
      by_cases ht : b.testBit k = true
      · rw [if_pos ht] at hbit
        go_wp2_with fail
        go_round
        case rel =>
          refine ⟨k + 1, by omega, by go_num, ?_⟩
          simp only [pr]
          rw [if_pos ht]
          exact congrArg (Value.int .i64) (step_int a b k ha hlt)
        case measure => simp [intOf]; omega
      · rw [if_neg ht] at hbit
        go_wp2_with fail
        go_round
        case rel =>
          refine ⟨k + 1, by omega, by go_num, ?_⟩
          simp only [pr]
          rw [if_neg ht]
        case measure => simp [intOf]; omega
    · obtain rfl : k = 8 := by omega
      rw [HQ8.out]
      go_wp2_with fail
      go_loop [5, 7] (fun p i => ∃ j : Nat, j ≤ 7 ∧ i = .int .i64 ((14 - j : Nat) : Int) ∧ p = .int .i64 (rs q j : Nat)) (fun _ i => (intOf i).toNat)
      case atStart => exact ⟨0, by omega, rfl, rfl⟩
      case round =>
        obtain ⟨j, hj, rfl, rfl⟩ := hrel
        by_cases hlt : j < 7
        · have hbit := bit_rem (rs q j) (14 - j)
          have hq := rs_lt q HP8.out.1 j
          have HQ := Lib.hid hq
          have hi : 8 ≤ 14 - j := by omega
          have hi2 : 14 - j ≤ 14 := by omega
          by_cases ht : (rs q j).testBit (14 - j) = true
          · rw [if_pos ht] at hbit
            go_wp2_with fail
            go_round
            case rel =>
              refine ⟨j + 1, by omega, by rw [show ((14 - (j + 1) : Nat) : Int) = ((14 - j : Nat) : Int) - 1 by omega], ?_⟩
              simp only [rs]
              rw [if_pos ht]
              exact congrArg (Value.int .i64) (red_int q j HP8.out.1 hlt)
            case measure => simp [intOf]; omega
          · rw [if_neg ht] at hbit
            go_wp2_with fail
            go_round
            case rel =>
              refine ⟨j + 1, by omega, by rw [show ((14 - (j + 1) : Nat) : Int) = ((14 - j : Nat) : Int) - 1 by omega], ?_⟩
              simp only [rs]
              rw [if_neg ht]
            case measure => simp [intOf]; omega
        · obtain rfl : j = 7 := by omega
          have hq := HP8.out.2
          go_wp2_with fail
          go_ret
          exact ⟨rfl, rfl⟩

/-- The inverse and the error. -/
def iv (a : UInt8) : UInt8 := if a = 0 then 0 else ginv a
def ie (a : UInt8) : Int := if a = 0 then 1 else 0
theorem iv_zero : iv 0 = 0 ∧ ie 0 = 1 := ⟨rfl, rfl⟩
theorem iv_pos {a : UInt8} (h : a ≠ 0) : iv a = ginv a ∧ ie a = 0 := ⟨if_neg h, if_neg h⟩
theorem u8_of {a : UInt8} {k : Nat} (h : k < 256) (e : UInt8.ofNat k = a) : k = a.toNat := by
  rw [← e, UInt8.toNat_ofNat_of_lt' (by simpa [UInt8.size] using h)]
set_option maxHeartbeats 400000 in
set_option maxRecDepth 100000 in
theorem rinv_any (a : UInt8) (w : World) :
    Calls Tryd.prog 74 #[bv a] w fun e w' => e = .returned (.tuple #[bv (iv a), .int .i64 (ie a)]) ∧ w = w' := by
  have hM : ∀ k : Nat, k < 256 → Calls Tryd.prog 55 #[bv a, .int .u8 (k : Int)] w fun e w' => e = .returned (.int .u8 ((gm a (UInt8.ofNat k)).toNat : Int)) ∧ w = w' := fun k hk => by
    rw [← bv_of k hk]
    exact rmul_any a (UInt8.ofNat k) w
  have HM := Lib.hid hM
  clear hM
  generalize hAV : bv a = av at *
  go_enter Tryd.func74, Tryd.ntmps74
  go_wp2_with fail
  go_loop [4] (fun i => ∃ k : Nat, 1 ≤ k ∧ k ≤ 256 ∧ i = .int .i64 k ∧ ∀ j, 1 ≤ j → j < k → gm a (UInt8.ofNat j) ≠ 1) (fun i => 256 - (intOf i).toNat)
  case atStart => exact ⟨1, by omega, by omega, rfl, fun j h1 h2 => by omega⟩
  case round =>
    obtain ⟨k, hk1, hk, rfl, hno⟩ := hrel
    have HNO := Lib.hid hno
    clear hno
    by_cases hlt : k < 256
    · have HMK := Lib.hid (HM.out k hlt)
      obtain ⟨z, hz⟩ : ∃ z, gm a (UInt8.ofNat k) = z := ⟨_, rfl⟩
      rw [hz] at HMK
      have HZ := Lib.hid hz
      clear hz
      by_cases h1 : z = 1
      · subst h1
        go_wp2_with fail
        refine HMK.out.mono ?_
        rintro e w1 ⟨rfl, rfl⟩
        go_wp2_with fail
        go_ret2
        have hu := inv_unique HZ.out
        have ha : a ≠ 0 := by
          rintro rfl
          have := HZ.out
          rw [zero_gm] at this
          exact absurd this (by decide)
        refine ⟨?_, rfl⟩
        rw [(iv_pos ha).1, (iv_pos ha).2, ← hu, bv_of k hlt]
        rfl
      · have hd : ((z.toNat : Int) == 1) = false := by
          rw [beq_eq_false_iff_ne]
          exact fun e => h1 (bv_inj.1 (e.trans rfl))
        go_wp2_with fail
        refine HMK.out.mono ?_
        rintro e w1 ⟨rfl, rfl⟩
        go_wp2_with fail
        go_round
        case rel =>
          refine ⟨k + 1, by omega, by omega, by go_num, fun j hj1 hj2 => ?_⟩
          by_cases e : j = k
          · subst e
            rw [HZ.out]
            exact h1
          · exact HNO.out j hj1 (by omega)
        case measure => simp [intOf]; omega
    · obtain rfl : k = 256 := by omega
      have ha : a = 0 := by
        refine Classical.byContradiction fun ha => ?_
        have h0 := inv_ne a ha
        have h1 := HNO.out (ginv a).toNat (by
          rcases Nat.eq_zero_or_pos (ginv a).toNat with e | e
          · exact absurd (UInt8.toNat_inj.1 (e.trans rfl)) h0
          · exact e) (u8_lt _)
        rw [UInt8.ofNat_toNat] at h1
        exact h1 (gm_inv a ha)
      go_wp2_with fail
      go_ret2
      refine ⟨?_, rfl⟩
      subst ha
      rfl

end
section
open Go.RowKit
set_option linter.unusedVariables false
set_option linter.unusedSimpArgs false

/-- Two rows of two types lie in two blocks. -/
theorem own_types {w : World} {B1 B2 s1 s2 n1 n2 : Nat} {e1 e2 : TypeId} {v1 v2 : Value} {xs1 xs2 : List Value} (h1 : w.ownsRow B1 e1 s1 v1 n1 xs1) (h2 : w.ownsRow B2 e2 s2 v2 n2 xs2) (hne : e1 ≠ e2) : v1.ownBlock = none ∨ v1.ownBlock ≠ v2.ownBlock := by
  rcases h1.2 with ⟨hv, _⟩ | ⟨g, cap, cur, hv, _, hg, _⟩
  · subst hv
    exact .inl rfl
  · subst hv
    refine .inr (fun e => ?_)
    rcases h2.2 with ⟨hv2, _⟩ | ⟨g2, cap2, cur2, hv2, _, hg2, _⟩
    · subst hv2
      cases e
    · subst hv2
      injection e with e
      simp only at e
      subst e
      rw [hg] at hg2
      injection hg2 with hg2
      injection hg2 with _ hg2
      exact hne hg2
theorem box_own {w : World} {b B s n : Nat} {cs : Array Value} {t e : TypeId} {v : Value} {xs : List Value} (hb : Box w b cs t) (h : w.ownsRow B e s v n xs) (hne : t ≠ e) : v.ownBlock ≠ some b := by
  intro e1
  rcases h.2 with ⟨hv, _⟩ | ⟨g, cap, cur, hv, _, hg, _⟩
  · subst hv
    cases e1
  · subst hv
    injection e1 with e1
    simp only at e1
    subst e1
    unfold Box at hb
    rw [hb] at hg
    injection hg with hg
    injection hg with _ hg
    exact hne hg
theorem Sl.of_own {w : World} {B d : Nat} {D : Option Addr} {l : List UInt8} (h : w.ownsRow B 5 1 (.slice D l.length d) l.length (l.map bv)) : Sl w D l d := by
  have h1 := Bs.of_own h
  refine ⟨h1.1, h1.2.1, h1.2.2, fun hA => ?_⟩
  subst hA
  rcases h.2 with ⟨hv, hn⟩ | ⟨g, cap, cur, hv, _⟩
  · injection hv with _ _ hc
    exact ⟨List.length_eq_zero_iff.1 hn, hc⟩
  · injection hv with hv
    cases hv
def OB (w0 w : World) (A : Option Addr) (c : Nat) (l : List Shr) : Prop := ∃ bs : List (List Value), bs.length = l.length ∧ (∀ b ∈ bs, b.length = 5) ∧ w.ownsRow w0.heap.size 41 5 (.slice A l.length c) l.length bs.flatten ∧
  ∀ (i : Nat) (s : Shr), l[i]? = some s → ∃ D d, bs[i]? = some (shc s D d) ∧ w.ownsRow w0.heap.size 5 1 (.slice D s.data.length d) s.data.length (s.data.map bv)
theorem OB.nil (w0 w : World) : OB w0 w none 0 [] := ⟨[], rfl, by simp, World.ownsRow_nil _ _ _ _, fun i s hi => by cases hi⟩
theorem OB.up {w0 w w' : World} {A : Option Addr} {c : Nat} {l : List Shr} (h : OB w0 w A c l) (hb : Below w.heap.size w w') : OB w0 w' A c l := by
  obtain ⟨bs, hl, h5, ho, hs⟩ := h
  refine ⟨bs, hl, h5, own_below ho hb, fun i s hi => ?_⟩
  obtain ⟨D, d, h1, h2⟩ := hs i s hi
  exact ⟨D, d, h1, own_below h2 hb⟩
theorem OB.ss {w0 w : World} {A : Option Addr} {c : Nat} {l : List Shr} (h : OB w0 w A c l) : SS w A l c := by
  obtain ⟨bs, hl, h5, ho, hs⟩ := h
  exact OwnS.ss (B := w0.heap.size) (w := w) ⟨bs, hl, h5, ho, fun i s hi => by
    obtain ⟨D, d, h1, h2⟩ := hs i s hi
    exact ⟨D, d, h1, Sl.of_own h2⟩⟩ (Below.refl _ _)
/-- append of one share whose bytes are the call's own. -/
theorem wpList_append_ob {w0 w : World} {ops : Array Oper} {rest : List Oper} {o : Oper} {a : Act} {Q : Exit → Act → World → Prop} (hgd : o.guard = none) (s x : Operand)
    (ho : o.op = .call { callee := .builtin .append, args := #[s, x], argTypes := #[22, 22] })
    (A : Option Addr) (l : List Shr) (n c : Nat) (hn : l.length = n) (hs : a.eval s = .slice A n c) (hO : OB w0 w A c l) (q : Nat) (u : Shr) (D : Option Addr) (d : Nat) (hx : a.eval x = .slice (some ⟨q, 0, none⟩) 1 1)
    (hq : Box w q #[.int .i64 u.ep, .int .i64 u.ix, .int .i64 u.th, .int .i64 u.mn, .slice D u.data.length d] 41) (hD : w.ownsRow w0.heap.size 5 1 (.slice D u.data.length d) u.data.length (u.data.map bv)) (hb : n ≤ 100000) (hb0 : Below w0.heap.size w0 w)
    (h : ∀ A' c' w', OB w0 w' A' c' (l ++ [u]) → Below w0.heap.size w0 w' → wpList Tryd.prog ops Q rest (a.put o.dst (.slice A' (n + 1) c')) w') : wpList Tryd.prog ops Q (o :: rest) a w := by
  subst hn
  obtain ⟨i0, hi0, hz0, hz1, hz2⟩ := info_parts sh_info
  obtain ⟨bs, hl, h5, hown, hss⟩ := hO
  have hnews : ∀ j v, (shc u D d)[j]? = some v → w.cell? ((⟨q, 0, none⟩ : Addr).add j) = some v := World.news_of_block hq
  refine wpList_append_own w hgd s x 22 ho w0.heap.size 41 i0 (.agg #[.int .i64 0, .int .i64 0, .int .i64 0, .int .i64 0, .slice none 0 0]) 5 56 Tryd.underlying22 hi0 hz0 hz1 hz2 rfl (by decide) _ l.length bs.flatten hs hown ⟨q, 0, none⟩ 1 1 (shc u D d) hx rfl hnews (shc_one u D d) (le_maxLen (by omega)) (by omega) hb0.size ?_
  intro v' w' ho' hg' _
  obtain ⟨A1, c1, rfl⟩ := own_form ho'
  have hkeep : ∀ {D2 : Option Addr} {n2 d2 : Nat} {xs : List Value}, w.ownsRow w0.heap.size 5 1 (.slice D2 n2 d2) n2 xs → w'.ownsRow w0.heap.size 5 1 (.slice D2 n2 d2) n2 xs := fun h2 => h2.kept hg' (own_types h2 hown (by decide))
  refine h A1 c1 w' ⟨bs ++ [shc u D d], by simp [hl], fun b hb => ?_, ?_, fun i t hi => ?_⟩ (hb0.grown hg' hb0.size (fun i hi => (hown.lt i hi).1))
  · rcases List.mem_append.1 hb with h | h
    · exact h5 b h
    · rw [List.mem_singleton.1 h]
      rfl
  · rw [List.length_append, List.flatten_append]
    simpa using ho'
  · by_cases e : i < l.length
    · rw [List.getElem?_append_left e] at hi
      obtain ⟨D2, d2, h1, h2⟩ := hss i t hi
      exact ⟨D2, d2, by rw [List.getElem?_append_left (by omega)]; exact h1, hkeep h2⟩
    · have hil := (List.getElem?_eq_some_iff.1 hi).1
      rw [List.length_append, List.length_singleton] at hil
      obtain rfl : i = l.length := by omega
      rw [List.getElem?_append_right (Nat.le_refl _)] at hi
      simp at hi
      subst hi
      exact ⟨D, d, by rw [List.getElem?_append_right (by omega), hl]; simp, hkeep hD⟩

end
section
set_option linter.unusedVariables false
section
variable {P : Program} {md : Region.Mode} {ops : Array Oper} {Q : Exit → Act → World → Prop} {st : Nat} {D : World → Prop}

/-- D holds as long as operation st has not come up. -/
def Lt (st : Nat) (D : World → Prop) (listed : Array Bool) (w : World) : Prop := listed.getD st true = false → D w
def wpAnyL (P : Program) (md : Region.Mode) (ops : Array Oper) (Q : Exit → Act → World → Prop) (st : Nat) (D : World → Prop) : Nat → Array Bool → Act → World → Prop
  | 0, listed, a, w => Region.ready md ops listed = [] ∧ Q .normal a w
  | fuel + 1, listed, a, w =>
    (Region.ready md ops listed = [] → Q .normal a w) ∧
    ∀ i ∈ Region.ready md ops listed, wpOp P ops Q i (fun a' w' => Lt st D (listed.setIfInBounds i true) w' ∧ wpAnyL P md ops Q st D fuel (listed.setIfInBounds i true) a' w') a w
theorem wpAny_of_later : ∀ (fuel : Nat) (listed : Array Bool) (a : Act) (w : World), wpAnyL P md ops Q st D fuel listed a w → wpAny P md ops Q fuel listed a w
  | 0, _, _, _, h => h
  | fuel + 1, _, _, _, h => ⟨h.1, fun i hi => wpOp_mono (fun a' w' h' => wpAny_of_later fuel _ a' w' h'.2) (h.2 i hi)⟩
theorem wpAnyL_first {i : Nat} {oi : Oper} {v : Value} (hi : ops[i]? = some oi) (hsel : ∀ (j : Nat) (o : Oper) cs b, ops[j]? = some o → o.op ≠ .select cs b)
    (hQ : ∀ c a w, Q (.panic c) (a.put oi.dst v) w → Q (.panic c) a w) (hne : i ≠ st) {os : Oper} (hos : ops[st]? = some os) (hst : ∃ e ∈ os.after, Region.binds md e = true ∧ e.on = i) :
    ∀ (fuel : Nat) (listed : Array Bool) (a : Act) (w : World),
      (∀ j oj, ops[j]? = some oj → j ≠ i → listed.getD j true = false → (∀ e ∈ oj.after, Region.binds md e = true → e.on ≠ i) → oi.apart ops oj = true) →
      i ∈ Region.ready md ops listed → listed.getD st true = false → YieldsIf P ops D oi v a → D w →
      wpAnyL P md ops Q st D fuel (listed.setIfInBounds i true) (a.put oi.dst v) w → wpAnyL P md ops Q st D (fuel + 1) listed a w := by
  intro fuel
  induction fuel with
  | zero =>
    intro listed a w _ hr hs hy hS H
    refine ⟨fun h => (by rw [h] at hr; cases hr), fun j hj => ?_⟩
    by_cases hji : j = i
    · subst hji; exact hy.wpOp hi hS ⟨fun _ => hS, H⟩
    · have := ready_mono hj hji
      rw [H.1] at this
      cases this
  | succ fuel ih =>
    intro listed a w hfree hr hs hy hS H
    refine ⟨fun h => (by rw [h] at hr; cases hr), fun j hj => ?_⟩
    by_cases hji : j = i
    · subst hji; exact hy.wpOp hi hS ⟨fun _ => hS, H⟩
    · have h1 := H.2 j (ready_mono hj hji)
      obtain ⟨hjun, oj, hoj, hall⟩ := mem_ready.1 hj
      have hnot : ∀ e ∈ oj.after, Region.binds md e = true → e.on ≠ i := fun e he hb heq => by
        have h1 := hall e he hb
        have h0 := (mem_ready.1 hr).1
        rw [heq] at h1
        rcases Nat.lt_or_ge i listed.size with h' | h'
        · simp [h'] at h0 h1; rw [h0] at h1; cases h1
        · simp [Array.getElem?_eq_none h'] at h1
      have hjst : j ≠ st := fun e => by
        subst e
        rw [hoj] at hos
        cases hos
        obtain ⟨e, he, hb, ho⟩ := hst
        exact hnot e he hb ho
      have h2 := wpOp_putIf hoj (hfree j oj hoj hji hjun hnot) (fun cs b => hsel i oi cs b hi) (fun cs b => hsel j oj cs b hoj) hQ hy h1
      have hfree' : ∀ k ok, ops[k]? = some ok → k ≠ i → (listed.setIfInBounds j true).getD k true = false →
          (∀ e ∈ ok.after, Region.binds md e = true → e.on ≠ i) → oi.apart ops ok = true := fun k ok hk hki hun hno => by
        refine hfree k ok hk hki ?_ hno
        by_cases hjk : j = k
        · subst hjk; exact hjun
        · rw [getD_set_ne true hjk] at hun; exact hun
      have hs2 : (listed.setIfInBounds j true).getD st true = false := by rw [getD_set_ne true hjst]; exact hs
      have hD : ∀ w', Lt st D ((listed.setIfInBounds i true).setIfInBounds j true) w' → D w' := fun w' h => h (by rw [getD_set_ne true hjst, getD_set_ne true hne]; exact hs)
      refine wpOp_mono (fun a' w' h3 => ⟨fun _ => hD w' h3.2.1, ih (listed.setIfInBounds j true) a' w' hfree' (ready_mono hr (Ne.symm hji)) hs2 h3.1 (hD w' h3.2.1) ?_⟩) h2
      rw [Array.setIfInBounds_comm _ _ hji]
      exact h3.2.2
/-- An operation is taken first; its slot is told. -/
theorem takeL {i : Nat} {oi os : Oper} {d : Option Tmp} {v : Value} {fuel : Nat} {listed : Array Bool} {a : Act} {w : World} (hi : ops[i]? = some oi) (hd : oi.dst = d) (hs : Region.noSelect ops = true) (hf : Region.free md ops listed i = true)
    (hr : (Region.ready md ops listed).contains i = true) (hQ : ∀ c a w, Q (.panic c) (a.put oi.dst v) w → Q (.panic c) a w) (hos : ops[st]? = some os) (hst : (i != st && !(listed.getD st true) && os.after.any (fun e => Region.binds md e && e.on == i)) = true)
    (hy : YieldsIf P ops D oi v a) (hD : D w) (h : wpAnyL P md ops Q st D fuel (listed.setIfInBounds i true) (a.put d v) w) : wpAnyL P md ops Q st D (fuel + 1) listed a w := by
  simp only [Bool.and_eq_true, bne_iff_ne, ne_eq, Bool.not_eq_true'] at hst
  refine wpAnyL_first hi (Region.noSelect_spec hs) hQ hst.1.1 hos ?_ fuel listed a w (Region.free_spec hi hf) (by simpa using hr) hst.1.2 hy hD (hd ▸ h)
  obtain ⟨k, hk, he⟩ := Array.any_eq_true.1 hst.2
  simp only [Bool.and_eq_true, beq_iff_eq] at he
  exact ⟨_, Array.getElem_mem hk, he⟩
/-- The only operation that may come up. -/
theorem oneL {i : Nat} {o : Oper} {fuel : Nat} {listed : Array Bool} {a : Act} {w : World} (hr : Region.ready md ops listed = [i]) (ho : ops[i]? = some o)
    (h : ∀ K' : Act → World → Prop, Shut (∀ a w, Lt st D (listed.setIfInBounds i true) w → wpAnyL P md ops Q st D fuel (listed.setIfInBounds i true) a w → K' a w) → if Region.wanted o (yielded ops a.tmps) = true then Oper.wp P o a w K' Q else K' (a.put o.dst undef) w) :
    wpAnyL P md ops Q st D (fuel + 1) listed a w := by
  refine ⟨fun h0 => absurd (hr ▸ h0) (by simp), fun j hj => ?_⟩
  rw [hr] at hj
  rw [List.mem_singleton.1 hj]
  exact wpOp_step ho (fun K' hK => h K' (fun a w hS hW => hK a w ⟨hS, hW⟩))
theorem doneL {listed : Array Bool} {a : Act} {w : World} (hr : Region.ready md ops listed = []) (h : Q .normal a w) : ∀ fuel, wpAnyL P md ops Q st D fuel listed a w
  | 0 => ⟨hr, h⟩
  | _ + 1 => ⟨fun _ => h, by rw [hr]; simp⟩
theorem wp_region_later {id : Nat} {a : Act} {w : World} (st : Nat) (D : World → Prop) (hm : P.follows .mixedOrders = true)
    (h : wpAnyL P .any ops Q st D ops.size (Array.replicate ops.size false) a w.drew) : (Code.region id ops true).wp P Q a w := wp_region_any hm (wpAny_of_later _ _ _ _ h)
end

end
section
section
open Go.RowKit Go.Sort
set_option linter.unusedVariables false

set_option maxHeartbeats 2000000 in
set_option maxRecDepth 100000 in
theorem samesh_any (s : Shr) (A1 A2 : Option Addr) (c1 c2 : Nat) (w : World) (h1 : Sl w A1 s.data c1) (h2 : Sl w A2 s.data c2) : Calls Tryd.prog 36 #[shv s A1 c1, shv s A2 c2] w fun e w' => e = .returned (.bool true) ∧ Below w.heap.size w w' := by
  have hb0 : Below w.heap.size w ((w.alloc (.cells #[.int .i64 s.ep, .int .i64 s.ix, .int .i64 s.th, .int .i64 s.mn, .slice A1 s.data.length c1] 41)).alloc (.cells #[.int .i64 s.ep, .int .i64 s.ix, .int .i64 s.th, .int .i64 s.mn, .slice A2 s.data.length c2] 41)) :=
    ((Below.refl _ w).alloc (Nat.le_refl _) _).alloc (by simp) _
  have e1 := sl_str (h1.up hb0) rfl
  have e2 := sl_str (h2.up hb0) rfl
  have HB := Lib.hid hb0
  clear hb0 h1 h2
  unfold shv
  generalize (ByteArray.mk s.data.toArray) = str at *
  generalize s.data.length = n at *
  go_enter Tryd.func36, Tryd.ntmps36
  go_wp2_with fail
  go_ret
  exact ⟨rfl, HB.out⟩

set_option maxHeartbeats 2000000 in
set_option maxRecDepth 100000 in
theorem sames_any (A A2 : Option Addr) (c c2 n : Nat) (l : List Shr) (w : World) (hS : SS w A l c) (hS2 : SS w A2 l c2) (hn : l.length = n) (hl : n ≤ 1000000) :
    Calls Tryd.prog 16 #[.slice A n c, .slice A2 n c2] w fun e w' => e = .returned (.bool true) ∧ Below w.heap.size w w' := by
  have HS := Lib.hid (And.intro hS hS2)
  have HN := Lib.hid hn
  clear hS hS2 hn
  go_enter Tryd.func16, Tryd.ntmps16
  go_wp2_with fail
  go_loopw [5] (fun i wr => ∃ k : Nat, k ≤ n ∧ i = .int .i64 k ∧ Below w.heap.size w wr) (fun i _ => n - (intOf i).toNat)
  case atStart => exact ⟨0, Nat.zero_le _, rfl, Below.refl _ _⟩
  case round =>
    obtain ⟨k, hk, rfl, hbw⟩ := hrel
    have HBW := Lib.hid hbw
    by_cases hlt : k < n
    · obtain ⟨b, off, rfl, hb, hat⟩ := HS.out.1.1 (by rw [HN.out]; omega)
      obtain ⟨b2, off2, rfl, hb2, hat2⟩ := HS.out.2.1 (by rw [HN.out]; omega)
      obtain ⟨s, hs⟩ : ∃ s, l[k]? = some s := ⟨l[k]'(by rw [HN.out]; exact hlt), List.getElem?_eq_getElem _⟩
      obtain ⟨D1, d1, a0, a1, a2, a3, a4, aD⟩ := (hat k s hs).up hb hbw
      obtain ⟨D2, d2, e0, e1, e2, e3, e4, eD⟩ := (hat2 k s hs).up hb2 hbw
      have hsn := fun W (h : Below wr.heap.size wr W) => samesh_any s D1 D2 d1 d2 W (aD.up h) (eD.up h)
      unfold shv at hsn
      have HSN := Lib.hid hsn
      have g0 := fun d os => cell_regrown a0 d os
      have g1 := fun d os => cell_regrown a1 d os
      have g2 := fun d os => cell_regrown a2 d os
      have g3 := fun d os => cell_regrown a3 d os
      have g4 := fun d os => cell_regrown a4 d os
      have f0 := fun d os => cell_regrown e0 d os
      have f1 := fun d os => cell_regrown e1 d os
      have f2 := fun d os => cell_regrown e2 d os
      have f3 := fun d os => cell_regrown e3 d os
      have f4 := fun d os => cell_regrown e4 d os
      have i1 : (0 : Int) ≤ (k : Int) := by omega
      have i2 : (k : Int) < (n : Int) := by omega
      clear a0 a1 a2 a3 a4 e0 e1 e2 e3 e4 aD eD hsn hat hat2 hs hbw
      generalize s.data.length = sl at *
      go_wp2_with fail
      refine wp_region_quiet_below (by kernel_rfl) (by kernel_rfl) ?_
      repeat (quiet_step ((go_at_call 36; exact Calls.regrownAll HSN.out _ _)))
      refine wpQuiet_nil ?_
      intro w6 hw'
      have hb6 : Below wr.heap.size wr w6 := by
        obtain ⟨p, rfl⟩ := hw'
        exact below_regrown wr p.d p.os
      have B6 := Lib.hid (HBW.out.trans (hb6.mono HBW.out.size))
      clear hw' hb6 g0 g1 g2 g3 g4 f0 f1 f2 f3 f4 HSN
      go_wp2_with fail
      go_roundw
      case rel => exact ⟨k + 1, by omega, by go_num, B6.out⟩
      case measure => simp [intOf]; omega
    · obtain rfl : k = n := by omega
      clear hbw
      go_wp2_with fail
      go_ret
      exact ⟨rfl, HBW.out⟩
end
section
set_option linter.unusedVariables false

theorem flat_row {α : Type} (e : Nat) : ∀ (ls : List (List α)), (∀ l ∈ ls, l.length = e) → ∀ p r, ls[p]? = some r → (ls.flatten.drop (p * e)).take e = r
  | [], _, p, r, h => by simp at h
  | l :: ls, h, 0, r, hr => by
    simp at hr
    subst hr
    have := h l (by simp)
    rw [Nat.zero_mul, List.drop_zero, List.flatten_cons, List.take_append_of_le_length (by omega), ← this, List.take_length]
  | l :: ls, h, p + 1, r, hr => by
    have hl := h l (by simp)
    have ih := flat_row e ls (fun x hx => h x (by simp [hx])) p r (by simpa using hr)
    rw [List.flatten_cons, Nat.add_mul, Nat.one_mul, Nat.add_comm, ← List.drop_drop, ← hl, List.drop_left, hl]
    exact ih
theorem flat_len {α : Type} (e : Nat) : ∀ (ls : List (List α)), (∀ l ∈ ls, l.length = e) → ls.flatten.length = ls.length * e
  | [], _ => by simp
  | l :: ls, h => by
    rw [List.flatten_cons, List.length_append, flat_len e ls (fun x hx => h x (by simp [hx])), h l (by simp), List.length_cons, Nat.add_mul]
    omega
theorem hv_zero (l : List UInt8) : hv l 0 = l.getD 0 0 := by
  cases l with
  | nil => rfl
  | cons c l => simp [hv, zero_gm]

/-- The points through which Explain's polynomial goes. -/
def exp_ (X : List Shr) (s : List UInt8) (q p : Nat) : List UInt8 := co (idxs X ++ oths q) (colm X p ++ othv (s.getD p 0) q)
theorem exp_isP {X : List Shr} (h : alk X = true) (s : List UInt8) (q p : Nat) (hq : 0 < q) (hq8 : q ≤ 8) : isP (idxs X ++ oths q) (colm X p ++ othv (s.getD p 0) q) :=
  ⟨by rw [List.length_append, List.length_append, idxs_length, oths_length, colm_length, othv_length _ _ hq], places_nodup h q hq8⟩
theorem exp_zero {X : List Shr} (h : alk X = true) (s : List UInt8) (q p : Nat) (hq : 0 < q) (hq8 : q ≤ 8) : (exp_ X s q p).getD 0 0 = s.getD p 0 := by
  have hP := exp_isP h s q p hq hq8
  have hl : (idxs X ++ oths q).length = X.length + q := by rw [List.length_append, idxs_length, oths_length]
  have h1 := co_at hP X.length (by omega)
  have e1 : (idxs X ++ oths q).getD X.length 0 = 0 := by
    rw [List.getD_eq_getElem?_getD, List.getElem?_append_right (by rw [idxs_length]; exact Nat.le_refl _), idxs_length, Nat.sub_self]
    unfold oths
    rw [List.getElem?_map, List.getElem?_range hq]
    rfl
  have e2 : (colm X p ++ othv (s.getD p 0) q).getD X.length 0 = s.getD p 0 := by
    rw [List.getD_eq_getElem?_getD, List.getElem?_append_right (by rw [colm_length]; exact Nat.le_refl _), colm_length, Nat.sub_self]
    rfl
  rw [e1, e2, hv_zero] at h1
  exact h1
theorem exp_len {X : List Shr} (h : alk X = true) (s : List UInt8) (q p : Nat) (hq : 0 < q) (hq8 : q ≤ 8) : (exp_ X s q p).length = X.length + q := by
  unfold exp_
  rw [co_len (exp_isP h s q p hq hq8), List.length_append, idxs_length, oths_length]
theorem exp_at {X : List Shr} (h : alk X = true) (s : List UInt8) (q p : Nat) (hq : 0 < q) (hq8 : q ≤ 8) {u : Shr} (hu : u ∈ X) : hv (exp_ X s q p) (ixb u) = u.data.getD p 0 := by
  obtain ⟨i, hi, e⟩ := List.mem_iff_getElem.1 hu
  have hg : X[i]? = some u := by rw [List.getElem?_eq_getElem hi, e]
  have hP := exp_isP h s q p hq hq8
  have h1 := co_at hP i (by rw [List.length_append, idxs_length]; omega)
  have e1 : (idxs X ++ oths q).getD i 0 = ixb u := by
    rw [List.getD_eq_getElem?_getD, List.getElem?_append_left (by rw [idxs_length]; exact hi)]
    unfold idxs
    rw [List.getElem?_map, List.getElem?_range hi]
    simp only [Option.map_some, Option.getD_some]
    rw [hg]
    rfl
  have e2 : (colm X p ++ othv (s.getD p 0) q).getD i 0 = u.data.getD p 0 := by
    rw [List.getD_eq_getElem?_getD, List.getElem?_append_left (by rw [colm_length]; exact hi)]
    unfold colm
    rw [List.getElem?_map, List.getElem?_range hi]
    simp only [Option.map_some, Option.getD_some]
    rw [hg]
    rfl
  rw [e1, e2] at h1
  exact h1
/-- The polynomial of a byte with the explaining coins is the one through the points. -/
theorem pcf_exp {X : List Shr} (h : alk X = true) (s : List UInt8) (q m p : Nat) (hq : 0 < q) (hq8 : q ≤ 8) (hX : 0 < X.length) (hp : p < m) : pcf s (((List.range m).map (exc X s q)).flatten) (X.length + q - 1) p = exp_ X s q p := by
  have hall : ∀ l ∈ (List.range m).map (exc X s q), l.length = X.length + q - 1 := fun l hl => by
    obtain ⟨i, _, rfl⟩ := List.mem_map.1 hl
    exact exc_length h hq hq8
  unfold pcf
  rw [flat_row _ _ hall p (exc X s q p) (by rw [List.getElem?_map, List.getElem?_range hp]; rfl)]
  have hl := exp_len h s q p hq hq8
  have hz := exp_zero h s q p hq hq8
  show s.getD p 0 :: (exp_ X s q p).drop 1 = exp_ X s q p
  cases hE : exp_ X s q p with
  | nil => rw [hE] at hl; simp at hl; omega
  | cons a l =>
    rw [hE] at hz
    simp at hz
    simp [hz]

theorem selk_congr {l l' : List Shr} {m : Nat} : ∀ {k : Nat}, (∀ i, i < k → i < 8 → m.testBit i = true → l[i]? = l'[i]?) → selk l m k = selk l' m k
  | 0, _ => rfl
  | k + 1, h => by
    simp only [selk]
    rw [selk_congr (fun i hi => h i (by omega))]
    by_cases hb : k < 8 ∧ m.testBit k = true
    · rw [if_pos hb, if_pos hb, h k (by omega) hb.1 hb.2]
    · rw [if_neg hb, if_neg hb]
theorem selk_mem {l : List Shr} {m : Nat} {i : Nat} {u : Shr} (h8 : i < 8) (ht : m.testBit i = true) (hi : l[i]? = some u) : ∀ {k : Nat}, i < k → u ∈ selk l m k
  | 0, h => by omega
  | k + 1, h => by
    simp only [selk, List.mem_append]
    by_cases e : i = k
    · subst e
      right
      rw [if_pos ⟨h8, ht⟩, hi]
      simp
    · left
      exact selk_mem h8 ht hi (by omega)

theorem spl_get {s coins : List UInt8} {ep th mn : Int} (h : spe s ep th mn coins = 0) {i : Nat} (hi : i < mn.toNat) : (spl s ep th mn coins)[i]? = some (psh ep th mn (pols s coins (th.toNat - 1)) i) := by
  rw [spl_eq h, List.getElem?_map, List.getElem?_range hi]
  rfl
theorem pols_get {s coins : List UInt8} {e p : Nat} (hp : p < s.length) : (pols s coins e).getD p [] = pcf s coins e p := by
  unfold pols
  rw [List.getD_eq_getElem?_getD, List.getElem?_map, List.getElem?_range hp]
  rfl

/-- Fewer shares than are needed: Join refuses them, and Explain's coins give the same shares back. -/
theorem hide_few {s other coins : List UInt8} {ep th mn : Int} (h : spe s ep th mn coins = 0) (ho : other.length = s.length) (mask : UInt8) (X : List Shr) (hX : sel (spl s ep th mn coins) mask = X) (hp : 0 < X.length) (hlt : (X.length : Int) < th) :
    (jne X = 60 ∧ jn X = []) ∧ (exe X other = 0 ∧ (ex X other).length ≤ 1000000) ∧ spe other ep th mn (ex X other) = 0 ∧ sel (spl other ep th mn (ex X other)) mask = X := by
  obtain ⟨h1, h2, h3, h4⟩ := spe_zero h
  have hsub : X.Sublist (spl s ep th mn coins) := hX ▸ sel_sub _ mask
  have hchk := sub_chk h hsub hp
  obtain ⟨a, ha, hath, had⟩ := head_th h hsub hp
  obtain ⟨hal, _⟩ := chk_zero hchk
  obtain ⟨t, hte⟩ : ∃ t : Nat, th = (t : Int) := ⟨th.toNat, by omega⟩
  have htt : th.toNat = t := by omega
  obtain ⟨q, hq⟩ : ∃ q, X.length + q = t := ⟨t - X.length, by omega⟩
  have hq0 : 0 < q := by omega
  have hq8 : q ≤ 8 := by omega
  have hthn : thn X = t := by unfold thn; rw [ha]; show a.th.toNat = t; rw [hath, htt]
  have hdln : dln X = s.length := by unfold dln; rw [ha]; exact had
  have hj : jne X = 60 := by
    unfold jne
    rw [if_neg (fun hh => hh hchk), ha]
    show (if (X.length : Int) < a.th then (60 : Int) else 0) = 60
    rw [hath, if_pos hlt]
  have hjn : jn X = [] := by unfold jn; rw [hj]; rfl
  have he : exe X other = 0 := by
    unfold exe
    rw [if_neg (fun hh => hh hchk), hthn, hdln, if_neg (by omega), if_neg (fun hh => hh ho)]
  have hex : ex X other = ((List.range s.length).map (exc X other q)).flatten := by
    unfold ex
    rw [if_pos he, hthn, hdln, show t - X.length = q by omega]
  have hall : ∀ l ∈ (List.range s.length).map (exc X other q), l.length = X.length + q - 1 := fun l hl => by
    obtain ⟨i, _, rfl⟩ := List.mem_map.1 hl
    exact exc_length hal hq0 hq8
  have hlen : (ex X other).length = other.length * (th.toNat - 1) := by
    rw [hex, flat_len _ _ hall, List.length_map, List.length_range, ho, htt, hq]
  have hsp : spe other ep th mn (ex X other) = 0 := by
    unfold spe
    rw [if_neg (by omega), if_neg (fun hh => hh h2), if_neg (fun hh => hh h3), if_neg (fun hh => hh hlen)]
  refine ⟨⟨hj, hjn⟩, ⟨he, ?_⟩, hsp, ?_⟩
  · rw [hlen, ho, htt]
    have := Nat.mul_le_mul h1 (show t - 1 ≤ 8 by omega)
    omega
  · have hl1 := (spl_facts h).1
    have hl2 := (spl_facts hsp).1
    refine Eq.trans ?_ hX
    unfold sel
    rw [hl1, hl2]
    refine selk_congr fun i hi h8 hb => ?_
    have hg1 := spl_get h hi
    have hg2 := spl_get hsp hi
    rw [hg1, hg2]
    congr 1
    have hmem : psh ep th mn (pols s coins (th.toNat - 1)) i ∈ X := by
      rw [← hX]
      unfold sel
      exact selk_mem h8 hb hg1 (by rw [hl1]; exact hi)
    obtain ⟨u, hu⟩ : ∃ u, psh ep th mn (pols s coins (th.toNat - 1)) i = u := ⟨_, rfl⟩
    have hud : u.data.length = s.length := by rw [← hu]; simp [psh, pols]
    have hui : ixb u = UInt8.ofNat (i + 1) := by rw [← hu]; rfl
    have hdat : (psh ep th mn (pols other (ex X other) (th.toNat - 1)) i).data = u.data := by
      apply List.ext_getElem?
      intro p
      by_cases hpl : p < s.length
      · simp only [psh, pols_length]
        rw [List.getElem?_map, List.getElem?_range (by omega)]
        show some (hv ((pols other (ex X other) (th.toNat - 1)).getD p []) (UInt8.ofNat (i + 1))) = _
        rw [pols_get (by omega), hex, htt, show t - 1 = X.length + q - 1 by omega, pcf_exp hal other q s.length p hq0 hq8 hp hpl, ← hui, exp_at hal other q p hq0 hq8 (hu ▸ hmem)]
        rw [List.getD_eq_getElem?_getD, List.getElem?_eq_getElem (by omega)]
        rfl
      · rw [List.getElem?_eq_none (by simp [psh, pols]; omega), List.getElem?_eq_none (by omega)]
    rw [hu]
    rw [← hu] at hdat ⊢
    unfold psh at hdat ⊢
    simp only at hdat
    rw [hdat]
end
open Go.RowKit
set_option linter.unusedVariables false

end
section
set_option linter.unusedVariables false

theorem hv_xor (x : UInt8) : ∀ (l v : List UInt8), l.length = v.length → hv (List.zipWith (· ^^^ ·) l v) x = hv l x ^^^ hv v x
  | [], [], _ => by simp [hv]
  | a :: l, b :: v, h => by
    show (a ^^^ b) ^^^ gm x (hv (List.zipWith (· ^^^ ·) l v) x) = (a ^^^ gm x (hv l x)) ^^^ (b ^^^ gm x (hv v x))
    rw [hv_xor x l v (by simpa using h), gm_right]
    exact x4 _ _ _ _
theorem sumb_zip {a b : List UInt8} (h : a.length = b.length) : sumb a b = List.zipWith (· ^^^ ·) a b := by
  apply List.ext_getElem
  · rw [sumb_length, List.length_zipWith]; omega
  · intro i h1 h2
    rw [sumb_length] at h1
    simp only [sumb, List.getElem_map, List.getElem_range, List.getElem_zipWith]
    rw [List.getD_eq_getElem?_getD, List.getD_eq_getElem?_getD, List.getElem?_eq_getElem h1, List.getElem?_eq_getElem (by omega : i < b.length)]
    rfl
theorem sumb_getD {a b : List UInt8} (h : a.length = b.length) (i : Nat) : (sumb a b).getD i 0 = a.getD i 0 ^^^ b.getD i 0 := by
  rw [sumb_zip h]
  simp only [List.getD_eq_getElem?_getD]
  by_cases hi : i < a.length
  · rw [List.getElem?_zipWith, List.getElem?_eq_getElem hi, List.getElem?_eq_getElem (by omega : i < b.length)]
    rfl
  · rw [List.getElem?_eq_none (by rw [List.length_zipWith]; omega), List.getElem?_eq_none (by omega), List.getElem?_eq_none (by omega)]
    rfl
theorem pcf_sum {a b p q : List UInt8} (each i : Nat) (h : a.length = b.length) (hp : p.length = q.length) : pcf (sumb a b) (sumb p q) each i = List.zipWith (· ^^^ ·) (pcf a p each i) (pcf b q each i) := by
  unfold pcf
  rw [sumb_getD h, sumb_zip hp, List.drop_zipWith, List.take_zipWith]
  rfl
theorem pols_getD {s coins : List UInt8} {each k : Nat} (h : k < s.length) : (pols s coins each).getD k [] = pcf s coins each k := by
  unfold pols
  rw [List.getD_eq_getElem?_getD, List.getElem?_map, List.getElem?_range h]
  rfl
theorem psh_data {s coins : List UInt8} {each i k : Nat} {ep th mn : Int} (h : k < s.length) : (psh ep th mn (pols s coins each) i).data.getD k 0 = hv (pcf s coins each k) (UInt8.ofNat (i + 1)) := by
  show (((List.range (pols s coins each).length).map fun k => hv ((pols s coins each).getD k []) (UInt8.ofNat (i + 1))).getD k 0) = _
  rw [pols_length, List.getD_eq_getElem?_getD, List.getElem?_map, List.getElem?_range h]
  show hv ((pols s coins each).getD k []) _ = _
  rw [pols_getD h]
theorem psh_len {s coins : List UInt8} {each i : Nat} {ep th mn : Int} : (psh ep th mn (pols s coins each) i).data.length = s.length := by simp [psh, pols]
/-- A share of the sum. -/
theorem psh_sum {a b p q : List UInt8} {each i : Nat} {ep ep2 th mn : Int} (h : a.length = b.length) (hp : p.length = a.length * each) (hq : q.length = b.length * each) :
    psh ep th mn (pols (sumb a b) (sumb p q) each) i = rsh (psh ep th mn (pols a p each) i) (psh ep2 th mn (pols b q each) i) := by
  have hd : (psh ep th mn (pols (sumb a b) (sumb p q) each) i).data = sumb (psh ep th mn (pols a p each) i).data (psh ep2 th mn (pols b q each) i).data := by
    apply List.ext_getElem
    · rw [psh_len, sumb_length, sumb_length, psh_len]
    · intro k h1 h2
      rw [psh_len, sumb_length] at h1
      have e1 : (psh ep th mn (pols (sumb a b) (sumb p q) each) i).data.getD k 0 = hv (pcf (sumb a b) (sumb p q) each k) (UInt8.ofNat (i + 1)) := psh_data (by rw [sumb_length]; exact h1)
      have e2 : (sumb (psh ep th mn (pols a p each) i).data (psh ep2 th mn (pols b q each) i).data).getD k 0 = hv (pcf a p each k) (UInt8.ofNat (i + 1)) ^^^ hv (pcf b q each k) (UInt8.ofNat (i + 1)) := by
        rw [sumb_getD (by rw [psh_len, psh_len]; exact h), psh_data h1, psh_data (by omega)]
      rw [pcf_sum each k h (by rw [hp, hq, h]), hv_xor _ _ _ (by rw [pcf_length hp h1, pcf_length hq (by omega)]), ← e2] at e1
      rw [List.getD_eq_getElem?_getD, List.getD_eq_getElem?_getD, List.getElem?_eq_getElem (by rw [psh_len, sumb_length]; exact h1), List.getElem?_eq_getElem h2] at e1
      exact e1
  unfold rsh
  rw [← hd]
  rfl
theorem spe_of {s coins : List UInt8} {ep th mn : Int} (h1 : s.length ≤ 64) (h2 : 1 ≤ th ∧ th ≤ mn ∧ mn ≤ 8) (h3 : 0 ≤ ep ∧ ep ≤ 1048576) (h4 : coins.length = s.length * (th.toNat - 1)) : spe s ep th mn coins = 0 := by
  unfold spe
  rw [if_neg (by omega), if_neg (fun h => h h2), if_neg (fun h => h h3), if_neg (fun h => h h4)]
theorem spl_length {s coins : List UInt8} {ep th mn : Int} (h : spe s ep th mn coins = 0) : (spl s ep th mn coins).length = mn.toNat := by
  rw [spl_eq h]; simp
theorem spl_at {s coins : List UInt8} {ep th mn : Int} (h : spe s ep th mn coins = 0) {i : Nat} (hi : i < mn.toNat) : (spl s ep th mn coins)[i]? = some (psh ep th mn (pols s coins (th.toNat - 1)) i) := by
  rw [spl_eq h, List.getElem?_map, List.getElem?_range hi]
  rfl
/-- Sums of shares are the shares of the sum. -/
theorem spl_sum {a b p q : List UInt8} {ep ep2 th mn : Int} (ha : spe a ep th mn p = 0) (hb : spe b ep2 th mn q = 0) (h : a.length = b.length) :
    spe (sumb a b) ep th mn (sumb p q) = 0 ∧ ∀ (i : Nat) (u v : Shr), (spl a ep th mn p)[i]? = some u → (spl b ep2 th mn q)[i]? = some v → (spl (sumb a b) ep th mn (sumb p q))[i]? = some (rsh u v) := by
  obtain ⟨h1, h2, h3, h4⟩ := spe_zero ha
  obtain ⟨_, _, _, h5⟩ := spe_zero hb
  have h0 : spe (sumb a b) ep th mn (sumb p q) = 0 := spe_of (by rw [sumb_length]; exact h1) h2 h3 (by rw [sumb_length, sumb_length]; exact h4)
  refine ⟨h0, fun i u v hu hv' => ?_⟩
  have hi : i < mn.toNat := by
    have := (List.getElem?_eq_some_iff.1 hu).1
    rw [spl_length ha] at this
    exact this
  rw [spl_at ha hi] at hu
  rw [spl_at hb hi] at hv'
  cases hu
  cases hv'
  rw [spl_at h0 hi, psh_sum h h4 h5]

end
section
open Go.RowKit
set_option linter.unusedVariables false

set_option maxHeartbeats 1000000 in
set_option maxRecDepth 100000 in
theorem reval_any (A : Option Addr) (c : Nat) (l : List UInt8) (at_ : UInt8) (w : World) (hS : Sl w A l c) (hl : l.length ≤ 1000000) :
    Calls Tryd.prog 32 #[.slice A l.length c, bv at_] w fun e w' => e = .returned (bv (hv l at_)) ∧ w = w' := by
  have HS := Lib.hid hS
  have HE : Hid (∀ k, ek l at_ (k + 1) = ek l at_ k ^^^ gm (l.getD k 0) (pw at_ k)) := fun k => rfl
  have HP : Hid (∀ k, pw at_ (k + 1) = gm (pw at_ k) at_) := fun k => rfl
  have HF := Lib.hid (ek_hv l at_)
  obtain ⟨n, hn⟩ : ∃ n, l.length = n := ⟨_, rfl⟩
  have HN := Lib.hid hn
  rw [hn] at hl ⊢
  clear hS hn
  go_enter Tryd.func32, Tryd.ntmps32
  go_wp2_with fail
  go_loopw [5, 6, 7] (fun y p i wr => ∃ k : Nat, k ≤ n ∧ y = .int .u8 ((ek l at_ k).toNat : Int) ∧ p = bv (pw at_ k) ∧ i = .int .i64 k ∧ w = wr) (fun _ _ i _ => n - (intOf i).toNat)
  case atStart => exact ⟨0, Nat.zero_le _, rfl, rfl, rfl, rfl⟩
  case round =>
    obtain ⟨k, hk, rfl, rfl, rfl, rfl⟩ := hrel
    by_cases hlt : k < n
    · obtain ⟨x, hx⟩ : ∃ x, l[k]? = some x := ⟨_, List.getElem?_eq_getElem (by rw [HN.out]; exact hlt)⟩
      obtain ⟨b, off, rfl, hb, hc⟩ := HS.out.1 (by rw [HN.out]; omega)
      have k0 := hc k x hx
      have hxd : l.getD k 0 = x := by rw [List.getD_eq_getElem?_getD, hx]; rfl
      have hE := HE.out k
      rw [hxd] at hE
      have hP := HP.out k
      obtain ⟨pk, hpk⟩ : ∃ pk, pw at_ k = pk := ⟨_, rfl⟩
      obtain ⟨yk, hyk⟩ : ∃ yk, ek l at_ k = yk := ⟨_, rfl⟩
      rw [hpk, hyk] at hE
      rw [hpk] at hP
      have HM : Hid (Calls Tryd.prog 55 #[bv x, bv pk] w fun e w' => e = .returned (.int .u8 ((gm x pk).toNat : Int)) ∧ w = w') := rmul_any x pk w
      have HM2 := Lib.hid (rmul_any pk at_ w)
      have hxor := xor_u8' yk (gm x pk)
      rw [hpk, hyk]
      have HR := Lib.hid (And.intro hE hP)
      have i1 : (0 : Int) ≤ (k : Int) := by omega
      have i2 : (k : Int) < (n : Int) := by omega
      generalize gm x pk = g at *
      generalize yk ^^^ g = z at *
      clear hE hP hxd hc hx hpk hyk
      go_wp2_with fail
      refine HM.out.mono ?_
      rintro e w2 ⟨rfl, rfl⟩
      go_wp2_with fail
      refine HM2.out.mono ?_
      rintro e w3 ⟨rfl, rfl⟩
      go_wp2_with fail
      go_roundw
      case rel => exact ⟨k + 1, by omega, by rw [HR.out.1], by rw [HR.out.2], by go_num, by first | rfl | trivial⟩
      case measure => simp [intOf]; omega
    · obtain rfl : k = n := by omega
      have HV : Hid (Value.int .u8 ((ek l at_ k).toNat : Int) = bv (hv l at_)) := by
        have := HF.out
        rw [HN.out] at this
        rw [Hid, this]
        rfl
      generalize ek l at_ k = ekk at *
      go_wp2_with fail
      go_ret
      exact ⟨congrArg Ending.returned HV.out, rfl⟩

end
section
open Go.RowKit
set_option linter.unusedVariables false

def few (l : List Shr) : Bool := l.all (fun u => decide (u.data.length ≤ 70)) && decide (l.length ≤ 10)

set_option maxHeartbeats 1000000 in
set_option maxRecDepth 100000 in
theorem rfew_any (A : Option Addr) (c : Nat) (l : List Shr) (w : World) (hS : SS w A l c) :
    Calls Tryd.prog 11 #[.slice A l.length c] w fun e w' => e = .returned (.bool (few l)) ∧ w = w' := by
  have HS := Lib.hid hS
  have hlm := Nat.le_trans hS.2.1 hS.2.2.1
  unfold maxLen at hlm
  obtain ⟨n, hn⟩ : ∃ n, l.length = n := ⟨_, rfl⟩
  have HN := Lib.hid hn
  have HT : Hid (∀ (k : Nat) (u : Shr), l[k]? = some u → 70 < u.data.length → few l = false) := fun k u hu h => by
    unfold few
    rw [Bool.and_eq_false_iff, List.all_eq_false]
    exact Or.inl ⟨u, List.mem_of_getElem? hu, by simpa using h⟩
  have HA : Hid ((∀ (j : Nat) (u : Shr), j < n → l[j]? = some u → u.data.length ≤ 70) → few l = decide ((n : Int) ≤ 10)) := fun h => by
    unfold few
    have h1 : l.all (fun u => decide (u.data.length ≤ 70)) = true := by
      rw [List.all_eq_true]
      intro u hu
      obtain ⟨j, hj, rfl⟩ := List.mem_iff_getElem.1 hu
      exact decide_eq_true (h j _ (by omega) (List.getElem?_eq_getElem hj))
    rw [h1, hn, Bool.true_and]
    by_cases h2 : n ≤ 10
    · rw [decide_eq_true h2, decide_eq_true (by omega)]
    · rw [decide_eq_false h2, decide_eq_false (by omega)]
  rw [hn] at hlm ⊢
  clear hS hn
  go_enter Tryd.func11, Tryd.ntmps11
  go_wp2_with fail
  go_loopw [3] (fun i wr => ∃ k : Nat, k ≤ n ∧ i = .int .i64 k ∧ (∀ (j : Nat) (u : Shr), j < k → l[j]? = some u → u.data.length ≤ 70) ∧ w = wr) (fun i _ => n - (intOf i).toNat)
  case atStart => exact ⟨0, Nat.zero_le _, rfl, fun j u h => by omega, rfl⟩
  case round =>
    obtain ⟨k, hk, rfl, hall, rfl⟩ := hrel
    have HAL := Lib.hid hall
    clear hall
    by_cases hlt : k < n
    · obtain ⟨u, hu⟩ : ∃ u, l[k]? = some u := ⟨_, List.getElem?_eq_getElem (by rw [HN.out]; exact hlt)⟩
      obtain ⟨b, off, rfl, hb, hat⟩ := HS.out.1 (by rw [HN.out]; omega)
      obtain ⟨D, d, k0, k1, k2, k3, k4, hD⟩ := hat k u hu
      have HF := Lib.hid (HT.out k u hu)
      have i1 : (0 : Int) ≤ (k : Int) := by omega
      have i2 : (k : Int) < (n : Int) := by omega
      have HU := Lib.hid hu
      clear hat hD hu k0 k1 k2 k3
      obtain ⟨ul, hul⟩ : ∃ ul, u.data.length = ul := ⟨_, rfl⟩
      have HUL := Lib.hid hul
      rw [hul] at HF k4
      clear hul
      by_cases h70 : 70 < ul
      · have d1 : decide ((70 : Int) < (ul : Int)) = true := decide_eq_true (by omega)
        have d2 : (70 : Int) < (ul : Int) := by omega
        go_wp2_with fail
        go_ret
        exact ⟨ret_bool (HF.out h70).symm, rfl⟩
      · have d1 : decide ((70 : Int) < (ul : Int)) = false := decide_eq_false (by omega)
        have d2 : ¬ (70 : Int) < (ul : Int) := by omega
        go_wp2_with fail
        go_roundw
        case rel => exact ⟨k + 1, by omega, by go_num, fun j v hj hv => by
          by_cases e : j = k
          · subst e
            have := HU.out.symm.trans hv
            injection this with this
            rw [← this, HUL.out]
            omega
          · exact HAL.out j v (by omega) hv, by first | rfl | trivial⟩
        case measure => simp [intOf]; omega
    · obtain rfl : k = n := by omega
      have HFW := Lib.hid (HA.out HAL.out)
      go_wp2_with fail
      go_ret
      exact ⟨ret_bool HFW.out.symm, rfl⟩

end
section
open Go.RowKit
set_option linter.unusedVariables false
set_option linter.unusedSimpArgs false

set_option maxHeartbeats 4000000 in
set_option maxRecDepth 100000 in
theorem ralike_some (b off n : Nat) (c : Nat) (l : List Shr) (e0 x0 t0 m0 : Int) (D0 : List UInt8) (A0 : Option Addr) (d0 c0 : Nat) (w : World) (hS : SS w (some ⟨b, off, none⟩) l c) (hn : l.length = n) (hl : n ≤ 1000000) (h0 : l[0]? = some ⟨e0, x0, t0, m0, D0⟩) (hd0 : D0.length = d0) (hb : b < w.heap.size)
    (z0 : w.cell? ⟨b, off, none⟩ = some (.int .i64 e0)) (z1 : w.cell? ⟨b, off + 1, none⟩ = some (.int .i64 x0)) (z2 : w.cell? ⟨b, off + 2, none⟩ = some (.int .i64 t0)) (z3 : w.cell? ⟨b, off + 3, none⟩ = some (.int .i64 m0)) (z4 : w.cell? ⟨b, off + 4, none⟩ = some (.slice A0 d0 c0)) :
    Calls Tryd.prog 35 #[.slice (some ⟨b, off, none⟩) n c] w fun e w' => e = .returned (.bool (alk l)) ∧ Below w.heap.size w w' := by
  have hp : 0 < n := by
    have := (List.getElem?_eq_some_iff.1 h0).1
    omega
  have HAC := alk_cons h0
  simp only [hd0] at HAC
  have HFALSE : Hid (t0 < 1 ∨ m0 < t0 ∨ 8 < m0 ∨ 64 < d0 → alk l = false) := fun h => by
    rw [HAC]
    rcases h with h | h | h | h
    · rw [decide_eq_false (by omega)]; rfl
    · rw [decide_eq_false (by omega)]; rfl
    · rw [decide_eq_false (by omega)]; rfl
    · rw [decide_eq_false (by omega : ¬ d0 ≤ 64), Bool.and_false]; rfl
  have HTRUE : Hid (¬ t0 < 1 → ¬ m0 < t0 → ¬ 8 < m0 → ¬ 64 < d0 → alkFrom ⟨e0, x0, t0, m0, D0⟩ 0 (l.drop 0) = alk l) := fun q1 q2 q3 q4 => by
    rw [HAC, decide_eq_true (by omega), decide_eq_true (by omega : d0 ≤ 64)]
    rfl
  have i1 : (0 : Int) < (n : Int) := by omega
  have i2 : ((n : Int) == 0) = false := by simp; omega
  have HS := Lib.hid hS
  have HN := Lib.hid hn
  have HD := Lib.hid hd0
  have H0 := Lib.hid h0
  clear hS hn HAC hd0 h0
  by_cases p0 : t0 < 1
  · have f0 : decide (t0 < (1 : Int)) = true := decide_eq_true (by omega)
    have g0 : t0 < (1 : Int) := by omega
    have HF := Lib.hid (HFALSE.out (by omega))
    clear HFALSE
    go_enter Tryd.func35, Tryd.ntmps35
    go_upto_region 4 with fail
    have hb1 := (Below.refl w.heap.size w).alloc (Nat.le_refl _) (.cells #[.int .i64 e0, .int .i64 x0, .int .i64 t0, .int .i64 m0, .slice A0 d0 c0] 41)
    have xb := Box.new w #[.int .i64 e0, .int .i64 x0, .int .i64 t0, .int .i64 m0, .slice A0 d0 c0] 41
    have y2 := xb.cell 2
    have y3 := xb.cell 3
    have y4 := xb.cell 4
    have H1 := Lib.hid (And.intro xb hb1)
    clear xb hb1 z0 z1 z2 z3 z4
    go_wp2_with fail
    go_ret
    exact ⟨ret_bool HF.out.symm, H1.out.2⟩

  · skip
    by_cases p1 : m0 < t0
    · have f0 : decide (t0 < (1 : Int)) = false := decide_eq_false (by omega)
      have g0 : ¬ t0 < (1 : Int) := by omega
      have f1 : decide (m0 < t0) = true := decide_eq_true (by omega)
      have g1 : m0 < t0 := by omega
      have HF := Lib.hid (HFALSE.out (by omega))
      clear HFALSE
      go_enter Tryd.func35, Tryd.ntmps35
      go_upto_region 4 with fail
      have hb1 := (Below.refl w.heap.size w).alloc (Nat.le_refl _) (.cells #[.int .i64 e0, .int .i64 x0, .int .i64 t0, .int .i64 m0, .slice A0 d0 c0] 41)
      have xb := Box.new w #[.int .i64 e0, .int .i64 x0, .int .i64 t0, .int .i64 m0, .slice A0 d0 c0] 41
      have y2 := xb.cell 2
      have y3 := xb.cell 3
      have y4 := xb.cell 4
      have H1 := Lib.hid (And.intro xb hb1)
      clear xb hb1 z0 z1 z2 z3 z4
      go_wp2_with fail
      go_ret
      exact ⟨ret_bool HF.out.symm, H1.out.2⟩

    · skip
      by_cases p2 : 8 < m0
      · have f0 : decide (t0 < (1 : Int)) = false := decide_eq_false (by omega)
        have g0 : ¬ t0 < (1 : Int) := by omega
        have f1 : decide (m0 < t0) = false := decide_eq_false (by omega)
        have g1 : ¬ m0 < t0 := by omega
        have f2 : decide ((8 : Int) < m0) = true := decide_eq_true (by omega)
        have g2 : (8 : Int) < m0 := by omega
        have HF := Lib.hid (HFALSE.out (by omega))
        clear HFALSE
        go_enter Tryd.func35, Tryd.ntmps35
        go_upto_region 4 with fail
        have hb1 := (Below.refl w.heap.size w).alloc (Nat.le_refl _) (.cells #[.int .i64 e0, .int .i64 x0, .int .i64 t0, .int .i64 m0, .slice A0 d0 c0] 41)
        have xb := Box.new w #[.int .i64 e0, .int .i64 x0, .int .i64 t0, .int .i64 m0, .slice A0 d0 c0] 41
        have y2 := xb.cell 2
        have y3 := xb.cell 3
        have y4 := xb.cell 4
        have H1 := Lib.hid (And.intro xb hb1)
        clear xb hb1 z0 z1 z2 z3 z4
        go_wp2_with fail
        go_ret
        exact ⟨ret_bool HF.out.symm, H1.out.2⟩

      · skip
        by_cases p3 : (64 : Int) < (d0 : Int)
        · have f0 : decide (t0 < (1 : Int)) = false := decide_eq_false (by omega)
          have g0 : ¬ t0 < (1 : Int) := by omega
          have f1 : decide (m0 < t0) = false := decide_eq_false (by omega)
          have g1 : ¬ m0 < t0 := by omega
          have f2 : decide ((8 : Int) < m0) = false := decide_eq_false (by omega)
          have g2 : ¬ (8 : Int) < m0 := by omega
          have f3 : decide ((64 : Int) < (d0 : Int)) = true := decide_eq_true (by omega)
          have g3 : (64 : Int) < (d0 : Int) := by omega
          have HF := Lib.hid (HFALSE.out (by omega))
          clear HFALSE
          go_enter Tryd.func35, Tryd.ntmps35
          go_upto_region 4 with fail
          have hb1 := (Below.refl w.heap.size w).alloc (Nat.le_refl _) (.cells #[.int .i64 e0, .int .i64 x0, .int .i64 t0, .int .i64 m0, .slice A0 d0 c0] 41)
          have xb := Box.new w #[.int .i64 e0, .int .i64 x0, .int .i64 t0, .int .i64 m0, .slice A0 d0 c0] 41
          have y2 := xb.cell 2
          have y3 := xb.cell 3
          have y4 := xb.cell 4
          have H1 := Lib.hid (And.intro xb hb1)
          clear xb hb1 z0 z1 z2 z3 z4
          go_wp2_with fail
          go_ret
          exact ⟨ret_bool HF.out.symm, H1.out.2⟩

        · skip
          have HST := Lib.hid (HTRUE.out (by omega) (by omega) (by omega) (by omega))
          have f0 : decide (t0 < (1 : Int)) = false := decide_eq_false (by omega)
          have g0 : ¬ t0 < (1 : Int) := by omega
          have f1 : decide (m0 < t0) = false := decide_eq_false (by omega)
          have g1 : ¬ m0 < t0 := by omega
          have f2 : decide ((8 : Int) < m0) = false := decide_eq_false (by omega)
          have g2 : ¬ (8 : Int) < m0 := by omega
          have f3 : decide ((64 : Int) < (d0 : Int)) = false := decide_eq_false (by omega)
          have g3 : ¬ (64 : Int) < (d0 : Int) := by omega
          clear HFALSE HTRUE
          go_enter Tryd.func35, Tryd.ntmps35
          go_upto_region 4 with fail
          have hb1 := (Below.refl w.heap.size w).alloc (Nat.le_refl _) (.cells #[.int .i64 e0, .int .i64 x0, .int .i64 t0, .int .i64 m0, .slice A0 d0 c0] 41)
          have xb := Box.new w #[.int .i64 e0, .int .i64 x0, .int .i64 t0, .int .i64 m0, .slice A0 d0 c0] 41
          have y2 := xb.cell 2
          have y3 := xb.cell 3
          have y4 := xb.cell 4
          have H1 := Lib.hid (And.intro xb hb1)
          clear xb hb1 z0 z1 z2 z3 z4
          go_upto_region 6 with fail
          clear y2 y3 y4
          generalize hw1 : w.alloc (.cells #[.int .i64 e0, .int .i64 x0, .int .i64 t0, .int .i64 m0, .slice A0 d0 c0] 41) = w1 at *
          clear hw1
          go_wp2_with fail
          go_loopw [4] (fun i wr => ∃ (k : Nat) (bi : Int), k ≤ n ∧ i = .int .i64 k ∧ alkFrom ⟨e0, x0, t0, m0, D0⟩ bi (l.drop k) = alk l ∧ 0 ≤ bi ∧ (k = 0 → bi = 0) ∧ (∀ u, 0 < k → l[k - 1]? = some u → bi = u.ix) ∧ Below w1.heap.size w1 wr) (fun i _ => n - (intOf i).toNat)
          case atStart => exact ⟨0, 0, Nat.zero_le _, rfl, HST.out, by omega, fun _ => rfl, fun u h => by omega, Below.refl _ _⟩
          case round =>
            obtain ⟨k, bi, hk, rfl, hR, hbi, hb0, hbp, hbw⟩ := hrel
            have KR := Lib.hid (And.intro hbw (And.intro hb0 hbp))
            clear hbw hb0 hbp
            by_cases hlt : k < n
            · have hlk : k < l.length := by rw [HN.out]; exact hlt
              obtain ⟨s, hs⟩ : ∃ s, l[k]? = some s := ⟨_, List.getElem?_eq_getElem hlk⟩
              have hgk : l[k]'hlk = s := by rw [List.getElem?_eq_getElem hlk] at hs; exact Option.some.inj hs
              rw [alk_drop bi hlk, hgk] at hR
              obtain ⟨b9, off9, e9, hb9, hat⟩ := ((HS.out.up H1.out.2).up KR.out.1).1 (by rw [HN.out]; omega)
              injection e9 with e9
              injection e9 with e91 e92
              subst e91 e92
              obtain ⟨A1, c1, k0, k1, k2, k3, k4, hD1⟩ := hat k s hs
              have hprev : ∀ j : Nat, k = j + 1 → wr.cell? ⟨b, off + j * 5 + 1, none⟩ = some (.int .i64 bi) := fun j hj => by
                obtain ⟨u, hu⟩ : ∃ u, l[j]? = some u := ⟨_, List.getElem?_eq_getElem (by rw [HN.out]; omega)⟩
                obtain ⟨_, _, _, p1, _⟩ := hat j u hu
                rw [KR.out.2.2 u (by omega) (by rw [hj]; exact hu)]
                exact p1
              have HSK := Lib.hid hs
              obtain ⟨e1, x1, t1, m1, D1⟩ := s
              have hR2 : (decide (t1 = t0 ∧ m1 = m0 ∧ D1.length = D0.length) && decide (bi < x1) && decide (x1 ≤ m1) && alkFrom ⟨e0, x0, t0, m0, D0⟩ x1 (l.drop (k + 1))) = alk l := hR
              simp only at k0 k1 k2 k3 k4
              obtain ⟨d1, hd1⟩ : ∃ d1, D1.length = d1 := ⟨_, rfl⟩
              rw [hd1, HD.out] at hR2
              rw [hd1] at k4
              have HR := Lib.hid hR2
              clear hR hR2 hd1 hD1 hat hs hgk hlk hb9
              have i3 : (0 : Int) ≤ (k : Int) := by omega
              have i4 : (k : Int) < (n : Int) := by omega
              go_upto_region 10 with fail
              have hb5 := (Below.refl wr.heap.size wr).alloc (Nat.le_refl _) (.cells #[.int .i64 e1, .int .i64 x1, .int .i64 t1, .int .i64 m1, .slice A1 d1 c1] 41)
              have xb := Box.new wr #[.int .i64 e1, .int .i64 x1, .int .i64 t1, .int .i64 m1, .slice A1 d1 c1] 41
              have xa := (H1.out.1.below KR.out.1).below hb5
              have a1 := xb.cell 1
              have a2 := xb.cell 2
              have a3 := xb.cell 3
              have a4 := xb.cell 4
              have y2 := xa.cell 2
              have y3 := xa.cell 3
              have y4 := xa.cell 4
              have hpr : ∀ j : Nat, k = j + 1 → (wr.alloc (.cells #[.int .i64 e1, .int .i64 x1, .int .i64 t1, .int .i64 m1, .slice A1 d1 c1] 41)).cell? ⟨b, off + j * 5 + 1, none⟩ = some (.int .i64 bi) := fun j hj => by
                have hbw : b < wr.heap.size := Nat.lt_of_lt_of_le (Nat.lt_of_lt_of_le hb H1.out.2.size) KR.out.1.size
                exact (hb5.cell (p := ⟨b, off + j * 5 + 1, none⟩) hbw).trans (hprev j hj)
              have HPR := Lib.hid hpr
              have K5 := Lib.hid (And.intro (KR.out.1.trans (hb5.mono KR.out.1.size)) (And.intro KR.out.2.1 HSK.out))
              clear k0 k1 k2 k3 k4 hb5 xb xa hpr hprev
              generalize wr.alloc (.cells #[.int .i64 e1, .int .i64 x1, .int .i64 t1, .int .i64 m1, .slice A1 d1 c1] 41) = W5 at *
              by_cases v1 : t1 = t0
              · skip
                by_cases v2 : m1 = m0
                · skip
                  by_cases v3 : d1 = d0
                  · skip
                    by_cases v4 : 1 ≤ x1
                    · skip
                      by_cases v5 : x1 ≤ m0
                      · skip
                        have q7 : (decide (t1 = t0 ∧ m1 = m0 ∧ d1 = d0)) = true := decide_eq_true ⟨v1, v2, v3⟩
                        have HQ7 := Lib.hid q7
                        clear q7
                        have q1 : (t1 != t0) = false := by simpa using v1
                        have q2 : (m1 != m0) = false := by simpa using v2
                        have q3 : ((d1 : Int) != (d0 : Int)) = false := by simpa using (show (d1 : Int) = (d0 : Int) by omega)
                        have q4 : decide (x1 < (1 : Int)) = false := decide_eq_false (by omega)
                        have r4 : ¬ x1 < (1 : Int) := by omega
                        have q5 : decide (m0 < x1) = false := decide_eq_false (by omega)
                        have r5 : ¬ m0 < x1 := by omega
                        have HV := Lib.hid (And.intro v1 (And.intro v2 v3))
                        have hm5 : x1 ≤ m1 := by omega
                        have HM5 := Lib.hid hm5
                        clear v1 v2 v3 hm5
                        by_cases v6 : k = 0
                        · have HF : Hid (alkFrom ⟨e0, x0, t0, m0, D0⟩ x1 (l.drop (k + 1)) = alk l) := by
                            have h1 := KR.out.2.1 v6
                            have h2 := HR.out
                            rw [HQ7.out, decide_eq_true HM5.out, decide_eq_true (show bi < x1 by omega)] at h2
                            exact h2
                          have q6 : decide ((0 : Int) < (k : Int)) = false := decide_eq_false (by omega)
                          have r6 : ¬ (0 : Int) < (k : Int) := by omega
                          have s6 : ¬ 0 < k := by omega
                          clear v6
                          have HB := Lib.hid K5.out.1
                          clear HR
                          go_quiet (fail)
                          go_wp2_with fail
                          go_roundw
                          case rel => exact ⟨k + 1, x1, by omega, by go_num, HF.out, by omega, fun h => by omega, fun u _ hu => by
                            have h1 := K5.out.2.2.symm.trans hu
                            injection h1 with h1
                            rw [← h1], HB.out.trans ((below_drewN _ _).mono HB.out.size)⟩
                          case measure => simp [intOf]; omega
                        · obtain ⟨j, hj⟩ : ∃ j, k = j + 1 := ⟨k - 1, by omega⟩
                          have q6 : decide ((0 : Int) < (k : Int)) = true := decide_eq_true (by omega)
                          have r6 : (0 : Int) < (k : Int) := by omega
                          have s6 : 0 < k := by omega
                          have hwr : IntKind.i64.wrap ((k : Int) - 1) = (j : Int) := by rw [IntKind.wrap_i64]; omega
                          have i5 : (0 : Int) ≤ (j : Int) := by omega
                          have i6 : (j : Int) < (n : Int) := by omega
                          have kp := HPR.out j hj
                          clear hj v6
                          by_cases v7 : x1 ≤ bi
                          · have HF : Hid (alk l = false) := by rw [Hid, ← HR.out, decide_eq_false (show ¬ bi < x1 by omega)]; simp
                            have q8 : decide (x1 ≤ bi) = true := decide_eq_true v7
                            have HB := Lib.hid (H1.out.2.trans (K5.out.1.mono H1.out.2.size))
                            clear HR
                            go_quiet (fail)
                            go_wp2_with fail
                            go_ret
                            exact ⟨ret_bool HF.out.symm, HB.out.trans ((below_drewN _ _).mono HB.out.size)⟩

                          · have HF : Hid (alkFrom ⟨e0, x0, t0, m0, D0⟩ x1 (l.drop (k + 1)) = alk l) := by
                              have h2 := HR.out
                              rw [HQ7.out, decide_eq_true HM5.out, decide_eq_true (show bi < x1 by omega)] at h2
                              exact h2
                            have q8 : decide (x1 ≤ bi) = false := decide_eq_false v7
                            have HB := Lib.hid K5.out.1
                            clear HR
                            go_quiet (fail)
                            go_wp2_with fail
                            go_roundw
                            case rel => exact ⟨k + 1, x1, by omega, by go_num, HF.out, by omega, fun h => by omega, fun u _ hu => by
                              have h1 := K5.out.2.2.symm.trans hu
                              injection h1 with h1
                              rw [← h1], HB.out.trans ((below_drewN _ _).mono HB.out.size)⟩
                            case measure => simp [intOf]; omega

                      · skip
                        have q1 : (t1 != t0) = false := by simpa using v1
                        have q2 : (m1 != m0) = false := by simpa using v2
                        have q3 : ((d1 : Int) != (d0 : Int)) = false := by simpa using (show (d1 : Int) = (d0 : Int) by omega)
                        have q4 : decide (x1 < (1 : Int)) = false := decide_eq_false (by omega)
                        have r4 : ¬ x1 < (1 : Int) := by omega
                        have q5 : decide (m0 < x1) = true := decide_eq_true (by omega)
                        have r5 : m0 < x1 := by omega
                        have HF : Hid (alk l = false) := by rw [Hid, ← HR.out, decide_eq_false (show ¬ x1 ≤ m1 by omega)]; simp
                        clear v1 v2 v3
                        have HB := Lib.hid (H1.out.2.trans (K5.out.1.mono H1.out.2.size))
                        clear HR
                        go_quiet (fail)
                        go_wp2_with fail
                        go_ret
                        exact ⟨ret_bool HF.out.symm, HB.out.trans ((below_drewN _ _).mono HB.out.size)⟩


                    · skip
                      have q1 : (t1 != t0) = false := by simpa using v1
                      have q2 : (m1 != m0) = false := by simpa using v2
                      have q3 : ((d1 : Int) != (d0 : Int)) = false := by simpa using (show (d1 : Int) = (d0 : Int) by omega)
                      have q4 : decide (x1 < (1 : Int)) = true := decide_eq_true (by omega)
                      have r4 : x1 < (1 : Int) := by omega
                      have HF : Hid (alk l = false) := by rw [Hid, ← HR.out, decide_eq_false (show ¬ bi < x1 by omega)]; simp
                      clear v1 v2 v3
                      have HB := Lib.hid (H1.out.2.trans (K5.out.1.mono H1.out.2.size))
                      clear HR
                      go_quiet (fail)
                      go_wp2_with fail
                      go_ret
                      exact ⟨ret_bool HF.out.symm, HB.out.trans ((below_drewN _ _).mono HB.out.size)⟩


                  · skip
                    have q1 : (t1 != t0) = false := by simpa using v1
                    have q2 : (m1 != m0) = false := by simpa using v2
                    have q3 : ((d1 : Int) != (d0 : Int)) = true := by simpa using (show ¬ (d1 : Int) = (d0 : Int) by omega)
                    have HF : Hid (alk l = false) := by rw [Hid, ← HR.out, decide_eq_false (fun h => v3 h.2.2)]; rfl
                    clear v1 v2 v3
                    have HB := Lib.hid (H1.out.2.trans (K5.out.1.mono H1.out.2.size))
                    clear HR
                    go_quiet (fail)
                    go_wp2_with fail
                    go_ret
                    exact ⟨ret_bool HF.out.symm, HB.out.trans ((below_drewN _ _).mono HB.out.size)⟩


                · skip
                  have q1 : (t1 != t0) = false := by simpa using v1
                  have q2 : (m1 != m0) = true := by simpa using v2
                  have HF : Hid (alk l = false) := by rw [Hid, ← HR.out, decide_eq_false (fun h => v2 h.2.1)]; rfl
                  clear v1 v2
                  have HB := Lib.hid (H1.out.2.trans (K5.out.1.mono H1.out.2.size))
                  clear HR
                  go_quiet (fail)
                  go_wp2_with fail
                  go_ret
                  exact ⟨ret_bool HF.out.symm, HB.out.trans ((below_drewN _ _).mono HB.out.size)⟩


              · skip
                have q1 : (t1 != t0) = true := by simpa using v1
                have HF : Hid (alk l = false) := by rw [Hid, ← HR.out, decide_eq_false (fun h => v1 h.1)]; rfl
                clear v1
                have HB := Lib.hid (H1.out.2.trans (K5.out.1.mono H1.out.2.size))
                clear HR
                go_quiet (fail)
                go_wp2_with fail
                go_ret
                exact ⟨ret_bool HF.out.symm, HB.out.trans ((below_drewN _ _).mono HB.out.size)⟩

            · obtain rfl : k = n := by omega
              have HF : Hid (alk l = true) := by
                rw [Hid, ← hR, List.drop_of_length_le (by rw [HN.out]; exact Nat.le_refl _)]
                rfl
              have HB := Lib.hid (H1.out.2.trans (KR.out.1.mono H1.out.2.size))
              clear hR
              go_wp2_with fail
              go_ret
              exact ⟨ret_bool HF.out.symm, HB.out⟩


end
section
open Go.RowKit
set_option linter.unusedVariables false
set_option linter.unusedSimpArgs false

set_option maxHeartbeats 1000000 in
set_option maxRecDepth 100000 in
theorem ralike_any (A : Option Addr) (c : Nat) (l : List Shr) (w : World) (hS : SS w A l c) (hl : l.length ≤ 1000000) :
    Calls Tryd.prog 35 #[.slice A l.length c] w fun e w' => e = .returned (.bool (alk l)) ∧ Below w.heap.size w w' := by
  by_cases hp : l.length = 0
  · obtain rfl : l = [] := List.eq_nil_of_length_eq_zero hp
    simp only [List.length_nil]
    clear hp hl hS
    go_enter Tryd.func35, Tryd.ntmps35
    go_wp2_with fail
    go_ret
    exact ⟨rfl, Below.refl _ _⟩
  · obtain ⟨s0, h0⟩ : ∃ s0, l[0]? = some s0 := ⟨l[0]'(by omega), by simp⟩
    obtain ⟨b, off, rfl, hb, hat⟩ := hS.1 (by omega)
    obtain ⟨A0, c0, z0, z1, z2, z3, z4, _⟩ := hat 0 s0 h0
    simp only [Nat.zero_mul, Nat.add_zero] at z0 z1 z2 z3 z4
    obtain ⟨e0, x0, t0, m0, D0⟩ := s0
    exact ralike_some b off l.length c l e0 x0 t0 m0 D0 A0 D0.length c0 w hS rfl hl h0 rfl hb z0 z1 z2 z3 z4

set_option maxHeartbeats 4000000 in
set_option maxRecDepth 100000 in
theorem rchk_any (A : Option Addr) (c : Nat) (l : List Shr) (w : World) (hS : SS w A l c) (hl : l.length ≤ 1000000) :
    Calls Tryd.prog 15 #[.slice A l.length c] w fun e w' => e = .returned (.int .i64 (chk l)) ∧ Below w.heap.size w w' := by
  have HA := Lib.hid (ralike_any A c l w hS hl)
  have HS := Lib.hid hS
  clear hS
  obtain ⟨n, hn⟩ : ∃ n, l.length = n := ⟨_, rfl⟩
  have HN := Lib.hid hn
  cases hal : alk l with
  | false =>
    have HF : Hid (chk l = 60) := by unfold chk; rw [hal]; rfl
    rw [hal] at HA
    rw [hn] at HA ⊢
    clear hal hn
    go_enter Tryd.func15, Tryd.ntmps15
    go_wp2_with fail
    refine HA.out.mono ?_
    rintro e w1 ⟨rfl, hb1⟩
    go_wp2_with fail
    go_ret
    exact ⟨congrArg (fun z => Ending.returned (.int .i64 z)) HF.out.symm, hb1⟩
  | true =>
    obtain ⟨s0, h0⟩ := alk_pos hal
    have HO := Lib.hid (onee_cons h0)
    have HC : Hid (chk l = if onee l = false then 61 else 0) := by unfold chk; rw [hal]; rfl
    have H0 := Lib.hid h0
    have hp : 0 < n := by
      have := (List.getElem?_eq_some_iff.1 h0).1
      omega
    rw [hal] at HA
    rw [hn] at HA hl ⊢
    clear hal hn h0
    obtain ⟨b, off, rfl, hb, hat⟩ := HS.out.1 (by rw [HN.out]; omega)
    have HAT := Lib.hid hat
    obtain ⟨e0, x0, t0, m0, D0⟩ := s0
    simp only at HO
    clear hat
    go_enter Tryd.func15, Tryd.ntmps15
    go_wp2_with fail
    refine HA.out.mono ?_
    rintro e w1 ⟨rfl, hb1⟩
    have HB1 := Lib.hid hb1
    clear hb1
    go_wp2_with fail
    go_loopw [3] (fun i wr => ∃ k : Nat, k ≤ n ∧ i = .int .i64 k ∧ sameEp e0 (l.take k) = true ∧ (0 < k → 0 ≤ e0 ∧ e0 ≤ 1048576) ∧ Below w.heap.size w wr) (fun i _ => n - (intOf i).toNat)
    case atStart => exact ⟨0, Nat.zero_le _, rfl, rfl, fun h => by omega, HB1.out⟩
    case round =>
      obtain ⟨k, hk, rfl, hse, h0e, hbw⟩ := hrel
      by_cases hlt : k < n
      · have hlk : k < l.length := by rw [HN.out]; exact hlt
        obtain ⟨A1, c1, k0, hr1⟩ := (HAT.out k _ (ge_some hlk)).up hb hbw
        obtain ⟨A2, c2, z0, hr2⟩ := (HAT.out 0 _ H0.out).up hb hbw
        simp only [Nat.zero_mul, Nat.add_zero] at z0
        have htk := sameEp_take e0 l k hlk
        have hno := sameEp_no e0 l k hlk
        obtain ⟨e1, he1⟩ : ∃ e1, (l[k]'hlk).ep = e1 := ⟨_, rfl⟩
        rw [he1] at k0 htk hno
        have hx1 : e1 ≠ e0 ∨ e1 < 0 ∨ 1048576 < e1 → chk l = 61 := fun h => by
          rw [HC.out, if_pos]
          rw [HO.out]
          by_cases h1 : e1 = e0
          · subst h1
            rw [decide_eq_false (show ¬ (0 ≤ e1 ∧ e1 ≤ 1048576) by omega), Bool.and_false]
          · rw [hno h1]
            rfl
        have hx2 : e1 = e0 → 0 ≤ e1 ∧ e1 ≤ 1048576 → sameEp e0 (l.take (k + 1)) = true ∧ 0 ≤ e0 ∧ e0 ≤ 1048576 := fun h1 h2 => by
          rw [htk, hse, h1, decide_eq_true rfl]
          exact ⟨rfl, h1 ▸ h2⟩
        have HX := Lib.hid (And.intro hx1 hx2)
        have HB := Lib.hid hbw
        have i1 : (0 : Int) < (n : Int) := by omega
        have i3 : (0 : Int) ≤ (k : Int) := by omega
        have i4 : (k : Int) < (n : Int) := by omega
        clear hr1 hr2 hx1 hx2 htk hno he1 hlk hse h0e hbw
        by_cases v1 : e1 = e0
        · skip
          by_cases v2 : 0 ≤ e1
          · skip
            by_cases v3 : e1 ≤ 1048576
            · skip
              have q1 : (e1 != e0) = false := by simpa using v1
              have q2 : decide (e1 < (0 : Int)) = false := decide_eq_false (by omega)
              have r2 : ¬ e1 < (0 : Int) := by omega
              have q3 : decide ((1048576 : Int) < e1) = false := decide_eq_false (by omega)
              have r3 : ¬ (1048576 : Int) < e1 := by omega
              have HF := Lib.hid (HX.out.2 v1 (show 0 ≤ e1 ∧ e1 ≤ 1048576 by omega))
              clear v1
              go_wp2_with fail
              go_quiet (fail)
              go_wp2_with fail
              go_roundw
              case rel => exact ⟨k + 1, by omega, by go_num, HF.out.1, fun _ => HF.out.2, HB.out.trans ((below_drewN _ _).mono HB.out.size)⟩
              case measure => simp [intOf]; omega

            · skip
              have q1 : (e1 != e0) = false := by simpa using v1
              have q2 : decide (e1 < (0 : Int)) = false := decide_eq_false (by omega)
              have r2 : ¬ e1 < (0 : Int) := by omega
              have q3 : decide ((1048576 : Int) < e1) = true := decide_eq_true (by omega)
              have r3 : (1048576 : Int) < e1 := by omega
              have HF : Hid (chk l = 61) := HX.out.1 (by omega)
              clear v1
              go_wp2_with fail
              go_quiet (fail)
              go_wp2_with fail
              go_ret
              exact ⟨congrArg (fun z => Ending.returned (.int .i64 z)) HF.out.symm, HB.out.trans ((below_drewN _ _).mono HB.out.size)⟩


          · skip
            have q1 : (e1 != e0) = false := by simpa using v1
            have q2 : decide (e1 < (0 : Int)) = true := decide_eq_true (by omega)
            have r2 : e1 < (0 : Int) := by omega
            have HF : Hid (chk l = 61) := HX.out.1 (by omega)
            clear v1
            go_wp2_with fail
            go_quiet (fail)
            go_wp2_with fail
            go_ret
            exact ⟨congrArg (fun z => Ending.returned (.int .i64 z)) HF.out.symm, HB.out.trans ((below_drewN _ _).mono HB.out.size)⟩


        · skip
          have q1 : (e1 != e0) = true := by simpa using v1
          have HF : Hid (chk l = 61) := HX.out.1 (by omega)
          clear v1
          go_wp2_with fail
          go_quiet (fail)
          go_wp2_with fail
          go_ret
          exact ⟨congrArg (fun z => Ending.returned (.int .i64 z)) HF.out.symm, HB.out.trans ((below_drewN _ _).mono HB.out.size)⟩


      · obtain rfl : k = n := by omega
        have HF : Hid (chk l = 0) := by
          have h1 := hse
          rw [List.take_of_length_le (by rw [HN.out]; exact Nat.le_refl _)] at h1
          rw [Hid, HC.out, HO.out, h1, decide_eq_true (h0e hp)]
          rfl
        have HB := Lib.hid hbw
        clear hse h0e hbw
        go_wp2_with fail
        go_ret
        exact ⟨congrArg (fun z => Ending.returned (.int .i64 z)) HF.out.symm, HB.out⟩

end
section
open Go.RowKit
set_option linter.unusedVariables false
set_option linter.unusedSimpArgs false

theorem Sl.cut2 {w : World} {A : Option Addr} {l : List UInt8} {c : Nat} (h : Sl w A l c) (f t : Nat) (hft : f ≤ t) (htl : t ≤ l.length) : Sl w (if c = f then A else A.map (fun x => x.add f)) ((l.drop f).take (t - f)) (c - f) := by
  have hm := h.2.1
  have hm2 := h.2.2.1
  by_cases e : c = f
  · rw [if_pos e]
    have e2 : t = f := by omega
    rw [e2, e, Nat.sub_self, List.take_zero]
    exact ⟨Bs.none_, Nat.le_refl _, Nat.zero_le _, fun _ => ⟨rfl, rfl⟩⟩
  · rw [if_neg e]
    refine ⟨h.1.drop.take, by simp; omega, by omega, fun hA => ?_⟩
    cases A with
    | none =>
      have := (h.2.2.2 rfl).2
      omega
    | some a => cases hA
theorem pols_at {s coins : List UInt8} {e p : Nat} (hp : p < s.length) : (pols s coins e).getD p [] = pcf s coins e p := by
  unfold pols
  rw [List.getD_eq_getElem?_getD, List.getElem?_map, List.getElem?_range hp]
  rfl

set_option maxHeartbeats 4000000 in
set_option maxRecDepth 100000 in
theorem rsplit_any (A1 A2 : Option Addr) (c1 c2 : Nat) (s coins : List UInt8) (ep th mn : Int) (W : World) (hS : Sl W A1 s c1) (hC : Sl W A2 coins c2) :
    Calls Tryd.prog 13 #[.slice A1 s.length c1, .int .i64 ep, .int .i64 th, .int .i64 mn, .slice A2 coins.length c2] W (SplitPost s ep th mn coins W) := by
  have b0 := Nat.le_trans hS.2.1 hS.2.2.1
  have b4 := Nat.le_trans hC.2.1 hC.2.2.1
  unfold maxLen at b0 b4
  by_cases p0 : 64 < s.length
  · skip
    have he : spe s ep th mn coins = 1 := if_pos p0
    have hfin : SplitPost s ep th mn coins W (.returned (.tuple #[.slice none 0 0, .int .i64 1])) W := by
      unfold SplitPost spl
      rw [he, if_neg (by decide)]
      exact ⟨none, 0, rfl, SS.nil _, Below.refl _ _⟩
    have HF := Lib.hid hfin
    clear hfin he
    have f0 : decide ((64 : Int) < (s.length : Int)) = true := decide_eq_true (by omega)
    have g0 : (64 : Int) < (s.length : Int) := by omega
    generalize s.length = n at *
    generalize coins.length = m at *
    go_enter Tryd.func13, Tryd.ntmps13
    go_wp2_with fail
    go_ret2
    exact HF.out

  · skip
    by_cases p1 : th < 1
    · skip
      have he : spe s ep th mn coins = 60 := (by unfold spe; rw [if_neg p0, if_pos (by omega)])
      have hfin : SplitPost s ep th mn coins W (.returned (.tuple #[.slice none 0 0, .int .i64 60])) W := by
        unfold SplitPost spl
        rw [he, if_neg (by decide)]
        exact ⟨none, 0, rfl, SS.nil _, Below.refl _ _⟩
      have HF := Lib.hid hfin
      clear hfin he
      have f0 : decide ((64 : Int) < (s.length : Int)) = false := decide_eq_false (by omega)
      have g0 : ¬ (64 : Int) < (s.length : Int) := by omega
      have f1 : decide (th < (1 : Int)) = true := decide_eq_true (by omega)
      have g1 : th < (1 : Int) := by omega
      generalize s.length = n at *
      generalize coins.length = m at *
      go_enter Tryd.func13, Tryd.ntmps13
      go_wp2_with fail
      go_ret2
      exact HF.out

    · skip
      by_cases p2 : mn < th
      · skip
        have he : spe s ep th mn coins = 60 := (by unfold spe; rw [if_neg p0, if_pos (by omega)])
        have hfin : SplitPost s ep th mn coins W (.returned (.tuple #[.slice none 0 0, .int .i64 60])) W := by
          unfold SplitPost spl
          rw [he, if_neg (by decide)]
          exact ⟨none, 0, rfl, SS.nil _, Below.refl _ _⟩
        have HF := Lib.hid hfin
        clear hfin he
        have f0 : decide ((64 : Int) < (s.length : Int)) = false := decide_eq_false (by omega)
        have g0 : ¬ (64 : Int) < (s.length : Int) := by omega
        have f1 : decide (th < (1 : Int)) = false := decide_eq_false (by omega)
        have g1 : ¬ th < (1 : Int) := by omega
        have f2 : decide (mn < th) = true := decide_eq_true (by omega)
        have g2 : mn < th := by omega
        generalize s.length = n at *
        generalize coins.length = m at *
        go_enter Tryd.func13, Tryd.ntmps13
        go_wp2_with fail
        go_ret2
        exact HF.out

      · skip
        by_cases p3 : 8 < mn
        · skip
          have he : spe s ep th mn coins = 60 := (by unfold spe; rw [if_neg p0, if_pos (by omega)])
          have hfin : SplitPost s ep th mn coins W (.returned (.tuple #[.slice none 0 0, .int .i64 60])) W := by
            unfold SplitPost spl
            rw [he, if_neg (by decide)]
            exact ⟨none, 0, rfl, SS.nil _, Below.refl _ _⟩
          have HF := Lib.hid hfin
          clear hfin he
          have f0 : decide ((64 : Int) < (s.length : Int)) = false := decide_eq_false (by omega)
          have g0 : ¬ (64 : Int) < (s.length : Int) := by omega
          have f1 : decide (th < (1 : Int)) = false := decide_eq_false (by omega)
          have g1 : ¬ th < (1 : Int) := by omega
          have f2 : decide (mn < th) = false := decide_eq_false (by omega)
          have g2 : ¬ mn < th := by omega
          have f3 : decide ((8 : Int) < mn) = true := decide_eq_true (by omega)
          have g3 : (8 : Int) < mn := by omega
          generalize s.length = n at *
          generalize coins.length = m at *
          go_enter Tryd.func13, Tryd.ntmps13
          go_wp2_with fail
          go_ret2
          exact HF.out

        · skip
          by_cases p4 : ep < 0
          · skip
            have he : spe s ep th mn coins = 61 := (by unfold spe; rw [if_neg p0, if_neg (by omega), if_pos (by omega)])
            have hfin : SplitPost s ep th mn coins W (.returned (.tuple #[.slice none 0 0, .int .i64 61])) W := by
              unfold SplitPost spl
              rw [he, if_neg (by decide)]
              exact ⟨none, 0, rfl, SS.nil _, Below.refl _ _⟩
            have HF := Lib.hid hfin
            clear hfin he
            have f0 : decide ((64 : Int) < (s.length : Int)) = false := decide_eq_false (by omega)
            have g0 : ¬ (64 : Int) < (s.length : Int) := by omega
            have f1 : decide (th < (1 : Int)) = false := decide_eq_false (by omega)
            have g1 : ¬ th < (1 : Int) := by omega
            have f2 : decide (mn < th) = false := decide_eq_false (by omega)
            have g2 : ¬ mn < th := by omega
            have f3 : decide ((8 : Int) < mn) = false := decide_eq_false (by omega)
            have g3 : ¬ (8 : Int) < mn := by omega
            have f4 : decide (ep < (0 : Int)) = true := decide_eq_true (by omega)
            have g4 : ep < (0 : Int) := by omega
            generalize s.length = n at *
            generalize coins.length = m at *
            go_enter Tryd.func13, Tryd.ntmps13
            go_wp2_with fail
            go_ret2
            exact HF.out

          · skip
            by_cases p5 : 1048576 < ep
            · skip
              have he : spe s ep th mn coins = 61 := (by unfold spe; rw [if_neg p0, if_neg (by omega), if_pos (by omega)])
              have hfin : SplitPost s ep th mn coins W (.returned (.tuple #[.slice none 0 0, .int .i64 61])) W := by
                unfold SplitPost spl
                rw [he, if_neg (by decide)]
                exact ⟨none, 0, rfl, SS.nil _, Below.refl _ _⟩
              have HF := Lib.hid hfin
              clear hfin he
              have f0 : decide ((64 : Int) < (s.length : Int)) = false := decide_eq_false (by omega)
              have g0 : ¬ (64 : Int) < (s.length : Int) := by omega
              have f1 : decide (th < (1 : Int)) = false := decide_eq_false (by omega)
              have g1 : ¬ th < (1 : Int) := by omega
              have f2 : decide (mn < th) = false := decide_eq_false (by omega)
              have g2 : ¬ mn < th := by omega
              have f3 : decide ((8 : Int) < mn) = false := decide_eq_false (by omega)
              have g3 : ¬ (8 : Int) < mn := by omega
              have f4 : decide (ep < (0 : Int)) = false := decide_eq_false (by omega)
              have g4 : ¬ ep < (0 : Int) := by omega
              have f5 : decide ((1048576 : Int) < ep) = true := decide_eq_true (by omega)
              have g5 : (1048576 : Int) < ep := by omega
              generalize s.length = n at *
              generalize coins.length = m at *
              go_enter Tryd.func13, Tryd.ntmps13
              go_wp2_with fail
              go_ret2
              exact HF.out

            · skip
              have f0 : decide ((64 : Int) < (s.length : Int)) = false := decide_eq_false (by omega)
              have g0 : ¬ (64 : Int) < (s.length : Int) := by omega
              have f1 : decide (th < (1 : Int)) = false := decide_eq_false (by omega)
              have g1 : ¬ th < (1 : Int) := by omega
              have f2 : decide (mn < th) = false := decide_eq_false (by omega)
              have g2 : ¬ mn < th := by omega
              have f3 : decide ((8 : Int) < mn) = false := decide_eq_false (by omega)
              have g3 : ¬ (8 : Int) < mn := by omega
              have f4 : decide (ep < (0 : Int)) = false := decide_eq_false (by omega)
              have g4 : ¬ ep < (0 : Int) := by omega
              have f5 : decide ((1048576 : Int) < ep) = false := decide_eq_false (by omega)
              have g5 : ¬ (1048576 : Int) < ep := by omega
              obtain ⟨each, hth⟩ : ∃ each : Nat, th - 1 = (each : Int) := ⟨(th - 1).toNat, by omega⟩
              have hte : th.toNat - 1 = each := by omega
              have he8 : each ≤ 7 := by omega
              have hle := Nat.mul_le_mul (show s.length ≤ 64 by omega) he8
              obtain ⟨t, ht⟩ : ∃ t, s.length * each = t := ⟨_, rfl⟩
              rw [ht] at hle
              have hti : ((s.length : Int) * (each : Int)) = (t : Int) := by rw [← Int.natCast_mul, ht]
              have w1 : IntKind.i64.wrap (th - 1) = (each : Int) := by rw [IntKind.wrap_i64]; omega
              have w2 : IntKind.i64.wrap ((s.length : Int) * (each : Int)) = (t : Int) := by rw [hti, IntKind.wrap_i64]; omega
              have hsp : spe s ep th mn coins = if coins.length ≠ t then 1 else 0 := by
                unfold spe
                rw [if_neg p0, if_neg (by omega), if_neg (by omega), hte, ht]
              by_cases p6 : coins.length = t
              · have he : spe s ep th mn coins = 0 := by rw [hsp, if_neg (fun h => h p6)]
                have q6 : ((coins.length : Int) != (t : Int)) = false := by simpa using (show (coins.length : Int) = (t : Int) by omega)
                obtain ⟨Z, hZ⟩ : ∃ Z, spl s ep th mn coins = Z := ⟨_, rfl⟩
                obtain ⟨N, hN⟩ : ∃ N, mn.toNat = N := ⟨_, rfl⟩
                have hZl := spl_length he
                rw [hZ, hN] at hZl
                have hZat : ∀ k, k < N → Z[k]? = some (psh ep th mn (pols s coins each) k) := fun k hk => by
                  rw [← hZ, ← hte]
                  exact spl_at he (by omega)
                have HZ := Lib.hid (And.intro hZ (And.intro hZl (And.intro hZat (And.intro he (And.intro hN p6)))))
                have hN8 : N ≤ 8 ∧ 1 ≤ N := by omega
                have HT := Lib.hid (And.intro ht (And.intro hth hte))
                have HS := Lib.hid (And.intro hS hC)
                have HMN := Lib.hid (show mn = (N : Int) by omega)
                have hfin : ∀ A' c' w', OB W w' A' c' Z → Below W.heap.size W w' → SplitPost s ep th mn coins W (.returned (.tuple #[.slice A' N c', .int .i64 0])) w' := fun A' c' w' ho hb => by
                  unfold SplitPost
                  rw [he, hZ, hZl]
                  exact ⟨A', c', rfl, ho.ss, hb⟩
                have HF := Lib.hid hfin
                obtain ⟨n, hn⟩ : ∃ n, s.length = n := ⟨_, rfl⟩
                obtain ⟨m, hm⟩ : ∃ m, coins.length = m := ⟨_, rfl⟩
                have HL := Lib.hid (And.intro hn hm)
                have hn64 : n ≤ 64 := by omega
                clear hS hC hZ hZl hZat he hN hsp ht hth hte hti hfin hle
                rw [hn] at b0 p0 f0 g0 w2 ⊢
                rw [hm] at b4 q6 ⊢
                clear p6 hn hm
                go_enter Tryd.func13, Tryd.ntmps13
                go_upto_region 10 with fail
                go_wp2_with fail
                go_loopw [12, 13] (fun v i wr => ∃ (k : Nat) (A' : Option Addr) (c' : Nat), k ≤ N ∧ v = .slice A' k c' ∧ i = .int .i64 ((k : Int) + 1) ∧ OB W wr A' c' (Z.take k) ∧ Below W.heap.size W wr) (fun _ i _ => N + 1 - (intOf i).toNat)
                case atStart => exact ⟨0, none, 0, Nat.zero_le _, rfl, rfl, OB.nil _ _, Below.refl _ _⟩
                case round =>
                  obtain ⟨kk, A', c', hkk, rfl, rfl, hO, hb⟩ := hrel
                  obtain ⟨V, rfl⟩ : ∃ V, V = wr := ⟨_, rfl⟩
                  have KR := Lib.hid (And.intro hO hb)
                  clear hO hb
                  by_cases hlt : kk < N
                  · have hmn := HMN.out
                    have u1 : decide ((kk : Int) + 1 ≤ mn) = true := decide_eq_true (by omega)
                    have u2 : (kk : Int) + 1 ≤ mn := by omega
                    have u3 : ¬ mn < (kk : Int) + 1 := by omega
                    have u4 : decide (mn < (kk : Int) + 1) = false := decide_eq_false u3
                    clear hmn
                    go_upto_region 14 with fail
                    obtain ⟨x, hx⟩ : ∃ x, UInt8.ofNat (kk + 1) = x := ⟨_, rfl⟩
                    obtain ⟨D, hD⟩ : ∃ D, (psh ep th mn (pols s coins each) kk).data = D := ⟨_, rfl⟩
                    have hDl : D.length = n := by rw [← hD, psh_len]; exact HL.out.1
                    have hDat : ∀ j, j < n → D[j]? = some (hv (pcf s coins each j) x) := fun j hj => by
                      rw [← hD, ← hx]
                      have hjs : j < s.length := by rw [HL.out.1]; exact hj
                      show ((List.range (pols s coins each).length).map fun k => hv ((pols s coins each).getD k []) (UInt8.ofNat (kk + 1)))[j]? = _
                      rw [List.getElem?_map, List.getElem?_range (by unfold pols; simp; exact hjs), Option.map_some, pols_at hjs]
                    have HDD := Lib.hid (And.intro hD (And.intro hDl (And.intro hDat hx)))
                    have x14 := Box.new V #[.int .i64 ep, .int .i64 ((kk : Int) + 1), .int .i64 th, .int .i64 mn, .slice none 0 0] 41
                    have hba := (Below.refl V.heap.size V).alloc (Nat.le_refl _) (.cells #[.int .i64 ep, .int .i64 ((kk : Int) + 1), .int .i64 th, .int .i64 mn, .slice none 0 0] 41)
                    have KV := Lib.hid (And.intro x14 hba)
                    clear x14 hba hD hDl hDat hx
                    generalize V.alloc (.cells #[.int .i64 ep, .int .i64 ((kk : Int) + 1), .int .i64 th, .int .i64 mn, .slice none 0 0] 41) = V1 at *
                    obtain ⟨b14, hb14⟩ : ∃ b14, V.heap.size = b14 := ⟨_, rfl⟩
                    rw [hb14] at KV ⊢
                    have HB14 := Lib.hid hb14
                    clear hb14
                    go_wp2_with fail
                    go_loopw [15] (fun i wr => ∃ (j : Nat) (A9 : Option Addr) (c9 : Nat), j ≤ n ∧ i = .int .i64 (j : Nat) ∧ Box wr b14 #[.int .i64 ep, .int .i64 ((kk : Int) + 1), .int .i64 th, .int .i64 mn, .slice A9 j c9] 41 ∧ wr.ownsRow b14 5 1 (.slice A9 j c9) j ((D.take j).map bv) ∧ Below b14 V wr) (fun i _ => n - (intOf i).toNat)
                    case atStart => exact ⟨0, none, 0, Nat.zero_le _, rfl, KV.out.1, World.ownsRow_nil _ _ _ _, KV.out.2⟩
                    case round =>
                      obtain ⟨j, A9, c9, hj, rfl, y14, ho9, hbv⟩ := hrel
                      have KS := Lib.hid (And.intro y14 (And.intro ho9 hbv))
                      clear y14 ho9 hbv
                      by_cases hlj : j < n
                      · have hbV : Below W.heap.size W wr := KR.out.2.trans ((by have h1 := KS.out.2.2; rw [← HB14.out] at h1; exact h1.mono KR.out.2.size))
                        obtain ⟨y, hy⟩ : ∃ y, s[j]? = some y := ⟨_, List.getElem?_eq_getElem (by rw [HL.out.1]; exact hlj)⟩
                        obtain ⟨bs, os, rfl, hbs, hcs⟩ := (HS.out.1.up hbV).1 (by rw [HL.out.1]; omega)
                        have k0 : wr.cell? ⟨bs, os + j, none⟩ = some (.int .u8 (y.toNat : Int)) := hcs j y hy
                        have hyd : s.getD j 0 = y := by rw [List.getD_eq_getElem?_getD, hy]; rfl
                        have hmt : m = t := by have := HZ.out.2.2.2.2.2; rw [HL.out.2] at this; exact this
                        have hle := Nat.mul_le_mul_right each (show j + 1 ≤ n by omega)
                        have hnt : n * each = t := by have := HT.out.1; rw [HL.out.1] at this; exact this
                        have hne := Nat.mul_le_mul hn64 he8
                        obtain ⟨f, hf⟩ : ∃ f, j * each = f := ⟨_, rfl⟩
                        obtain ⟨j1, hj1⟩ : ∃ j1, j + 1 = j1 := ⟨_, rfl⟩
                        obtain ⟨g, hg⟩ : ∃ g, j1 * each = g := ⟨_, rfl⟩
                        have hfg : f + each = g := by rw [← hg, ← hj1, Nat.add_mul, hf]; omega
                        rw [hj1, hg, hnt] at hle
                        have w3 : IntKind.i64.wrap ((j : Int) + 1) = (j1 : Int) := by rw [IntKind.wrap_i64]; omega
                        have w4 : IntKind.i64.wrap ((j : Int) * (each : Int)) = (f : Int) := by rw [← Int.natCast_mul, hf, IntKind.wrap_i64]; omega
                        have w5 : IntKind.i64.wrap ((j1 : Int) * (each : Int)) = (g : Int) := by rw [← Int.natCast_mul, hg, IntKind.wrap_i64]; omega
                        have hpc : pcf s coins each j = y :: (coins.drop f).take (g - f) := by
                          unfold pcf
                          rw [hyd, hf, show g - f = each by omega]
                        have hcc := HS.out.2.2.1
                        rw [HL.out.2] at hcc
                        have l1 : (0 : Int) ≤ (f : Int) := by omega
                        have l2 : (f : Int) ≤ (g : Int) := by omega
                        have l3 : (g : Int) ≤ (c2 : Int) := by omega
                        have i1 : (0 : Int) ≤ (j : Int) := by omega
                        have i2 : (j : Int) < (n : Int) := by omega
                        have hll : ((coins.drop f).take (g - f)).length = g - f := by
                          rw [List.length_take, List.length_drop, HL.out.2]
                          omega
                        have hown : ((wr.alloc (.cells #[.int .u8 (y.toNat : Int)] 5)).drew).ownsRow wr.heap.size 5 1 (.slice (some ⟨wr.heap.size, 0, none⟩) 1 1) 1 [.int .u8 (y.toNat : Int)] :=
                          World.ownsRow_lit (base := wr.heap.size) (e := 5) (size := 1) wr #[.int .u8 (y.toNat : Int)] 1 (by omega) (by unfold maxLen; omega) rfl
                        have hb3 : Below wr.heap.size wr ((wr.alloc (.cells #[.int .u8 (y.toNat : Int)] 5)).drew) := ((Below.refl wr.heap.size wr).alloc (Nat.le_refl _) _).drew
                        have hsl : Sl ((wr.alloc (.cells #[.int .u8 (y.toNat : Int)] 5)).drew) (if c2 = f then A2 else A2.map (fun x => x.add f)) ((coins.drop f).take (g - f)) (c2 - f) :=
                          ((HS.out.2.up hbV).up hb3).cut2 f g (by omega) (by rw [HL.out.2]; omega)
                        have hk0 : ∀ W', Below wr.heap.size wr W' → W'.cell? ⟨bs, os + j, none⟩ = some (.int .u8 (y.toNat : Int)) := fun W' hb => (hb.cell (p := ⟨bs, os + j, none⟩) hbs).trans k0
                        have HK0 := Lib.hid hk0
                        have HW := Lib.hid (And.intro hown (And.intro hb3 (And.intro hsl (And.intro hll (And.intro hpc (And.intro hbV (show g - f = each by omega)))))))
                        have hgf : 1 + (g - f) ≤ 1000 := by omega
                        obtain ⟨yn, hyn⟩ : ∃ yn, y.toNat = yn := ⟨_, rfl⟩
                        rw [hyn] at HW HK0 k0
                        have HYN := Lib.hid hyn
                        clear hown hb3 hsl hll hpc hcs hy hyd hmt hle hnt hne hf hj1 hg hfg hcc hk0 hyn hbs hbV
                        go_upto_region 17 with fail
                        go_region_held3 (fun w' => w'.cell? ⟨bs, os + j, none⟩ = some (.int .u8 (yn : Int)))
                          (with_reducible first | exact HK0.out _ (Below.refl wr.heap.size wr).drew | exact HK0.out _ HW.out.2.1 | exact HK0.out _ H9.out.2 | go_keep)
                          (first
                            | (refine step_append_sl (by rfl) (.tmp 65) (.tmp 76) (by rfl) _ 1 _ (by rfl) HW.out.1 _ _ (g - f) (c2 - f) HW.out.2.2.2.1 (by rfl) HW.out.2.2.1 (1 + (g - f)) rfl (by omega) HW.out.2.1.size ?_; intro A10 c10 w10 ho10 hg10; have hb10 := HW.out.2.1.grown hg10 HW.out.2.1.size (fun i hi => (HW.out.1.lt i hi).1); have H9 := Lib.hid (And.intro ho10 hb10); clear ho10 hg10 hb10)
                            | fail)
                        have hP : Sl w10 A10 (pcf s coins each j) c10 := by
                          have h := H9.out.1
                          rw [← HYN.out] at h
                          rw [HW.out.2.2.2.2.1]
                          exact Sl.of_own' (l := y :: (coins.drop f).take (g - f)) h (by rw [List.length_cons, HW.out.2.2.2.1]; omega)
                        have hPl : (pcf s coins each j).length = 1 + (g - f) := by rw [HW.out.2.2.2.2.1, List.length_cons, HW.out.2.2.2.1]; omega
                        have hdat := HDD.out.2.2.1 j hlj
                        obtain ⟨z, hz⟩ : ∃ z, hv (pcf s coins each j) x = z := ⟨_, rfl⟩
                        rw [hz] at hdat
                        obtain ⟨zn, hzn⟩ : ∃ zn, z.toNat = zn := ⟨_, rfl⟩
                        have hbx : bv x = .int .u8 ((kk : Int) + 1) := by rw [← HDD.out.2.2.2]; exact bv_of (kk + 1) (by omega)
                        have w6 : IntKind.u8.wrap ((kk : Int) + 1) = (kk : Int) + 1 := by rw [IntKind.wrap_u8]; omega
                        have HEV : Hid (Calls Tryd.prog 32 #[.slice A10 (1 + (g - f)) c10, .int .u8 ((kk : Int) + 1)] w10.drew fun e w' => e = .returned (.int .u8 (zn : Int)) ∧ w10.drew = w') := by
                          have h := reval_any A10 c10 (pcf s coins each j) x w10.drew (hP.up (Below.refl w10.heap.size w10).drew) (by rw [hPl]; omega)
                          rw [hPl, hbx, hz] at h
                          unfold bv at h
                          rw [hzn] at h
                          exact h
                        have htk : D.take (j + 1) = D.take j ++ [z] := by rw [List.take_add_one, hdat]; rfl
                        have hlit : (([z].map bv).toArray : Array Value) = #[.int .u8 (zn : Int)] := by
                          rw [← hzn]
                          rfl
                        have HTK := Lib.hid (And.intro htk hlit)
                        have hlt14 := KS.out.1.lt
                        have KT0 := Lib.hid (And.intro (KS.out.1.below H9.out.2) (And.intro (own_below KS.out.2.1 H9.out.2) (KS.out.2.2.trans (H9.out.2.mono (by omega)))))
                        clear hP hPl hdat hz hzn hbx htk hlit k0 KS HW HK0 w3 w4 w5 hlt14 H9
                        generalize w10 = wr at *
                        have HD1 := Lib.hid (fun W' (hb : Below wr.heap.size wr W') => show (fun w' => w'.cell? ⟨b14, 4, none⟩ = some (.slice A9 j c9)) W' from (KT0.out.1.below hb).cell 4)
                        have HDV := Lib.hid (HD1.out wr.drew (Below.refl wr.heap.size wr).drew)
                        have hbase : b14 ≤ (wr.alloc (.cells #[.int .u8 (zn : Int)] 5)).drew.heap.size := by
                          have h1 := KT0.out.1.lt
                          show b14 ≤ (wr.alloc _).heap.size
                          rw [World.size_alloc]
                          omega
                        have hba := (Below.refl wr.heap.size wr).alloc (Nat.le_refl _) (.cells #[.int .u8 (zn : Int)] 5)
                        have HBA := Lib.hid hba.drew
                        have HSZ := Lib.hid (show Sl (wr.alloc (.cells #[.int .u8 (zn : Int)] 5)).drew (some ⟨wr.heap.size, 0, none⟩) [z] 1 from sl_lit wr [z] 1 rfl (by omega) #[.int .u8 (zn : Int)] HTK.out.2)
                        clear hba
                        go_upto_region 18 with fail
                        refine wp_region_later 9 (fun w' => w'.cell? ⟨b14, 4, none⟩ = some (.slice A9 j c9)) (by kernel_rfl) ?_
                        refine takeL (d := some 78) (i := 0) (v := ?v0) rfl rfl (by kernel_rfl) (by kernel_rfl) (by kernel_rfl) (fun _ _ _ h => h) rfl (by kernel_rfl) (Or.inl ⟨by rfl, ?y0⟩) HDV.out ?r0
                        case y0 =>
                          intro w hSw
                          try dsimp only at hSw
                          go_simp
                          all_goals with_reducible rfl
                        try simp only [Act.put, List.setIfInBounds_toArray, List.set_cons_zero, List.set_cons_succ]
                        refine takeL (d := some 79) (i := 1) (v := ?v1) rfl rfl (by kernel_rfl) (by kernel_rfl) (by kernel_rfl) (fun _ _ _ h => h) rfl (by kernel_rfl) (Or.inl ⟨by rfl, ?y1⟩) HDV.out ?r1
                        case y1 =>
                          intro w hSw
                          try dsimp only at hSw
                          go_simp
                          all_goals with_reducible rfl
                        try simp only [Act.put, List.setIfInBounds_toArray, List.set_cons_zero, List.set_cons_succ]
                        refine takeL (d := some 80) (i := 2) (v := ?v2) rfl rfl (by kernel_rfl) (by kernel_rfl) (by kernel_rfl) (fun _ _ _ h => h) rfl (by kernel_rfl) (Or.inl ⟨by rfl, ?y2⟩) HDV.out ?r2
                        case y2 =>
                          intro w hSw
                          try dsimp only at hSw
                          go_simp
                          all_goals with_reducible rfl
                        try simp only [Act.put, List.setIfInBounds_toArray, List.set_cons_zero, List.set_cons_succ]
                        refine takeL (d := some 81) (i := 3) (v := ?v3) rfl rfl (by kernel_rfl) (by kernel_rfl) (by kernel_rfl) (fun _ _ _ h => h) rfl (by kernel_rfl) (Or.inl ⟨by rfl, ?y3⟩) HDV.out ?r3
                        case y3 =>
                          intro w hSw
                          try dsimp only at hSw
                          go_simp
                          all_goals with_reducible rfl
                        try simp only [Act.put, List.setIfInBounds_toArray, List.set_cons_zero, List.set_cons_succ]
                        refine takeL (d := some 82) (i := 4) (v := ?v4) rfl rfl (by kernel_rfl) (by kernel_rfl) (by kernel_rfl) (fun _ _ _ h => h) rfl (by kernel_rfl) (Or.inl ⟨by rfl, ?y4⟩) HDV.out ?r4
                        case y4 =>
                          intro w hSw
                          try dsimp only at hSw
                          go_simp
                          all_goals with_reducible rfl
                        try simp only [Act.put, List.setIfInBounds_toArray, List.set_cons_zero, List.set_cons_succ]
                        refine oneL (i := 5) (by kernel_rfl) rfl (fun K' hK => ?_)
                        go_simp
                        refine HEV.out.mono ?_
                        rintro e w11 ⟨rfl, rfl⟩
                        go_simp
                        refine hK.out _ _ (fun _ => HDV.out) ?_
                        clear hK
                        refine oneL (i := 6) (by kernel_rfl) rfl (fun K' hK => ?_)
                        go_simp
                        refine hK.out _ _ (fun _ => HD1.out _ HBA.out) ?_
                        clear hK
                        refine oneL (i := 7) (by kernel_rfl) rfl (fun K' hK => ?_)
                        refine step_append_sl (base := b14) (by rfl) (.tmp 79) (.tmp 84) (by rfl) (.slice A9 j c9) j _ (by rfl) (own_below KT0.out.2.1 HBA.out) (some ⟨wr.heap.size, 0, none⟩) [z] 1 1 rfl (by rfl) HSZ.out (j + 1) rfl (by omega) hbase ?_
                        intro A11 c11 w11 ho11 hg11
                        have hob := own_below KT0.out.2.1 HBA.out
                        have x11 := (KT0.out.1.below HBA.out).grown hg11 (fun e => box_own (KT0.out.1.below HBA.out) hob (by decide) e.symm)
                        have hb11 : Below b14 V w11 := (KT0.out.2.2.trans (HBA.out.mono (by have := KT0.out.1.lt; omega))).grown hg11 hbase (fun i hi => (hob.lt i hi).1)
                        have f11 := x11.frozen 4
                        have c11' : w11.cell? ⟨b14, 4, none⟩ = some (.slice A9 j c9) := x11.cell 4
                        have K11 := Lib.hid (And.intro x11 (And.intro ho11 hb11))
                        clear ho11 hg11 hob x11 hb11
                        refine hK.out _ _ (fun _ => c11') ?_
                        clear hK
                        refine oneL (i := 8) (by kernel_rfl) rfl (fun K' hK => ?_)
                        go_simp
                        refine hK.out _ _ (fun _ => c11') ?_
                        clear hK
                        refine oneL (i := 9) (by kernel_rfl) rfl (fun K' hK => ?_)
                        go_simp
                        refine hK.out _ _ (fun e => by simp at e) ?_
                        clear hK
                        refine doneL (by kernel_rfl) ?_ _
                        have F1 : Box (w11.setCell ⟨b14, 4, none⟩ (.slice A11 (j + 1) c11)) b14 #[.int .i64 ep, .int .i64 ((kk : Int) + 1), .int .i64 th, .int .i64 mn, .slice A11 (j + 1) c11] 41 := K11.out.1.set (i := 4) (v := .slice A11 (j + 1) c11)
                        have F2 := K11.out.2.1.kept (set_grown_at w11 b14 4 (.slice A11 (j + 1) c11)) (.inr (box_own K11.out.1 K11.out.2.1 (by decide)))
                        rw [← List.map_append, ← HTK.out.1] at F2
                        have F := Lib.hid (And.intro F1 (And.intro F2 (K11.out.2.2.setCell (p := ⟨b14, 4, none⟩) (Nat.le_refl _) (.slice A11 (j + 1) c11))))
                        clear F1 F2 K11 c11' f11 HD1 HDV HBA HSZ HTK KT0 hbase HEV w6
                        generalize World.setCell _ ⟨b14, 4, none⟩ _ = wF at *
                        go_wp2_with fail
                        go_roundw
                        case rel => exact ⟨j + 1, A11, c11, by omega, by go_num, F.out⟩
                        case measure => simp [intOf]; omega
                      · obtain rfl : j = n := by omega
                        have htk : D.take j = D := List.take_of_length_le (by rw [HDD.out.2.1]; exact Nat.le_refl _)
                        have hln : D.length = j := HDD.out.2.1
                        rw [htk] at KS
                        have hsz := HB14.out
                        have hlt9 := KS.out.1.lt
                        have hba := (Below.refl wr.heap.size wr).alloc (Nat.le_refl _) (.cells #[.int .i64 ep, .int .i64 ((kk : Int) + 1), .int .i64 th, .int .i64 mn, .slice A9 j c9] 41)
                        have hbw := KS.out.2.2
                        have hzz : W.heap.size ≤ b14 := by have := KR.out.2.size; omega
                        rw [← hsz] at hbw
                        have hOB := (KR.out.1.up hbw).up hba
                        obtain ⟨u, hu⟩ : ∃ u, psh ep th mn (pols s coins each) kk = u := ⟨_, rfl⟩
                        have hud : u.data = D := by rw [← hu]; exact HDD.out.1
                        have hown : (wr.alloc (.cells #[.int .i64 ep, .int .i64 ((kk : Int) + 1), .int .i64 th, .int .i64 mn, .slice A9 j c9] 41)).ownsRow W.heap.size 5 1 (.slice A9 u.data.length c9) u.data.length (u.data.map bv) := by
                          rw [hud, hln]
                          exact own_base (own_below KS.out.2.1 hba) hzz
                        have hbox : Box (wr.alloc (.cells #[.int .i64 ep, .int .i64 ((kk : Int) + 1), .int .i64 th, .int .i64 mn, .slice A9 j c9] 41)) wr.heap.size #[.int .i64 u.ep, .int .i64 u.ix, .int .i64 u.th, .int .i64 u.mn, .slice A9 u.data.length c9] 41 := by
                          rw [hud, hln, ← hu]
                          exact Box.new _ _ _
                        have hb3 := (KR.out.2.trans (hbw.mono KR.out.2.size)).alloc (Nat.le_trans KR.out.2.size hbw.size) (.cells #[.int .i64 ep, .int .i64 ((kk : Int) + 1), .int .i64 th, .int .i64 mn, .slice A9 j c9] 41)
                        have hlk : (Z.take kk).length = kk := by rw [List.length_take, HZ.out.2.1]; omega
                        have hzk : Z.take (kk + 1) = Z.take kk ++ [u] := by rw [List.take_add_one, HZ.out.2.2.1 kk hlt, hu]; rfl
                        have HO := Lib.hid (And.intro hOB (And.intro hown (And.intro hbox (And.intro hb3 (And.intro hlk hzk)))))
                        have z0 := KS.out.1.cell 0
                        have z1 := KS.out.1.cell 1
                        have z2 := KS.out.1.cell 2
                        have z3 := KS.out.1.cell 3
                        have z4 := KS.out.1.cell 4
                        simp only [List.getElem?_toArray, List.getElem?_cons_zero, List.getElem?_cons_succ] at z0 z1 z2 z3 z4
                        clear htk hln hba hbw hOB hown hbox hb3 hlk hzk KS hsz hu hud
                        go_wp2_with (at_builtin; refine wpList_append_ob (w0 := W) rfl (.tmp 87) (.tmp 89) rfl A' (Z.take kk) kk c' HO.out.2.2.2.2.1 rfl HO.out.1 wr.heap.size u A9 c9 rfl HO.out.2.2.1 HO.out.2.1 (by omega) HO.out.2.2.2.1 ?_; intro A12 c12 w12 ho12 hb12; have H12 := Lib.hid (And.intro ho12 hb12); clear ho12 hb12)
                        go_roundw
                        case rel => exact ⟨kk + 1, A12, c12, by omega, rfl, by go_num, by rw [HO.out.2.2.2.2.2]; exact H12.out.1, H12.out.2⟩
                        case measure => simp [intOf]; omega
                  · obtain rfl : kk = N := by omega
                    have hmn := HMN.out
                    have u1 : decide ((kk : Int) + 1 ≤ mn) = false := decide_eq_false (by omega)
                    have u2 : mn < (kk : Int) + 1 := by omega
                    have u4 : decide (mn < (kk : Int) + 1) = true := decide_eq_true u2
                    have hzt : Z.take kk = Z := List.take_of_length_le (by rw [HZ.out.2.1]; exact Nat.le_refl _)
                    have HR := Lib.hid (HF.out A' c' V (by rw [← hzt]; exact KR.out.1) KR.out.2)
                    clear hzt hmn
                    go_wp2_with fail
                    go_ret2
                    exact HR.out
              · have he : spe s ep th mn coins = 1 := by rw [hsp, if_pos p6]
                have q6 : ((coins.length : Int) != (t : Int)) = true := by simpa using (show ¬ (coins.length : Int) = (t : Int) by omega)
                have hfin : SplitPost s ep th mn coins W (.returned (.tuple #[.slice none 0 0, .int .i64 1])) W := by
                  unfold SplitPost spl
                  rw [he, if_neg (by decide)]
                  exact ⟨none, 0, rfl, SS.nil _, Below.refl _ _⟩
                have HF := Lib.hid hfin
                clear hfin he

                clear hsp ht hth hte hti p6 hS hC
                generalize s.length = n at *
                generalize coins.length = m at *
                go_enter Tryd.func13, Tryd.ntmps13
                go_wp2_with fail
                go_ret2
                exact HF.out


end
section
open Go.RowKit
set_option linter.unusedVariables false
set_option linter.unusedSimpArgs false

theorem spl_small (s coins : List UInt8) (ep th mn : Int) : (spl s ep th mn coins).length ≤ 8 := by
  by_cases h : spe s ep th mn coins = 0
  · have h1 := spl_length h
    obtain ⟨_, h2, _, _⟩ := spe_zero h
    omega
  · unfold spl
    rw [if_neg h]
    simp

set_option maxHeartbeats 4000000 in
set_option maxRecDepth 100000 in
theorem lawSpl_any (A0 : Option Addr) (c0 : Nat) (l : List Shr) (A1 : Option Addr) (c1 : Nat) (s : List UInt8) (ep th mn : Int) (A5 : Option Addr) (c5 : Nat) (coins : List UInt8) (w : World) (hK : KT w) (hS0 : SS w A0 l c0) (hS1 : Sl w A1 s c1) (hS5 : Sl w A5 coins c5) :
    Calls Tryd.prog 3 #[.slice A0 l.length c0, .slice A1 s.length c1, .int .i64 ep, .int .i64 th, .int .i64 mn, .slice A5 coins.length c5] w fun e w' => e = .returned (.bool true) ∧ Below w.heap.size w w' := by
  have HS := Lib.hid (sane_any w hK)
  have HFW := Lib.hid (fun w1 (hb : Below w.heap.size w w1) => rfew_any A0 c0 l w1 (hS0.up hb))
  have b0 := Nat.le_trans hS0.2.1 hS0.2.2.1
  have b1 := Nat.le_trans hS1.2.1 hS1.2.2.1
  have b5 := Nat.le_trans hS5.2.1 hS5.2.2.1
  unfold maxLen at b0 b1 b5
  cases hfw : few l with
  | false =>
    rw [hfw] at HFW
    clear hfw hS0 hS1 hS5 hK
    generalize l.length = ln at *
    generalize s.length = n at *
    generalize coins.length = m at *
    go_enter Tryd.func3, Tryd.ntmps3
    go_wp2_with fail
    refine HS.out.mono ?_
    rintro e w1 ⟨rfl, hb1⟩
    go_wp2_with fail
    refine (HFW.out w1 hb1).mono ?_
    rintro e w9 ⟨rfl, rfl⟩
    go_wp2_with fail
    go_ret
    exact ⟨rfl, hb1⟩

  | true =>
    have hl10 : l.length ≤ 10 := by
      unfold few at hfw
      rw [Bool.and_eq_true] at hfw
      exact of_decide_eq_true hfw.2
    rw [hfw] at HFW
    clear hfw
    by_cases p1 : 70 < s.length
    · have d1 : decide ((70 : Int) < (s.length : Int)) = true := decide_eq_true (by omega)
      have d2 : (70 : Int) < (s.length : Int) := by omega
      clear hS0 hS1 hS5 hK
      generalize l.length = ln at *
      generalize s.length = n at *
      generalize coins.length = m at *
      go_enter Tryd.func3, Tryd.ntmps3
      go_wp2_with fail
      refine HS.out.mono ?_
      rintro e w1 ⟨rfl, hb1⟩
      go_wp2_with fail
      refine (HFW.out w1 hb1).mono ?_
      rintro e w9 ⟨rfl, rfl⟩
      go_wp2_with fail
      go_ret
      exact ⟨rfl, hb1⟩

    · have d1 : decide ((70 : Int) < (s.length : Int)) = false := decide_eq_false (by omega)
      have d2 : ¬ (70 : Int) < (s.length : Int) := by omega
      by_cases p2 : 600 < coins.length
      · have d3 : decide ((600 : Int) < (coins.length : Int)) = true := decide_eq_true (by omega)
        have d4 : (600 : Int) < (coins.length : Int) := by omega
        clear hS0 hS1 hS5 hK
        generalize l.length = ln at *
        generalize s.length = n at *
        generalize coins.length = m at *
        go_enter Tryd.func3, Tryd.ntmps3
        go_wp2_with fail
        refine HS.out.mono ?_
        rintro e w1 ⟨rfl, hb1⟩
        go_wp2_with fail
        refine (HFW.out w1 hb1).mono ?_
        rintro e w9 ⟨rfl, rfl⟩
        go_wp2_with fail
        go_ret
        exact ⟨rfl, hb1⟩

      · have d3 : decide ((600 : Int) < (coins.length : Int)) = false := decide_eq_false (by omega)
        have d4 : ¬ (600 : Int) < (coins.length : Int) := by omega
        have HP := Lib.hid (fun w1 (hb : Below w.heap.size w w1) => split_any A1 A5 c1 c5 s coins ep th mn w1 (hK.below hb) (hS1.up hb) (hS5.up hb) (by omega) (by omega))
        have HQ := Lib.hid (fun w1 (hb : Below w.heap.size w w1) => rsplit_any A1 A5 c1 c5 s coins ep th mn w1 (hS1.up hb) (hS5.up hb))
        have HC := Lib.hid (fun w1 (hb : Below w.heap.size w w1) => check_any A0 c0 l w1 (hS0.up hb) (by omega))
        have HD := Lib.hid (fun w1 (hb : Below w.heap.size w w1) => rchk_any A0 c0 l w1 (hS0.up hb) (by omega))
        have hzs := spl_small s coins ep th mn
        have HM := Lib.hid (fun (A A' : Option Addr) (c c' : Nat) w1 (hs : SS w1 A (spl s ep th mn coins) c) (hs' : SS w1 A' (spl s ep th mn coins) c') => sames_any A A' c c' (spl s ep th mn coins).length (spl s ep th mn coins) w1 hs hs' rfl (by omega))
        unfold SplitPost at HP HQ
        clear hS0 hS1 hS5 hK
        generalize spl s ep th mn coins = Z at *
        generalize spe s ep th mn coins = E at *
        generalize Z.length = zn at *
        generalize chk l = ck at *
        generalize l.length = ln at *
        generalize s.length = n at *
        generalize coins.length = m at *
        go_enter Tryd.func3, Tryd.ntmps3
        go_wp2_with fail
        refine HS.out.mono ?_
        rintro e w1 ⟨rfl, hb1⟩
        go_wp2_with fail
        refine (HFW.out w1 hb1).mono ?_
        rintro e w9 ⟨rfl, rfl⟩

        go_wp2_with fail
        refine (HP.out w1 hb1).mono ?_
        rintro e w2 ⟨A2, c2, rfl, hs2, hb2⟩
        have H2 := Lib.hid (And.intro hs2 (hb1.trans (hb2.mono hb1.size)))
        clear hs2 hb2 hb1
        go_wp2_with fail
        refine (HQ.out w2 H2.out.2).mono ?_
        rintro e w3 ⟨A3, c3, rfl, hs3, hb3⟩
        have H3 := Lib.hid (And.intro (H2.out.1.up hb3) (And.intro hs3 (H2.out.2.trans (hb3.mono H2.out.2.size))))
        clear hs3 hb3 H2
        go_wp2_with fail
        refine (HC.out w3 H3.out.2.2).mono ?_
        rintro e w4 ⟨rfl, hb4⟩
        have H4 := Lib.hid (And.intro (H3.out.1.up hb4) (And.intro (H3.out.2.1.up hb4) (H3.out.2.2.trans (hb4.mono H3.out.2.2.size))))
        clear hb4 H3
        go_wp2_with fail
        refine (HD.out w4 H4.out.2.2).mono ?_
        rintro e w5 ⟨rfl, hb5⟩
        have H5 := Lib.hid (And.intro (H4.out.1.up hb5) (And.intro (H4.out.2.1.up hb5) (H4.out.2.2.trans (hb5.mono H4.out.2.2.size))))
        clear hb5 H4
        go_wp2_with fail
        refine (HM.out A2 A3 c2 c3 w5 H5.out.1 H5.out.2.1).mono ?_
        rintro e w6 ⟨rfl, hb6⟩
        have HB := Lib.hid (H5.out.2.2.trans (hb6.mono H5.out.2.2.size))
        clear hb6
        go_wp2_with fail
        go_ret
        exact ⟨rfl, HB.out⟩

end
end Go.Proofs.YtmchnkfnnodecaaDoor
