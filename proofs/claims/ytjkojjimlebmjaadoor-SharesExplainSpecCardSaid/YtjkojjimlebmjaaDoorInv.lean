/- Inv. -/
import Derived.Test.YtjkojjimlebmjaaDoorMul
namespace Go.Proofs.YtjkojjimlebmjaaDoor
open Go.RowKit
set_option linter.unusedVariables false

theorem bv_inj {a b : UInt8} : ((a.toNat : Int) = (b.toNat : Int)) ↔ a = b := by
  constructor
  · intro h
    exact UInt8.toNat_inj.1 (by omega)
  · rintro rfl
    rfl
theorem gi_step : ∀ (k : Nat) (a b : UInt8), gi a b (k + 1) = gi (gm a a) (gm b (gm a a)) k := fun _ _ _ => rfl

set_option maxHeartbeats 400000 in
set_option maxRecDepth 100000 in
theorem inv_any (a : UInt8) (w : World) (hK : KT w) :
    Calls Tryd.prog 47 #[bv a] w fun e w' => e = .returned (.tuple #[bv (if a = 0 then 0 else ginv a), .int .i64 (if a = 0 then 1 else 0)]) ∧ w = w' := by
  have HM := Lib.hid (fun a b => mul_any a b w hK)
  clear hK
  by_cases h : a = 0
  · subst h
    rw [if_pos rfl, if_pos rfl]
    unfold bv
    go_enter Tryd.func47, Tryd.ntmps47
    go_wp2_with fail
    go_ret2
    exact ⟨rfl, rfl⟩
  · rw [if_neg h, if_neg h]
    have hn : ((a.toNat : Int) == 0) = false := by
      rw [beq_eq_false_iff_ne]
      exact fun e => h (bv_inj.1 (e.trans rfl))
    unfold ginv
    generalize hr : gi a 1 7 = r
    rw [show bv a = .int .u8 (a.toNat : Int) from rfl]
    go_enter Tryd.func47, Tryd.ntmps47
    go_wp2_with fail
    go_loop [0, 2, 6] (fun x y i => ∃ (k : Nat) (p q : UInt8), k ≤ 7 ∧ i = .int .i64 k ∧ x = bv p ∧ y = bv q ∧ gi p q (7 - k) = r) (fun _ _ i => 7 - (intOf i).toNat)
    case atStart => exact ⟨0, a, 1, by omega, rfl, rfl, rfl, hr⟩
    case round =>
      obtain ⟨k, p, q, hk, rfl, rfl, rfl, hgi⟩ := hrel
      have HG := Lib.hid hgi
      clear hgi hr
      by_cases hlt : k < 7
      · go_wp2_with fail
        refine (HM.out p p).mono ?_
        rintro e w1 ⟨rfl, rfl⟩
        go_wp2_with fail
        refine (HM.out q (gm p p)).mono ?_
        rintro e w1 ⟨rfl, rfl⟩
        go_wp2_with fail
        go_round
        case rel =>
          refine ⟨k + 1, _, _, by omega, by go_num, rfl, rfl, ?_⟩
          have := HG.out
          rw [show 7 - k = (7 - (k + 1)) + 1 by omega, gi_step] at this
          exact this
        case measure => simp [intOf]; omega
      · obtain rfl : k = 7 := by omega
        have := HG.out
        rw [Nat.sub_self] at this
        obtain rfl : q = r := this
        go_wp2_with fail
        go_ret2
        exact ⟨rfl, rfl⟩
end Go.Proofs.YtjkojjimlebmjaaDoor
