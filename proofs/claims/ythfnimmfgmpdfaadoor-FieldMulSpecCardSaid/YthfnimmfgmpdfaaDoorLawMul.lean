/- FieldMulSpec. -/
import Derived.Test.YthfnimmfgmpdfaaDoorSane
import Derived.Test.YthfnimmfgmpdfaaDoorRMul
namespace Go.Proofs.YthfnimmfgmpdfaaDoor
open Go.RowKit
set_option linter.unusedVariables false

theorem pinv_any (a : UInt8) (w : World) (hK : KT w) : Calls Tryd.prog 9 #[bv a] w fun e w' => e = .returned (.tuple #[bv (iv a), .int .i64 (ie a)]) ∧ w = w' := inv_any a w hK
set_option maxHeartbeats 1000000 in
set_option maxRecDepth 100000 in
theorem mulspec_any (a b : UInt8) (w : World) (hK : KT w) : Calls Tryd.prog 3 #[bv a, bv b] w fun e w' => e = .returned (.bool true) ∧ Below w.heap.size w w' := by
  have HS := Lib.hid (sane_any w hK)
  have HK := Lib.hid hK
  clear hK
  go_enter Tryd.func3, Tryd.ntmps3
  go_wp2_with fail
  refine HS.out.mono ?_
  rintro e w1 ⟨rfl, hb1⟩
  have HI := Lib.hid (pinv_any a w1 (HK.out.below hb1))
  have HR := Lib.hid (rinv_any a w1)
  have HM := Lib.hid (mul_any a b w1 (HK.out.below hb1))
  have HN := Lib.hid (rmul_any a b w1)
  generalize hi : iv a = i at *
  generalize he : ie a = E at *
  generalize hp : gm a b = p at *
  clear hi he hp
  have e1 : bv i = .int .u8 (i.toNat : Int) := rfl
  have e2 : bv p = .int .u8 (p.toNat : Int) := rfl
  rw [e1] at HI HR
  rw [e2] at HM HN
  go_wp2_with fail
  refine HI.out.mono ?_
  rintro e w2 ⟨rfl, rfl⟩
  go_wp2_with fail
  refine HR.out.mono ?_
  rintro e w2 ⟨rfl, rfl⟩
  go_wp2_with fail
  refine HM.out.mono ?_
  rintro e w2 ⟨rfl, rfl⟩
  go_wp2_with fail
  refine HN.out.mono ?_
  rintro e w2 ⟨rfl, rfl⟩
  go_wp2_with fail
  go_ret
  exact ⟨rfl, hb1⟩
end Go.Proofs.YthfnimmfgmpdfaaDoor
