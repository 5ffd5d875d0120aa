/- The law SpansSpec. -/
import Derived.Test.YtnmlfdmlcpgaaaaRWrap
namespace Go.Proofs.Ytnmlfdmlcpgaaaa
open Go.RowKit
set_option linter.unusedVariables false

set_option maxHeartbeats 4000000 in
set_option maxRecDepth 100000 in
theorem lawSpec_few (Aa : Option Addr) (a : List (Int × Int)) (na ca : Nat) (w0 : World) (ha : SlG w0 Aa a na ca) (fa : na ≤ 40) :
    Calls Try.prog 3 #[.slice Aa na ca] w0 (Rb true w0) := by
  obtain ⟨k, Hk⟩ : ∃ k, Hid (chk a = k) := ⟨_, rfl⟩
  obtain ⟨m1, Hm1⟩ := lenH (Nm a)
  have B0 := Below.refl w0.heap.size w0
  have Sa := ha.few fa
  clear ha
  go_enter Try.func3, Try.ntmps3
  go_wp2_with fail
  refine (sane_any w0).mono ?_
  rintro e w1 ⟨rfl, b⟩
  have B1 := B0.trans (b.mono B0.size)
  have Sa := Sa.up b
  clear b B0
  go_wp2_with fail
  refine (fewT _ fa).mono ?_
  rintro e w2 ⟨rfl, b⟩
  have B2 := B1.trans (b.mono B1.size)
  have Sa := Sa.up b
  clear b B1
  go_wp2_with fail
  refine (checkC Sa k Hk.out).mono ?_
  rintro e w3 ⟨rfl, b⟩
  have B3 := B2.trans (b.mono B2.size)
  have Sa := Sa.up b
  clear b B2
  go_wp2_with fail
  refine (refCheckC Sa k Hk.out).mono ?_
  rintro e w4 ⟨rfl, b⟩
  have B4 := B3.trans (b.mono B3.size)
  have Sa := Sa.up b
  clear b B3
  go_wp2_with fail
  refine (normalD Sa Hm1).mono ?_
  rintro e w5 ⟨AS1, cS1, rfl, S1, b⟩
  have B5 := B4.trans (b.mono B4.size)
  have Sa := Sa.up b
  clear b B4
  go_wp2_with fail
  refine (refNormalD Sa Hm1).mono ?_
  rintro e w6 ⟨AS2, cS2, rfl, S2, b⟩
  have B6 := B5.trans (b.mono B5.size)
  have Sa := Sa.up b
  have S1 := S1.up b
  clear b B5
  go_wp2_with fail
  refine (sameT S1 S2 rfl).mono ?_
  rintro e w7 ⟨rfl, b⟩
  have B7 := B6.trans (b.mono B6.size)
  have Sa := Sa.up b
  have S1 := S1.up b
  have S2 := S2.up b
  clear b B6
  go_wp2_with fail
  go_ret
  exact ⟨rfl, B7⟩

set_option maxHeartbeats 1000000 in
set_option maxRecDepth 100000 in
theorem lawSpec_many0 (Aa : Option Addr) (a : List (Int × Int)) (na ca : Nat) (w0 : World)  (fa : ¬ na ≤ 40) :
    Calls Try.prog 3 #[.slice Aa na ca] w0 (Rb true w0) := by
  have B0 := Below.refl w0.heap.size w0
  go_enter Try.func3, Try.ntmps3
  go_wp2_with fail
  refine (sane_any w0).mono ?_
  rintro e w1 ⟨rfl, b⟩
  have B1 := B0.trans (b.mono B0.size)
  clear b B0
  go_wp2_with fail
  refine (fewF _ fa).mono ?_
  rintro e w2 ⟨rfl, b⟩
  have B2 := B1.trans (b.mono B1.size)
  clear b B1
  go_wp2_with fail
  go_ret
  exact ⟨rfl, B2⟩

theorem lawSpec_any (Aa : Option Addr) (a : List (Int × Int)) (na ca : Nat) (w0 : World) (ha : SlG w0 Aa a na ca) :
    Calls Try.prog 3 #[.slice Aa na ca] w0 (Rb true w0) := by
  by_cases fa : na ≤ 40
  · skip
    exact lawSpec_few Aa a na ca w0 ha fa
  · exact lawSpec_many0 Aa a na ca w0 fa
end Go.Proofs.Ytnmlfdmlcpgaaaa
