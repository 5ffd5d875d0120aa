/- The law SpansSetsSpec. -/
import Derived.Test.YtnmlfdmlcpgaaaaRWrap
namespace Go.Proofs.Ytnmlfdmlcpgaaaa
open Go.RowKit
set_option linter.unusedVariables false

set_option maxHeartbeats 4000000 in
set_option maxRecDepth 100000 in
theorem lawSets_few (Aa : Option Addr) (a : List (Int × Int)) (na ca : Nat) (Ab : Option Addr) (b : List (Int × Int)) (nb cb : Nat) (w0 : World) (ha : SlG w0 Aa a na ca) (hb : SlG w0 Ab b nb cb) (fa : na ≤ 40) (fb : nb ≤ 40) :
    Calls Try.prog 4 #[.slice Aa na ca, .slice Ab nb cb] w0 (Rb true w0) := by
  obtain ⟨m1, Hm1⟩ := lenH (U a b)
  obtain ⟨m2, Hm2⟩ := lenH (Mt a b)
  obtain ⟨m3, Hm3⟩ := lenH (Mn a b)
  have B0 := Below.refl w0.heap.size w0
  have Sa := ha.few fa
  have Sb := hb.few fb
  clear ha hb
  go_enter Try.func4, Try.ntmps4
  go_wp2_with fail
  refine (sane_any w0).mono ?_
  rintro e w1 ⟨rfl, b⟩
  have B1 := B0.trans (b.mono B0.size)
  have Sa := Sa.up b
  have Sb := Sb.up b
  clear b B0
  go_wp2_with fail
  refine (fewT _ fa).mono ?_
  rintro e w2 ⟨rfl, b⟩
  have B2 := B1.trans (b.mono B1.size)
  have Sa := Sa.up b
  have Sb := Sb.up b
  clear b B1
  go_wp2_with fail
  refine (fewT _ fb).mono ?_
  rintro e w3 ⟨rfl, b⟩
  have B3 := B2.trans (b.mono B2.size)
  have Sa := Sa.up b
  have Sb := Sb.up b
  clear b B2
  go_wp2_with fail
  refine (unionD Sa Sb Hm1).mono ?_
  rintro e w4 ⟨AS1, cS1, rfl, S1, b⟩
  have B4 := B3.trans (b.mono B3.size)
  have Sa := Sa.up b
  have Sb := Sb.up b
  clear b B3
  go_wp2_with fail
  refine (refUnionD Sa Sb Hm1).mono ?_
  rintro e w5 ⟨AS2, cS2, rfl, S2, b⟩
  have B5 := B4.trans (b.mono B4.size)
  have Sa := Sa.up b
  have Sb := Sb.up b
  have S1 := S1.up b
  clear b B4
  go_wp2_with fail
  refine (sameT S1 S2 rfl).mono ?_
  rintro e w6 ⟨rfl, b⟩
  have B6 := B5.trans (b.mono B5.size)
  have Sa := Sa.up b
  have Sb := Sb.up b
  have S1 := S1.up b
  have S2 := S2.up b
  clear b B5
  clear S1 S2
  go_wp2_with fail
  refine (meetD Sa Sb Hm2).mono ?_
  rintro e w7 ⟨AS1, cS1, rfl, S1, b⟩
  have B7 := B6.trans (b.mono B6.size)
  have Sa := Sa.up b
  have Sb := Sb.up b
  clear b B6
  go_wp2_with fail
  refine (refMeetD Sa Sb Hm2).mono ?_
  rintro e w8 ⟨AS2, cS2, rfl, S2, b⟩
  have B8 := B7.trans (b.mono B7.size)
  have Sa := Sa.up b
  have Sb := Sb.up b
  have S1 := S1.up b
  clear b B7
  go_wp2_with fail
  refine (sameT S1 S2 rfl).mono ?_
  rintro e w9 ⟨rfl, b⟩
  have B9 := B8.trans (b.mono B8.size)
  have Sa := Sa.up b
  have Sb := Sb.up b
  have S1 := S1.up b
  have S2 := S2.up b
  clear b B8
  clear S1 S2
  go_wp2_with fail
  refine (minusD Sa Sb Hm3).mono ?_
  rintro e w10 ⟨AS1, cS1, rfl, S1, b⟩
  have B10 := B9.trans (b.mono B9.size)
  have Sa := Sa.up b
  have Sb := Sb.up b
  clear b B9
  go_wp2_with fail
  refine (refMinusD Sa Sb Hm3).mono ?_
  rintro e w11 ⟨AS2, cS2, rfl, S2, b⟩
  have B11 := B10.trans (b.mono B10.size)
  have Sa := Sa.up b
  have Sb := Sb.up b
  have S1 := S1.up b
  clear b B10
  go_wp2_with fail
  refine (sameT S1 S2 rfl).mono ?_
  rintro e w12 ⟨rfl, b⟩
  have B12 := B11.trans (b.mono B11.size)
  have Sa := Sa.up b
  have Sb := Sb.up b
  have S1 := S1.up b
  have S2 := S2.up b
  clear b B11
  clear S1 S2
  go_wp2_with fail
  go_ret
  exact ⟨rfl, B12⟩

set_option maxHeartbeats 1000000 in
set_option maxRecDepth 100000 in
theorem lawSets_many0 (Aa : Option Addr) (a : List (Int × Int)) (na ca : Nat) (Ab : Option Addr) (b : List (Int × Int)) (nb cb : Nat) (w0 : World)  (fa : ¬ na ≤ 40) :
    Calls Try.prog 4 #[.slice Aa na ca, .slice Ab nb cb] w0 (Rb true w0) := by
  have B0 := Below.refl w0.heap.size w0
  go_enter Try.func4, Try.ntmps4
  go_wp2_with fail
  refine (sane_any w0).mono ?_
  rintro e w1 ⟨rfl, b⟩
  have B1 := B0.trans (b.mono B0.size)
  clear b B0
  go_wp2_with fail
  refine (fewF _ fa).mono ?_
  rintro e w2 ⟨rfl, b⟩
  have B2 := B1.trans (b.mono B1.size)
  clear b B1
  go_wp2_with fail
  go_ret
  exact ⟨rfl, B2⟩

set_option maxHeartbeats 1000000 in
set_option maxRecDepth 100000 in
theorem lawSets_many1 (Aa : Option Addr) (a : List (Int × Int)) (na ca : Nat) (Ab : Option Addr) (b : List (Int × Int)) (nb cb : Nat) (w0 : World) (fa : na ≤ 40) (fb : ¬ nb ≤ 40) :
    Calls Try.prog 4 #[.slice Aa na ca, .slice Ab nb cb] w0 (Rb true w0) := by
  have B0 := Below.refl w0.heap.size w0
  go_enter Try.func4, Try.ntmps4
  go_wp2_with fail
  refine (sane_any w0).mono ?_
  rintro e w1 ⟨rfl, b⟩
  have B1 := B0.trans (b.mono B0.size)
  clear b B0
  go_wp2_with fail
  refine (fewT _ fa).mono ?_
  rintro e w2 ⟨rfl, b⟩
  have B2 := B1.trans (b.mono B1.size)
  clear b B1
  go_wp2_with fail
  refine (fewF _ fb).mono ?_
  rintro e w3 ⟨rfl, b⟩
  have B3 := B2.trans (b.mono B2.size)
  clear b B2
  go_wp2_with fail
  go_ret
  exact ⟨rfl, B3⟩

theorem lawSets_any (Aa : Option Addr) (a : List (Int × Int)) (na ca : Nat) (Ab : Option Addr) (b : List (Int × Int)) (nb cb : Nat) (w0 : World) (ha : SlG w0 Aa a na ca) (hb : SlG w0 Ab b nb cb) :
    Calls Try.prog 4 #[.slice Aa na ca, .slice Ab nb cb] w0 (Rb true w0) := by
  by_cases fa : na ≤ 40
  · skip
    by_cases fb : nb ≤ 40
    · skip
      exact lawSets_few Aa a na ca Ab b nb cb w0 ha hb fa fb
    · exact lawSets_many1 Aa a na ca Ab b nb cb w0 fa fb
  · exact lawSets_many0 Aa a na ca Ab b nb cb w0 fa
end Go.Proofs.Ytnmlfdmlcpgaaaa
