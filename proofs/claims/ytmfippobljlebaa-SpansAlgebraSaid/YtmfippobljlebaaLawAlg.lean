/- The law SpansAlgebra. -/
import Derived.Test.YtmfippobljlebaaAlg
namespace Go.Proofs.Ytmfippobljlebaa
open Go.RowKit
set_option linter.unusedVariables false

set_option maxHeartbeats 4000000 in
set_option maxRecDepth 100000 in
theorem lawAlgebra_few (Aa : Option Addr) (a : List (Int × Int)) (na ca : Nat) (Ab : Option Addr) (b : List (Int × Int)) (nb cb : Nat) (Ac : Option Addr) (c : List (Int × Int)) (nc cc : Nat) (w0 : World) (ha : SlG w0 Aa a na ca) (hb : SlG w0 Ab b nb cb) (hc : SlG w0 Ac c nc cc) (fa : na ≤ 40) (fb : nb ≤ 40) (fc : nc ≤ 40) :
    Calls Try.prog 7 #[.slice Aa na ca, .slice Ab nb cb, .slice Ac nc cc] w0 (Rb true w0) := by
  obtain ⟨m1, Hm1⟩ := lenH (Nm a)
  obtain ⟨x1, Hab⟩ := lenH (U a b)
  obtain ⟨x2, Hba⟩ := lenH (U b a)
  obtain ⟨x3, Mab⟩ := lenH (Mt a b)
  obtain ⟨x4, Mba⟩ := lenH (Mt b a)
  obtain ⟨x5, Habc⟩ := lenH (U (U a b) c)
  obtain ⟨x6, Hbc⟩ := lenH (U b c)
  obtain ⟨x7, Habc2⟩ := lenH (U a (U b c))
  obtain ⟨x8, Mabc⟩ := lenH (Mt (Mt a b) c)
  obtain ⟨x9, Mbc⟩ := lenH (Mt b c)
  obtain ⟨y1, Mabc2⟩ := lenH (Mt a (Mt b c))
  obtain ⟨y2, MU⟩ := lenH (Mt a (U b c))
  obtain ⟨y3, Mac⟩ := lenH (Mt a c)
  obtain ⟨y4, UM⟩ := lenH (U (Mt a b) (Mt a c))
  obtain ⟨y5, Haa⟩ := lenH (U a a)
  obtain ⟨y6, Maa⟩ := lenH (Mt a a)
  obtain ⟨y7, Hnn⟩ := lenH (Nm (Nm a))
  obtain ⟨y8, NU⟩ := lenH (Mn a (U b c))
  obtain ⟨y9, Nab⟩ := lenH (Mn a b)
  obtain ⟨z1, Nabc⟩ := lenH (Mn (Mn a b) c)
  have B0 := Below.refl w0.heap.size w0
  have Sa := ha.few fa
  have Sb := hb.few fb
  have Sc := hc.few fc
  clear ha hb hc
  go_enter Try.func7, Try.ntmps7
  go_wp2_with fail
  refine (sane_any w0).mono ?_
  rintro e w1 ⟨rfl, b⟩
  have B1 := B0.trans (b.mono B0.size)
  have Sa := Sa.up b
  have Sb := Sb.up b
  have Sc := Sc.up b
  clear b B0
  go_wp2_with fail
  refine (fewT _ fa).mono ?_
  rintro e w2 ⟨rfl, b⟩
  have B2 := B1.trans (b.mono B1.size)
  have Sa := Sa.up b
  have Sb := Sb.up b
  have Sc := Sc.up b
  clear b B1
  go_wp2_with fail
  refine (fewT _ fb).mono ?_
  rintro e w3 ⟨rfl, b⟩
  have B3 := B2.trans (b.mono B2.size)
  have Sa := Sa.up b
  have Sb := Sb.up b
  have Sc := Sc.up b
  clear b B2
  go_wp2_with fail
  refine (fewT _ fc).mono ?_
  rintro e w4 ⟨rfl, b⟩
  have B4 := B3.trans (b.mono B3.size)
  have Sa := Sa.up b
  have Sb := Sb.up b
  have Sc := Sc.up b
  clear b B3
  go_wp2_with fail
  refine (normalD Sa Hm1).mono ?_
  rintro e w5 ⟨ASn, cSn, rfl, Sn, b⟩
  have B5 := B4.trans (b.mono B4.size)
  have Sa := Sa.up b
  have Sb := Sb.up b
  have Sc := Sc.up b
  clear b B4
  go_wp2_with fail
  refine (unionD Sa Sb Hab).mono ?_
  rintro e w6 ⟨AS1, cS1, rfl, S1, b⟩
  have B6 := B5.trans (b.mono B5.size)
  have Sa := Sa.up b
  have Sb := Sb.up b
  have Sc := Sc.up b
  have Sn := Sn.up b
  clear b B5
  go_wp2_with fail
  refine (unionD Sb Sa Hba).mono ?_
  rintro e w7 ⟨AS2, cS2, rfl, S2, b⟩
  have B7 := B6.trans (b.mono B6.size)
  have Sa := Sa.up b
  have Sb := Sb.up b
  have Sc := Sc.up b
  have Sn := Sn.up b
  have S1 := S1.up b
  clear b B6
  go_wp2_with fail
  refine (sameT S1 S2 (U_comm a b)).mono ?_
  rintro e w8 ⟨rfl, b⟩
  have B8 := B7.trans (b.mono B7.size)
  have Sa := Sa.up b
  have Sb := Sb.up b
  have Sc := Sc.up b
  have Sn := Sn.up b
  have S1 := S1.up b
  have S2 := S2.up b
  clear b B7
  clear S1 S2
  go_wp2_with fail
  refine (meetD Sa Sb Mab).mono ?_
  rintro e w9 ⟨AS1, cS1, rfl, S1, b⟩
  have B9 := B8.trans (b.mono B8.size)
  have Sa := Sa.up b
  have Sb := Sb.up b
  have Sc := Sc.up b
  have Sn := Sn.up b
  clear b B8
  go_wp2_with fail
  refine (meetD Sb Sa Mba).mono ?_
  rintro e w10 ⟨AS2, cS2, rfl, S2, b⟩
  have B10 := B9.trans (b.mono B9.size)
  have Sa := Sa.up b
  have Sb := Sb.up b
  have Sc := Sc.up b
  have Sn := Sn.up b
  have S1 := S1.up b
  clear b B9
  go_wp2_with fail
  refine (sameT S1 S2 (Mt_comm a b)).mono ?_
  rintro e w11 ⟨rfl, b⟩
  have B11 := B10.trans (b.mono B10.size)
  have Sa := Sa.up b
  have Sb := Sb.up b
  have Sc := Sc.up b
  have Sn := Sn.up b
  have S1 := S1.up b
  have S2 := S2.up b
  clear b B10
  clear S1 S2
  go_wp2_with fail
  refine (unionD Sa Sb Hab).mono ?_
  rintro e w12 ⟨AS1, cS1, rfl, S1, b⟩
  have B12 := B11.trans (b.mono B11.size)
  have Sa := Sa.up b
  have Sb := Sb.up b
  have Sc := Sc.up b
  have Sn := Sn.up b
  clear b B11
  go_wp2_with fail
  refine (unionD S1 Sc Habc).mono ?_
  rintro e w13 ⟨AS2, cS2, rfl, S2, b⟩
  have B13 := B12.trans (b.mono B12.size)
  have Sa := Sa.up b
  have Sb := Sb.up b
  have Sc := Sc.up b
  have Sn := Sn.up b
  have S1 := S1.up b
  clear b B12
  go_wp2_with fail
  refine (unionD Sb Sc Hbc).mono ?_
  rintro e w14 ⟨AS3, cS3, rfl, S3, b⟩
  have B14 := B13.trans (b.mono B13.size)
  have Sa := Sa.up b
  have Sb := Sb.up b
  have Sc := Sc.up b
  have Sn := Sn.up b
  have S1 := S1.up b
  have S2 := S2.up b
  clear b B13
  go_wp2_with fail
  refine (unionD Sa S3 Habc2).mono ?_
  rintro e w15 ⟨AS4, cS4, rfl, S4, b⟩
  have B15 := B14.trans (b.mono B14.size)
  have Sa := Sa.up b
  have Sb := Sb.up b
  have Sc := Sc.up b
  have Sn := Sn.up b
  have S1 := S1.up b
  have S2 := S2.up b
  have S3 := S3.up b
  clear b B14
  go_wp2_with fail
  refine (sameT S2 S4 (U_assoc a b c)).mono ?_
  rintro e w16 ⟨rfl, b⟩
  have B16 := B15.trans (b.mono B15.size)
  have Sa := Sa.up b
  have Sb := Sb.up b
  have Sc := Sc.up b
  have Sn := Sn.up b
  have S1 := S1.up b
  have S2 := S2.up b
  have S3 := S3.up b
  have S4 := S4.up b
  clear b B15
  clear S1 S2 S3 S4
  go_wp2_with fail
  refine (meetD Sa Sb Mab).mono ?_
  rintro e w17 ⟨AS1, cS1, rfl, S1, b⟩
  have B17 := B16.trans (b.mono B16.size)
  have Sa := Sa.up b
  have Sb := Sb.up b
  have Sc := Sc.up b
  have Sn := Sn.up b
  clear b B16
  go_wp2_with fail
  refine (meetD S1 Sc Mabc).mono ?_
  rintro e w18 ⟨AS2, cS2, rfl, S2, b⟩
  have B18 := B17.trans (b.mono B17.size)
  have Sa := Sa.up b
  have Sb := Sb.up b
  have Sc := Sc.up b
  have Sn := Sn.up b
  have S1 := S1.up b
  clear b B17
  go_wp2_with fail
  refine (meetD Sb Sc Mbc).mono ?_
  rintro e w19 ⟨AS3, cS3, rfl, S3, b⟩
  have B19 := B18.trans (b.mono B18.size)
  have Sa := Sa.up b
  have Sb := Sb.up b
  have Sc := Sc.up b
  have Sn := Sn.up b
  have S1 := S1.up b
  have S2 := S2.up b
  clear b B18
  go_wp2_with fail
  refine (meetD Sa S3 Mabc2).mono ?_
  rintro e w20 ⟨AS4, cS4, rfl, S4, b⟩
  have B20 := B19.trans (b.mono B19.size)
  have Sa := Sa.up b
  have Sb := Sb.up b
  have Sc := Sc.up b
  have Sn := Sn.up b
  have S1 := S1.up b
  have S2 := S2.up b
  have S3 := S3.up b
  clear b B19
  go_wp2_with fail
  refine (sameT S2 S4 (Mt_assoc a b c)).mono ?_
  rintro e w21 ⟨rfl, b⟩
  have B21 := B20.trans (b.mono B20.size)
  have Sa := Sa.up b
  have Sb := Sb.up b
  have Sc := Sc.up b
  have Sn := Sn.up b
  have S1 := S1.up b
  have S2 := S2.up b
  have S3 := S3.up b
  have S4 := S4.up b
  clear b B20
  clear S1 S2 S3 S4
  go_wp2_with fail
  refine (unionD Sb Sc Hbc).mono ?_
  rintro e w22 ⟨AS1, cS1, rfl, S1, b⟩
  have B22 := B21.trans (b.mono B21.size)
  have Sa := Sa.up b
  have Sb := Sb.up b
  have Sc := Sc.up b
  have Sn := Sn.up b
  clear b B21
  go_wp2_with fail
  refine (meetD Sa S1 MU).mono ?_
  rintro e w23 ⟨AS2, cS2, rfl, S2, b⟩
  have B23 := B22.trans (b.mono B22.size)
  have Sa := Sa.up b
  have Sb := Sb.up b
  have Sc := Sc.up b
  have Sn := Sn.up b
  have S1 := S1.up b
  clear b B22
  go_wp2_with fail
  refine (meetD Sa Sb Mab).mono ?_
  rintro e w24 ⟨AS3, cS3, rfl, S3, b⟩
  have B24 := B23.trans (b.mono B23.size)
  have Sa := Sa.up b
  have Sb := Sb.up b
  have Sc := Sc.up b
  have Sn := Sn.up b
  have S1 := S1.up b
  have S2 := S2.up b
  clear b B23
  go_wp2_with fail
  refine (meetD Sa Sc Mac).mono ?_
  rintro e w25 ⟨AS4, cS4, rfl, S4, b⟩
  have B25 := B24.trans (b.mono B24.size)
  have Sa := Sa.up b
  have Sb := Sb.up b
  have Sc := Sc.up b
  have Sn := Sn.up b
  have S1 := S1.up b
  have S2 := S2.up b
  have S3 := S3.up b
  clear b B24
  go_wp2_with fail
  refine (unionD S3 S4 UM).mono ?_
  rintro e w26 ⟨AS5, cS5, rfl, S5, b⟩
  have B26 := B25.trans (b.mono B25.size)
  have Sa := Sa.up b
  have Sb := Sb.up b
  have Sc := Sc.up b
  have Sn := Sn.up b
  have S1 := S1.up b
  have S2 := S2.up b
  have S3 := S3.up b
  have S4 := S4.up b
  clear b B25
  go_wp2_with fail
  refine (sameT S2 S5 (Mt_U a b c)).mono ?_
  rintro e w27 ⟨rfl, b⟩
  have B27 := B26.trans (b.mono B26.size)
  have Sa := Sa.up b
  have Sb := Sb.up b
  have Sc := Sc.up b
  have Sn := Sn.up b
  have S1 := S1.up b
  have S2 := S2.up b
  have S3 := S3.up b
  have S4 := S4.up b
  have S5 := S5.up b
  clear b B26
  clear S1 S2 S3 S4 S5
  go_wp2_with fail
  refine (unionD Sa Sa Haa).mono ?_
  rintro e w28 ⟨AS1, cS1, rfl, S1, b⟩
  have B28 := B27.trans (b.mono B27.size)
  have Sa := Sa.up b
  have Sb := Sb.up b
  have Sc := Sc.up b
  have Sn := Sn.up b
  clear b B27
  go_wp2_with fail
  refine (sameT S1 Sn (U_self a)).mono ?_
  rintro e w29 ⟨rfl, b⟩
  have B29 := B28.trans (b.mono B28.size)
  have Sa := Sa.up b
  have Sb := Sb.up b
  have Sc := Sc.up b
  have Sn := Sn.up b
  have S1 := S1.up b
  clear b B28
  clear S1
  go_wp2_with fail
  refine (meetD Sa Sa Maa).mono ?_
  rintro e w30 ⟨AS1, cS1, rfl, S1, b⟩
  have B30 := B29.trans (b.mono B29.size)
  have Sa := Sa.up b
  have Sb := Sb.up b
  have Sc := Sc.up b
  have Sn := Sn.up b
  clear b B29
  go_wp2_with fail
  refine (sameT S1 Sn (Mt_self a)).mono ?_
  rintro e w31 ⟨rfl, b⟩
  have B31 := B30.trans (b.mono B30.size)
  have Sa := Sa.up b
  have Sb := Sb.up b
  have Sc := Sc.up b
  have Sn := Sn.up b
  have S1 := S1.up b
  clear b B30
  clear S1
  go_wp2_with fail
  refine (normalD Sn Hnn).mono ?_
  rintro e w32 ⟨AS1, cS1, rfl, S1, b⟩
  have B32 := B31.trans (b.mono B31.size)
  have Sa := Sa.up b
  have Sb := Sb.up b
  have Sc := Sc.up b
  have Sn := Sn.up b
  clear b B31
  go_wp2_with fail
  refine (sameT S1 Sn (Nm_self a)).mono ?_
  rintro e w33 ⟨rfl, b⟩
  have B33 := B32.trans (b.mono B32.size)
  have Sa := Sa.up b
  have Sb := Sb.up b
  have Sc := Sc.up b
  have Sn := Sn.up b
  have S1 := S1.up b
  clear b B32
  clear S1
  go_wp2_with fail
  refine (unionD Sb Sc Hbc).mono ?_
  rintro e w34 ⟨AS1, cS1, rfl, S1, b⟩
  have B34 := B33.trans (b.mono B33.size)
  have Sa := Sa.up b
  have Sb := Sb.up b
  have Sc := Sc.up b
  have Sn := Sn.up b
  clear b B33
  go_wp2_with fail
  refine (minusD Sa S1 NU).mono ?_
  rintro e w35 ⟨AS2, cS2, rfl, S2, b⟩
  have B35 := B34.trans (b.mono B34.size)
  have Sa := Sa.up b
  have Sb := Sb.up b
  have Sc := Sc.up b
  have Sn := Sn.up b
  have S1 := S1.up b
  clear b B34
  go_wp2_with fail
  refine (minusD Sa Sb Nab).mono ?_
  rintro e w36 ⟨AS3, cS3, rfl, S3, b⟩
  have B36 := B35.trans (b.mono B35.size)
  have Sa := Sa.up b
  have Sb := Sb.up b
  have Sc := Sc.up b
  have Sn := Sn.up b
  have S1 := S1.up b
  have S2 := S2.up b
  clear b B35
  go_wp2_with fail
  refine (minusD S3 Sc Nabc).mono ?_
  rintro e w37 ⟨AS4, cS4, rfl, S4, b⟩
  have B37 := B36.trans (b.mono B36.size)
  have Sa := Sa.up b
  have Sb := Sb.up b
  have Sc := Sc.up b
  have Sn := Sn.up b
  have S1 := S1.up b
  have S2 := S2.up b
  have S3 := S3.up b
  clear b B36
  go_wp2_with fail
  refine (sameT S2 S4 (Mn_U a b c)).mono ?_
  rintro e w38 ⟨rfl, b⟩
  have B38 := B37.trans (b.mono B37.size)
  have Sa := Sa.up b
  have Sb := Sb.up b
  have Sc := Sc.up b
  have Sn := Sn.up b
  have S1 := S1.up b
  have S2 := S2.up b
  have S3 := S3.up b
  have S4 := S4.up b
  clear b B37
  clear S1 S2 S3 S4
  go_wp2_with fail
  refine (minusC Sa Sa (Mn_self a) rfl).mono ?_
  rintro e w39 ⟨AS1, cS1, rfl, S1, b⟩
  have B39 := B38.trans (b.mono B38.size)
  have Sa := Sa.up b
  have Sb := Sb.up b
  have Sc := Sc.up b
  have Sn := Sn.up b
  clear b B38
  clear S1
  go_wp2_with fail
  go_ret
  exact ⟨rfl, B39⟩

set_option maxHeartbeats 1000000 in
set_option maxRecDepth 100000 in
theorem lawAlgebra_many0 (Aa : Option Addr) (a : List (Int × Int)) (na ca : Nat) (Ab : Option Addr) (b : List (Int × Int)) (nb cb : Nat) (Ac : Option Addr) (c : List (Int × Int)) (nc cc : Nat) (w0 : World)  (fa : ¬ na ≤ 40) :
    Calls Try.prog 7 #[.slice Aa na ca, .slice Ab nb cb, .slice Ac nc cc] w0 (Rb true w0) := by
  have B0 := Below.refl w0.heap.size w0
  go_enter Try.func7, Try.ntmps7
  go_wp2_with fail
  refine (sane_any w0).mono ?_
  rintro e w1 ⟨rfl, b⟩
  have B1 := B0.trans (b.mono B0.size)
  clear b B0
  go_wp2_with fail
  refine (fewF _ fa).mono ?_
  rintro e w2 ⟨rfl, b⟩
  have B2 := B1.trans (b.mono B1.size)
  clear b B1
  go_wp2_with fail
  go_ret
  exact ⟨rfl, B2⟩

set_option maxHeartbeats 1000000 in
set_option maxRecDepth 100000 in
theorem lawAlgebra_many1 (Aa : Option Addr) (a : List (Int × Int)) (na ca : Nat) (Ab : Option Addr) (b : List (Int × Int)) (nb cb : Nat) (Ac : Option Addr) (c : List (Int × Int)) (nc cc : Nat) (w0 : World) (fa : na ≤ 40) (fb : ¬ nb ≤ 40) :
    Calls Try.prog 7 #[.slice Aa na ca, .slice Ab nb cb, .slice Ac nc cc] w0 (Rb true w0) := by
  have B0 := Below.refl w0.heap.size w0
  go_enter Try.func7, Try.ntmps7
  go_wp2_with fail
  refine (sane_any w0).mono ?_
  rintro e w1 ⟨rfl, b⟩
  have B1 := B0.trans (b.mono B0.size)
  clear b B0
  go_wp2_with fail
  refine (fewT _ fa).mono ?_
  rintro e w2 ⟨rfl, b⟩
  have B2 := B1.trans (b.mono B1.size)
  clear b B1
  go_wp2_with fail
  refine (fewF _ fb).mono ?_
  rintro e w3 ⟨rfl, b⟩
  have B3 := B2.trans (b.mono B2.size)
  clear b B2
  go_wp2_with fail
  go_ret
  exact ⟨rfl, B3⟩

set_option maxHeartbeats 1000000 in
set_option maxRecDepth 100000 in
theorem lawAlgebra_many2 (Aa : Option Addr) (a : List (Int × Int)) (na ca : Nat) (Ab : Option Addr) (b : List (Int × Int)) (nb cb : Nat) (Ac : Option Addr) (c : List (Int × Int)) (nc cc : Nat) (w0 : World) (fa : na ≤ 40) (fb : nb ≤ 40) (fc : ¬ nc ≤ 40) :
    Calls Try.prog 7 #[.slice Aa na ca, .slice Ab nb cb, .slice Ac nc cc] w0 (Rb true w0) := by
  have B0 := Below.refl w0.heap.size w0
  go_enter Try.func7, Try.ntmps7
  go_wp2_with fail
  refine (sane_any w0).mono ?_
  rintro e w1 ⟨rfl, b⟩
  have B1 := B0.trans (b.mono B0.size)
  clear b B0
  go_wp2_with fail
  refine (fewT _ fa).mono ?_
  rintro e w2 ⟨rfl, b⟩
  have B2 := B1.trans (b.mono B1.size)
  clear b B1
  go_wp2_with fail
  refine (fewT _ fb).mono ?_
  rintro e w3 ⟨rfl, b⟩
  have B3 := B2.trans (b.mono B2.size)
  clear b B2
  go_wp2_with fail
  refine (fewF _ fc).mono ?_
  rintro e w4 ⟨rfl, b⟩
  have B4 := B3.trans (b.mono B3.size)
  clear b B3
  go_wp2_with fail
  go_ret
  exact ⟨rfl, B4⟩

theorem lawAlgebra_any (Aa : Option Addr) (a : List (Int × Int)) (na ca : Nat) (Ab : Option Addr) (b : List (Int × Int)) (nb cb : Nat) (Ac : Option Addr) (c : List (Int × Int)) (nc cc : Nat) (w0 : World) (ha : SlG w0 Aa a na ca) (hb : SlG w0 Ab b nb cb) (hc : SlG w0 Ac c nc cc) :
    Calls Try.prog 7 #[.slice Aa na ca, .slice Ab nb cb, .slice Ac nc cc] w0 (Rb true w0) := by
  by_cases fa : na ≤ 40
  · skip
    by_cases fb : nb ≤ 40
    · skip
      by_cases fc : nc ≤ 40
      · skip
        exact lawAlgebra_few Aa a na ca Ab b nb cb Ac c nc cc w0 ha hb hc fa fb fc
      · exact lawAlgebra_many2 Aa a na ca Ab b nb cb Ac c nc cc w0 fa fb fc
    · exact lawAlgebra_many1 Aa a na ca Ab b nb cb Ac c nc cc w0 fa fb
  · exact lawAlgebra_many0 Aa a na ca Ab b nb cb Ac c nc cc w0 fa
end Go.Proofs.Ytmfippobljlebaa
