/- The examples of the chapter: what every law begins with. -/
import Derived.Test.YtnmlfdmlcpgaaaaWrap
namespace Go.Proofs.Ytnmlfdmlcpgaaaa
open Go.RowKit
set_option linter.unusedVariables false

set_option maxHeartbeats 4000000 in
set_option maxRecDepth 100000 in
theorem sane_any (w0 : World) :
    Calls Try.prog 7 #[] w0 (Rb true w0) := by
  have B0 := Below.refl w0.heap.size w0
  go_enter Try.func7, Try.ntmps7
  go_wp2_with fail
  refine (mk2 (0) (1024) w0.heap.size _ (Box.new w0 _ _)).mono ?_
  rintro e w1 ⟨ASall, cSall, rfl, Sall, b⟩
  have b := bstep b
  have B1 := B0.trans (b.mono B0.size)
  clear b B0
  go_wp2_with fail
  refine (mk4 10 20 15 30 w1.heap.size _ (Box.new w1 _ _)).mono ?_
  rintro e w2 ⟨AS1, cS1, rfl, S1, b⟩
  have b := bstep b
  have B2 := B1.trans (b.mono B1.size)
  have Sall := Sall.up b
  clear b B1
  go_wp2_with fail
  refine (normalC S1 ex1 rfl).mono ?_
  rintro e w3 ⟨AS2, cS2, rfl, S2, b⟩
  have B3 := B2.trans (b.mono B2.size)
  have Sall := Sall.up b
  have S1 := S1.up b
  clear b B2
  go_wp2_with fail
  refine (mk2 (10) (30) w3.heap.size _ (Box.new w3 _ _)).mono ?_
  rintro e w4 ⟨AS3, cS3, rfl, S3, b⟩
  have b := bstep b
  have B4 := B3.trans (b.mono B3.size)
  have Sall := Sall.up b
  have S1 := S1.up b
  have S2 := S2.up b
  clear b B3
  go_wp2_with fail
  refine (sameT S2 S3 rfl).mono ?_
  rintro e w5 ⟨rfl, b⟩
  have B5 := B4.trans (b.mono B4.size)
  have Sall := Sall.up b
  have S1 := S1.up b
  have S2 := S2.up b
  have S3 := S3.up b
  clear b B4
  clear S1 S2 S3
  go_wp2_with fail
  refine (mk2 (-5) (2000) w5.heap.size _ (Box.new w5 _ _)).mono ?_
  rintro e w6 ⟨AS1, cS1, rfl, S1, b⟩
  have b := bstep b
  have B6 := B5.trans (b.mono B5.size)
  have Sall := Sall.up b
  clear b B5
  go_wp2_with fail
  refine (normalC S1 ex2 rfl).mono ?_
  rintro e w7 ⟨AS2, cS2, rfl, S2, b⟩
  have B7 := B6.trans (b.mono B6.size)
  have Sall := Sall.up b
  have S1 := S1.up b
  clear b B6
  go_wp2_with fail
  refine (sameT S2 Sall rfl).mono ?_
  rintro e w8 ⟨rfl, b⟩
  have B8 := B7.trans (b.mono B7.size)
  have Sall := Sall.up b
  have S1 := S1.up b
  have S2 := S2.up b
  clear b B7
  clear S1 S2
  go_wp2_with fail
  refine (mk2 (5) (5) w8.heap.size _ (Box.new w8 _ _)).mono ?_
  rintro e w9 ⟨AS1, cS1, rfl, S1, b⟩
  have b := bstep b
  have B9 := B8.trans (b.mono B8.size)
  have Sall := Sall.up b
  clear b B8
  go_wp2_with fail
  refine (normalC S1 ex3 rfl).mono ?_
  rintro e w10 ⟨AS2, cS2, rfl, S2, b⟩
  have B10 := B9.trans (b.mono B9.size)
  have Sall := Sall.up b
  have S1 := S1.up b
  clear b B9
  clear S1 S2
  go_wp2_with fail
  refine (mk2 (0) (10) w10.heap.size _ (Box.new w10 _ _)).mono ?_
  rintro e w11 ⟨AS1, cS1, rfl, S1, b⟩
  have b := bstep b
  have B11 := B10.trans (b.mono B10.size)
  have Sall := Sall.up b
  clear b B10
  go_wp2_with fail
  refine (minusC Sall S1 ex4 rfl).mono ?_
  rintro e w12 ⟨AS2, cS2, rfl, S2, b⟩
  have B12 := B11.trans (b.mono B11.size)
  have Sall := Sall.up b
  have S1 := S1.up b
  clear b B11
  go_wp2_with fail
  refine (mk2 (10) (1024) w12.heap.size _ (Box.new w12 _ _)).mono ?_
  rintro e w13 ⟨AS3, cS3, rfl, S3, b⟩
  have b := bstep b
  have B13 := B12.trans (b.mono B12.size)
  have Sall := Sall.up b
  have S1 := S1.up b
  have S2 := S2.up b
  clear b B12
  go_wp2_with fail
  refine (sameT S2 S3 rfl).mono ?_
  rintro e w14 ⟨rfl, b⟩
  have B14 := B13.trans (b.mono B13.size)
  have Sall := Sall.up b
  have S1 := S1.up b
  have S2 := S2.up b
  have S3 := S3.up b
  clear b B13
  clear S1 S2 S3
  go_wp2_with fail
  refine (mk2 (3) (4) w14.heap.size _ (Box.new w14 _ _)).mono ?_
  rintro e w15 ⟨AS1, cS1, rfl, S1, b⟩
  have b := bstep b
  have B15 := B14.trans (b.mono B14.size)
  have Sall := Sall.up b
  clear b B14
  go_wp2_with fail
  refine (mk2 (4) (5) w15.heap.size _ (Box.new w15 _ _)).mono ?_
  rintro e w16 ⟨AS4, cS4, rfl, S4, b⟩
  have b := bstep b
  have B16 := B15.trans (b.mono B15.size)
  have Sall := Sall.up b
  have S1 := S1.up b
  clear b B15
  go_wp2_with fail
  refine (unionC S1 S4 ex5 rfl).mono ?_
  rintro e w17 ⟨AS2, cS2, rfl, S2, b⟩
  have B17 := B16.trans (b.mono B16.size)
  have Sall := Sall.up b
  have S1 := S1.up b
  have S4 := S4.up b
  clear b B16
  go_wp2_with fail
  refine (mk2 (3) (5) w17.heap.size _ (Box.new w17 _ _)).mono ?_
  rintro e w18 ⟨AS3, cS3, rfl, S3, b⟩
  have b := bstep b
  have B18 := B17.trans (b.mono B17.size)
  have Sall := Sall.up b
  have S1 := S1.up b
  have S4 := S4.up b
  have S2 := S2.up b
  clear b B17
  go_wp2_with fail
  refine (sameT S2 S3 rfl).mono ?_
  rintro e w19 ⟨rfl, b⟩
  have B19 := B18.trans (b.mono B18.size)
  have Sall := Sall.up b
  have S1 := S1.up b
  have S4 := S4.up b
  have S2 := S2.up b
  have S3 := S3.up b
  clear b B18
  clear S1 S2 S3 S4
  go_wp2_with fail
  refine (mk2 (3) (9) w19.heap.size _ (Box.new w19 _ _)).mono ?_
  rintro e w20 ⟨AS1, cS1, rfl, S1, b⟩
  have b := bstep b
  have B20 := B19.trans (b.mono B19.size)
  have Sall := Sall.up b
  clear b B19
  go_wp2_with fail
  refine (mk2 (5) (12) w20.heap.size _ (Box.new w20 _ _)).mono ?_
  rintro e w21 ⟨AS4, cS4, rfl, S4, b⟩
  have b := bstep b
  have B21 := B20.trans (b.mono B20.size)
  have Sall := Sall.up b
  have S1 := S1.up b
  clear b B20
  go_wp2_with fail
  refine (meetC S1 S4 ex6 rfl).mono ?_
  rintro e w22 ⟨AS2, cS2, rfl, S2, b⟩
  have B22 := B21.trans (b.mono B21.size)
  have Sall := Sall.up b
  have S1 := S1.up b
  have S4 := S4.up b
  clear b B21
  go_wp2_with fail
  refine (mk2 (5) (9) w22.heap.size _ (Box.new w22 _ _)).mono ?_
  rintro e w23 ⟨AS3, cS3, rfl, S3, b⟩
  have b := bstep b
  have B23 := B22.trans (b.mono B22.size)
  have Sall := Sall.up b
  have S1 := S1.up b
  have S4 := S4.up b
  have S2 := S2.up b
  clear b B22
  go_wp2_with fail
  refine (sameT S2 S3 rfl).mono ?_
  rintro e w24 ⟨rfl, b⟩
  have B24 := B23.trans (b.mono B23.size)
  have Sall := Sall.up b
  have S1 := S1.up b
  have S4 := S4.up b
  have S2 := S2.up b
  have S3 := S3.up b
  clear b B23
  clear S1 S2 S3 S4
  go_wp2_with fail
  refine (mk4 0 10 10 20 w24.heap.size _ (Box.new w24 _ _)).mono ?_
  rintro e w25 ⟨AS1, cS1, rfl, S1, b⟩
  have b := bstep b
  have B25 := B24.trans (b.mono B24.size)
  have Sall := Sall.up b
  clear b B24
  go_wp2_with fail
  refine (coversC 5 15 S1 true ex7).mono ?_
  rintro e w26 ⟨rfl, b⟩
  have B26 := B25.trans (b.mono B25.size)
  have Sall := Sall.up b
  have S1 := S1.up b
  clear b B25
  clear S1
  go_wp2_with fail
  refine (coversC 7 7 (SlN.nil _) true ex8).mono ?_
  rintro e w27 ⟨rfl, b⟩
  have B27 := B26.trans (b.mono B26.size)
  have Sall := Sall.up b
  clear b B26
  go_wp2_with fail
  refine (coversC 1023 1025 Sall false ex9).mono ?_
  rintro e w28 ⟨rfl, b⟩
  have B28 := B27.trans (b.mono B27.size)
  have Sall := Sall.up b
  clear b B27
  go_wp2_with fail
  refine (hasC 1023 Sall true ex10).mono ?_
  rintro e w29 ⟨rfl, b⟩
  have B29 := B28.trans (b.mono B28.size)
  have Sall := Sall.up b
  clear b B28
  go_wp2_with fail
  refine (hasC 1024 Sall false ex11).mono ?_
  rintro e w30 ⟨rfl, b⟩
  have B30 := B29.trans (b.mono B29.size)
  have Sall := Sall.up b
  clear b B29
  go_wp2_with fail
  refine (mk2 (0) (0) w30.heap.size _ (Box.new w30 _ _)).mono ?_
  rintro e w31 ⟨AS1, cS1, rfl, S1, b⟩
  have b := bstep b
  have B31 := B30.trans (b.mono B30.size)
  have Sall := Sall.up b
  clear b B30
  go_wp2_with fail
  refine (checkC S1 30 ex12).mono ?_
  rintro e w32 ⟨rfl, b⟩
  have B32 := B31.trans (b.mono B31.size)
  have Sall := Sall.up b
  have S1 := S1.up b
  clear b B31
  clear S1
  go_wp2_with fail
  refine (checkC Sall 0 ex13).mono ?_
  rintro e w33 ⟨rfl, b⟩
  have B33 := B32.trans (b.mono B32.size)
  have Sall := Sall.up b
  clear b B32
  go_wp2_with fail
  go_ret
  exact ⟨rfl, B33⟩
end Go.Proofs.Ytnmlfdmlcpgaaaa
