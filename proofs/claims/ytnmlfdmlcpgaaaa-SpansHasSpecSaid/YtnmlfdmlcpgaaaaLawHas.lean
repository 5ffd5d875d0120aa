/- The law SpansHasSpec. -/
import Derived.Test.YtnmlfdmlcpgaaaaRWrap
namespace Go.Proofs.Ytnmlfdmlcpgaaaa
open Go.RowKit
set_option linter.unusedVariables false

structure BX (w : World) (g : Nat) (x y : Int) : Prop where
  out : Box w g #[.int .i64 x, .int .i64 y] 31
theorem BX.up {w w' : World} {g : Nat} {x y : Int} (h : BX w g x y) (hb : Below w.heap.size w w') : BX w' g x y := ⟨h.out.below hb⟩
theorem BX.cells {w : World} {g : Nat} {x y : Int} (h : BX w g x y) : w.cell? ⟨g, 0, none⟩ = some (.int .i64 x) ∧ w.cell? ⟨g, 1, none⟩ = some (.int .i64 y) := ⟨h.out.cell 0, h.out.cell 1⟩
theorem SlG.up2 {w w' : World} {A : Option Addr} {l : List (Int × Int)} {n c : Nat} (h : SlG w A l n c) (hb : Below w.heap.size w w') : SlG w' A l n c := h.up hb

set_option maxHeartbeats 4000000 in
set_option maxRecDepth 100000 in
theorem lawHas_few (Aa : Option Addr) (a : List (Int × Int)) (na ca : Nat) (day x y : Int) (w0 : World) (ha : SlG w0 Aa a na ca) (fa : na ≤ 40) :
    Calls Try.prog 5 #[.slice Aa na ca, .int .i64 day, .agg #[.int .i64 x, .int .i64 y]] w0 (Rb true w0) := by
  obtain ⟨r1, H1⟩ : ∃ r, Hid (hasD a day = r) := ⟨_, rfl⟩
  obtain ⟨r2, H2⟩ : ∃ r, Hid (cov a (x, y) = r) := ⟨_, rfl⟩
  have hb0 := (Below.refl w0.heap.size w0).alloc (Nat.le_refl _) (.cells #[.int .i64 x, .int .i64 y] 31)
  have X := BX.mk (Box.new w0 #[.int .i64 x, .int .i64 y] 31)
  have Sa := (ha.up hb0).few fa
  clear ha
  have B0 := hb0
  clear hb0
  go_enter Try.func5, Try.ntmps5
  go_wp2_with fail
  generalize w0.alloc (.cells #[.int .i64 x, .int .i64 y] 31) = W0 at *
  refine (sane_any W0).mono ?_
  rintro e w1 ⟨rfl, b⟩
  have B1 := B0.trans (b.mono B0.size)
  have X := X.up b
  have Sa := Sa.up b
  clear b B0
  go_wp2_with fail
  refine (fewT _ fa).mono ?_
  rintro e w2 ⟨rfl, b⟩
  have B2 := B1.trans (b.mono B1.size)
  have X := X.up b
  have Sa := Sa.up b
  clear b B1
  go_wp2_with fail
  have B2 : Below w0.heap.size w0 w2.drew := below_drewN B2 1
  have S2 : SlN w2.drew Aa a na ca := Sa
  have X2 : BX w2.drew w0.heap.size x y := ⟨X.out⟩
  have HB2 := Lib.hid B2
  have HS2 := Lib.hid S2
  have HX2 := Lib.hid X2
  clear B2 S2 X2 Sa X
  go_region_held3 (fun w' => w'.cell? ⟨w0.heap.size, 0, none⟩ = some (.int .i64 x) ∧ w'.cell? ⟨w0.heap.size, 1, none⟩ = some (.int .i64 y)) (first | exact HX2.out.cells | exact HX3.out.cells | exact HX4.out.cells | exact HX5.out.cells | exact HX6.out.cells | go_keep)
    (first
      | (go_at_call 20; (with_reducible refine (hasC day HS2.out r1 H1.out).mono ?_); rintro e w3 ⟨rfl, b3⟩; have HS3 := Lib.hid (HS2.out.up b3); have HX3 := Lib.hid (HX2.out.up b3); have HB3 := Lib.hid (HB2.out.trans (b3.mono HB2.out.size)); clear b3)
      | (go_at_call 21; (with_reducible refine (refHasC day HS3.out r1 H1.out).mono ?_); rintro e w4 ⟨rfl, b4⟩; have HS4 := Lib.hid (HS3.out.up b4); have HX4 := Lib.hid (HX3.out.up b4); have HB4 := Lib.hid (HB3.out.trans (b4.mono HB3.out.size)); clear b4)
      | (go_at_call 22; (with_reducible refine (coversC x y HS4.out r2 H2.out).mono ?_); rintro e w5 ⟨rfl, b5⟩; have HS5 := Lib.hid (HS4.out.up b5); have HX5 := Lib.hid (HX4.out.up b5); have HB5 := Lib.hid (HB4.out.trans (b5.mono HB4.out.size)); clear b5)
      | (go_at_call 23; (with_reducible refine (refCoversC x y HS5.out r2 H2.out).mono ?_); rintro e w6 ⟨rfl, b6⟩; have HX6 := Lib.hid (HX5.out.up b6); have HB6 := Lib.hid (HB5.out.trans (b6.mono HB5.out.size)); clear b6)
      | fail)
  all_goals
    go_wp2_with fail
    go_ret
    exact ⟨rfl, HB6.out⟩
set_option maxHeartbeats 4000000 in
set_option maxRecDepth 100000 in
theorem lawHas_many (Aa : Option Addr) (a : List (Int × Int)) (na ca : Nat) (day x y : Int) (w0 : World) (fa : ¬ na ≤ 40) :
    Calls Try.prog 5 #[.slice Aa na ca, .int .i64 day, .agg #[.int .i64 x, .int .i64 y]] w0 (Rb true w0) := by
  have hb0 := (Below.refl w0.heap.size w0).alloc (Nat.le_refl _) (.cells #[.int .i64 x, .int .i64 y] 31)
  have X := BX.mk (Box.new w0 #[.int .i64 x, .int .i64 y] 31)
  have B0 := hb0
  clear hb0
  go_enter Try.func5, Try.ntmps5
  go_wp2_with fail
  generalize w0.alloc (.cells #[.int .i64 x, .int .i64 y] 31) = W0 at *
  refine (sane_any W0).mono ?_
  rintro e w1 ⟨rfl, b⟩
  have B1 := B0.trans (b.mono B0.size)
  have X := X.up b
  clear b B0
  go_wp2_with fail
  refine (fewF _ fa).mono ?_
  rintro e w2 ⟨rfl, b⟩
  have B2 := B1.trans (b.mono B1.size)
  have X := X.up b
  clear b B1
  go_wp2_with fail
  go_ret
  exact ⟨rfl, B2⟩
theorem lawHas_any (Aa : Option Addr) (a : List (Int × Int)) (na ca : Nat) (day x y : Int) (w0 : World) (ha : SlG w0 Aa a na ca) (hd : (Lit.int IntKind.i64 day).wf = true) :
    Calls Try.prog 5 #[.slice Aa na ca, .int .i64 day, .agg #[.int .i64 x, .int .i64 y]] w0 (Rb true w0) := by
  by_cases fa : na ≤ 40
  · exact lawHas_few Aa a na ca day x y w0 ha fa
  · exact lawHas_many Aa a na ca day x y w0 fa
end Go.Proofs.Ytnmlfdmlcpgaaaa
