/- The law SpansDays. -/
import Derived.Test.YtnmlfdmlcpgaaaaDaysP
namespace Go.Proofs.Ytnmlfdmlcpgaaaa
open Go.RowKit
set_option linter.unusedVariables false

set_option maxHeartbeats 4000000 in
set_option maxRecDepth 100000 in
theorem lawDays_few (Aa : Option Addr) (a : List (Int × Int)) (na ca : Nat) (Ab : Option Addr) (b : List (Int × Int)) (nb cb : Nat) (day : Int) (w0 : World) (ha : SlG w0 Aa a na ca) (hb : SlG w0 Ab b nb cb) (fa : na ≤ 40) (fb : nb ≤ 40) :
    Calls Try.prog 6 #[.slice Aa na ca, .slice Ab nb cb, .int .i64 day] w0 (Rb true w0) := by
  obtain ⟨m1, Hm1⟩ := lenH (U a b)
  obtain ⟨m2, Hm2⟩ := lenH (Mt a b)
  obtain ⟨m3, Hm3⟩ := lenH (Mn a b)
  obtain ⟨m4, Hm4⟩ := lenH (Nm a)
  have B0 := Below.refl w0.heap.size w0
  have Sa := ha.few fa
  have Sb := hb.few fb
  clear ha hb
  go_enter Try.func6, Try.ntmps6
  go_wp2_with fail
  refine (sane_any w0).mono ?_
  rintro e w1 ⟨rfl, b⟩
  have B1 := B0.trans (b.mono B0.size)
  have Sa := Sa.up b
  have Sb := Sb.up b
  clear b B0
  go_wp2_with fail
  refine (fewT _ fa).mono ?_
  rintro e w2 ⟨rfl, b⟩
  have B2 := B1.trans (b.mono B1.size)
  have Sa := Sa.up b
  have Sb := Sb.up b
  clear b B1
  go_wp2_with fail
  refine (fewT _ fb).mono ?_
  rintro e w3 ⟨rfl, b⟩
  have B3 := B2.trans (b.mono B2.size)
  have Sa := Sa.up b
  have Sb := Sb.up b
  clear b B2
  go_wp2_with fail
  refine (unionD Sa Sb Hm1).mono ?_
  rintro e w4 ⟨Au, cu, rfl, Su, b⟩
  have B4 := B3.trans (b.mono B3.size)
  have Sa := Sa.up b
  have Sb := Sb.up b
  clear b B3
  go_wp2_with fail
  refine (meetD Sa Sb Hm2).mono ?_
  rintro e w5 ⟨Am, cm, rfl, Sm, b⟩
  have B5 := B4.trans (b.mono B4.size)
  have Sa := Sa.up b
  have Sb := Sb.up b
  have Su := Su.up b
  clear b B4
  go_wp2_with fail
  refine (minusD Sa Sb Hm3).mono ?_
  rintro e w6 ⟨Ad, cd, rfl, Sd, b⟩
  have B6 := B5.trans (b.mono B5.size)
  have Sa := Sa.up b
  have Sb := Sb.up b
  have Su := Su.up b
  have Sm := Sm.up b
  clear b B5
  go_wp2_with fail
  refine (normalD Sa Hm4).mono ?_
  rintro e w7 ⟨An, cn, rfl, Sn, b⟩
  have B7 := B6.trans (b.mono B6.size)
  have Sa := Sa.up b
  have Sb := Sb.up b
  have Su := Su.up b
  have Sm := Sm.up b
  have Sd := Sd.up b
  clear b B6
  go_wp2_with fail
  have hG := Box.new w7 #[.slice Au m1 cu, .slice Am m2 cm, .slice Ad m3 cd, .slice An m4 cn] 22
  have bA := (Below.refl w7.heap.size w7).alloc (Nat.le_refl _) (.cells #[.slice Au m1 cu, .slice Am m2 cm, .slice Ad m3 cd, .slice An m4 cn] 22)
  have B7 := B7.trans (bA.mono B7.size)
  have Sa := Sa.up bA
  have Sb := Sb.up bA
  have Su := Su.up bA
  have Sm := Sm.up bA
  have Sd := Sd.up bA
  have Sn := Sn.up bA
  clear bA
  generalize w7.heap.size = g at *
  generalize w7.alloc (.cells #[.slice Au m1 cu, .slice Am m2 cm, .slice Ad m3 cd, .slice An m4 cn] 22) = W at *
  have HL : Hid (∀ j : Nat, j < 4 → ∃ A l n c, (#[Value.slice Au m1 cu, .slice Am m2 cm, .slice Ad m3 cd, .slice An m4 cn])[j]? = some (.slice A n c) ∧ Good l ∧ SlN W A l n c) := by
    refine Lib.hid fun j hj => ?_
    have h4 : j = 0 ∨ j = 1 ∨ j = 2 ∨ j = 3 := by omega
    rcases h4 with rfl | rfl | rfl | rfl
    · exact ⟨_, _, _, _, rfl, good_nl _, Su⟩
    · exact ⟨_, _, _, _, rfl, good_nl _, Sm⟩
    · exact ⟨_, _, _, _, rfl, good_nl _, Sd⟩
    · exact ⟨_, _, _, _, rfl, good_nl _, Sn⟩
  have HG := Lib.hid hG
  have H0 := Lib.hid (And.intro B7 (And.intro Sa (And.intro Sb (And.intro Su (And.intro Sm Sd)))))
  clear hG B7 Sa Sb Su Sm Sd Sn Hm1 Hm2 Hm3
  generalize hCS : #[Value.slice Au m1 cu, .slice Am m2 cm, .slice Ad m3 cd, .slice An m4 cn] = CS at *
  clear hCS
  go_loopw [44] (fun i wr => ∃ j : Nat, j ≤ 4 ∧ i = .int .i64 j ∧ Below W.heap.size W wr) (fun i _ => 4 - (intOf i).toNat)
  case atStart => exact ⟨0, by omega, rfl, Below.refl _ _⟩
  case round =>
    obtain ⟨j, hj, rfl, hbw⟩ := hrel
    have HB := Lib.hid hbw
    clear hbw
    by_cases hlt : j < 4
    · obtain ⟨A, l, n, c, hc, hgood, hS⟩ := HL.out j hlt
      have cj := ((HG.out.below HB.out).cell j).trans hc
      have HS := Lib.hid (And.intro hgood hS)
      have hn : n ≤ 1000000 := hS.2.1
      have bj : (0 : Int) ≤ (j : Int) ∧ (j : Int) < 4 := by omega
      clear hc hgood hS
      go_wp2_with fail
      clear cj
      go_loopw [50] (fun i wr => ∃ k : Nat, k ≤ n ∧ i = .int .i64 k ∧ Below W.heap.size W wr) (fun i _ => n - (intOf i).toNat)
      case atStart => exact ⟨0, by omega, rfl, HB.out⟩
      case round =>
        clear HB
        obtain ⟨k, hk, rfl, hbw⟩ := hrel
        by_cases hkn : k < n
        · obtain ⟨hlen, _, hSl⟩ := HS.out.2
          obtain ⟨b, off, rfl, hbl, hc⟩ := hSl.1 (by omega)
          obtain ⟨sp, hsp⟩ : ∃ sp, l[k]? = some sp := ⟨_, List.getElem?_eq_getElem (by omega)⟩
          obtain ⟨h1, h2⟩ := hc k sp hsp
          have c1 := (hbw.cell (p := ⟨b, off + k * 2, none⟩) hbl).trans h1
          have c2 := (hbw.cell (p := ⟨b, off + k * 2 + 1, none⟩) hbl).trans h2
          have hW := hbw.alloc hbw.size (.cells #[.int .i64 sp.1, .int .i64 sp.2] 31)
          have HW := Lib.hid hW
          obtain ⟨o1, o2, o3⟩ := HS.out.1.1 k sp hsp
          have d1 : decide (sp.1 < 0) = false := decide_eq_false (by omega)
          have d2 : decide (sp.2 ≤ sp.1) = false := decide_eq_false (by omega)
          have d3 : decide (1024 < sp.2) = false := decide_eq_false (by omega)
          have b1 : (0 : Int) ≤ (k : Int) ∧ (k : Int) < (n : Int) := by omega
          have hh0 : 0 < k → ∃ tp : Int × Int, (wr.alloc (.cells #[.int .i64 sp.1, .int .i64 sp.2] 31)).cell? ⟨b, off + (k - 1) * 2 + 1, none⟩ = some (.int .i64 tp.2) ∧ tp.2 < sp.1 := by
            intro hk0
            obtain ⟨tp, htp⟩ : ∃ tp, l[k - 1]? = some tp := ⟨_, List.getElem?_eq_getElem (by omega)⟩
            exact ⟨tp, (hW.cell (p := ⟨b, off + (k - 1) * 2 + 1, none⟩) hbl).trans (hc (k - 1) tp htp).2, HS.out.1.2 (k - 1) tp sp htp (by rw [show k - 1 + 1 = k by omega]; exact hsp)⟩
          have HH := Lib.hid hh0
          clear hlen hSl hbl hc hsp h1 h2 hbw hW hh0 o1 o2 o3
          rcases Nat.eq_zero_or_pos k with hk0 | hk0
          · have d0 : decide (0 < k) = false := decide_eq_false (by omega)
            clear HH hk0
            go_wp2_with fail
            go_quiet (fail)
            go_wp2_with fail
            go_roundw
            case rel => exact ⟨k + 1, by omega, by go_num, below_drewN HW.out nq⟩
            case measure => simp [intOf]; omega
          · obtain ⟨k, rfl⟩ : ∃ q, k = q + 1 := ⟨k - 1, by omega⟩
            obtain ⟨tp, c3, h3⟩ := HH.out (by omega)
            rw [Nat.add_sub_cancel] at c3
            have d4 : decide (sp.1 ≤ tp.2) = false := decide_eq_false (by omega)
            clear HH hk0
            go_wp2_with fail
            go_quiet (fail)
            go_wp2_with fail
            go_roundw
            case rel => exact ⟨k + 1 + 1, by omega, by go_num, below_drewN HW.out nq⟩
            case measure => simp [intOf]; omega
        · obtain rfl : k = n := by omega
          have HC := Lib.hid (checkC (HS.out.2.up hbw) 0 (good_chk HS.out.1))
          have HB := Lib.hid hbw
          clear hbw
          go_wp2_with fail
          refine HC.out.mono ?_
          rintro e w8 ⟨rfl, b8⟩
          have hb8 := HB.out.trans (b8.mono HB.out.size)
          have HB8 := Lib.hid hb8
          clear b8 hb8 HC HB
          go_wp2_with fail
          go_roundw
          case rel => exact ⟨j + 1, by omega, by go_num, HB8.out⟩
          case measure => simp [intOf]; omega
    · obtain rfl : j = 4 := by omega
      clear HL HG hlt
      simp only [Int.cast_ofNat_Int]
      have B1 := H0.out.1.trans (HB.out.mono H0.out.1.size)
      have Sa := H0.out.2.1.up HB.out
      have Sb := H0.out.2.2.1.up HB.out
      have Su := H0.out.2.2.2.1.up HB.out
      have Sm := H0.out.2.2.2.2.1.up HB.out
      have Sd := H0.out.2.2.2.2.2.up HB.out
      have H1 := Lib.hid (And.intro B1 (And.intro Sa (And.intro Sb (And.intro Su (And.intro Sm Sd)))))
      clear B1 Sa Sb Su Sm Sd H0 HB
      go_wp2_with fail
      generalize bits .and .i64 day 511 = D
      have hG := Box.new wr #[.int .i64 day, .int .i64 D, .int .i64 0, .int .i64 1023] 3
      have bA := (Below.refl wr.heap.size wr).alloc (Nat.le_refl _) (.cells #[.int .i64 day, .int .i64 D, .int .i64 0, .int .i64 1023] 3)
      have HL : Hid (∀ j : Nat, j < 4 → ∃ d : Int, (#[Value.int .i64 day, .int .i64 D, .int .i64 0, .int .i64 1023])[j]? = some (.int .i64 d)) := by
        refine Lib.hid fun j hj => ?_
        have h4 : j = 0 ∨ j = 1 ∨ j = 2 ∨ j = 3 := by omega
        rcases h4 with rfl | rfl | rfl | rfl <;> exact ⟨_, rfl⟩
      have h2 : Below w0.heap.size w0 _ ∧ SlN _ Aa a na ca ∧ SlN _ Ab b nb cb ∧ SlN _ Au (U a b) m1 cu ∧ SlN _ Am (Mt a b) m2 cm ∧ SlN _ Ad (Mn a b) m3 cd :=
        ⟨H1.out.1.trans (bA.mono H1.out.1.size), H1.out.2.1.up bA, H1.out.2.2.1.up bA, H1.out.2.2.2.1.up bA, H1.out.2.2.2.2.1.up bA, H1.out.2.2.2.2.2.up bA⟩
      have HG := Lib.hid hG
      have H2 := Lib.hid h2
      clear hG bA h2 H1
      generalize hCS : #[Value.int .i64 day, .int .i64 D, .int .i64 0, .int .i64 1023] = CS at *
      clear hCS
      generalize wr.heap.size = g2 at *
      generalize wr.alloc (.cells CS 3) = V at *
      go_loopw [95] (fun i wr => ∃ j : Nat, j ≤ 4 ∧ i = .int .i64 j ∧ Below V.heap.size V wr) (fun i _ => 4 - (intOf i).toNat)
      case atStart => exact ⟨0, by omega, rfl, Below.refl _ _⟩
      case round =>
        obtain ⟨i, hi, rfl, hbw⟩ := hrel
        have HB := Lib.hid hbw
        clear hbw
        by_cases hlt2 : i < 4
        · obtain ⟨d, hd⟩ := HL.out i hlt2
          have cj := ((HG.out.below HB.out).cell i).trans hd
          have bj : (0 : Int) ≤ (i : Int) ∧ (i : Int) < 4 := by omega
          have B1 : Below V.heap.size V _ := HB.out
          have Sa := H2.out.2.1.up HB.out
          have Sb := H2.out.2.2.1.up HB.out
          have Su := H2.out.2.2.2.1.up HB.out
          have Sm := H2.out.2.2.2.2.1.up HB.out
          have Sd := H2.out.2.2.2.2.2.up HB.out
          have HU := Lib.hid (hasD_U a b d)
          have HM := Lib.hid (hasD_Mt a b d)
          have HD := Lib.hid (hasD_Mn a b d)
          have HN := Lib.hid (hasD_Nm a d)
          generalize hX : hasD a d = x at *
          generalize hY : hasD b d = y at *
          have HX := Lib.hid hX
          have HY := Lib.hid hY
          clear hX hY hd HB
          cases x <;> cases y
          · go_wp2_with fail
            clear cj
            refine (hasC d Sa false HX.out).mono ?_
            rintro e v2 ⟨rfl, b⟩
            have B2 := B1.trans (b.mono B1.size)
            have Sa := Sa.up b
            have Sb := Sb.up b
            have Su := Su.up b
            have Sm := Sm.up b
            have Sd := Sd.up b
            clear b B1
            go_wp2_with fail
            refine (hasC d Sb false HY.out).mono ?_
            rintro e v3 ⟨rfl, b⟩
            have B3 := B2.trans (b.mono B2.size)
            have Sa := Sa.up b
            have Sb := Sb.up b
            have Su := Su.up b
            have Sm := Sm.up b
            have Sd := Sd.up b
            clear b B2
            go_wp2_with fail
            refine (hasC d Su false HU.out).mono ?_
            rintro e v4 ⟨rfl, b⟩
            have B4 := B3.trans (b.mono B3.size)
            have Sa := Sa.up b
            have Sb := Sb.up b
            have Su := Su.up b
            have Sm := Sm.up b
            have Sd := Sd.up b
            clear b B3
            go_wp2_with fail
            refine (hasC d Sm false HM.out).mono ?_
            rintro e v5 ⟨rfl, b⟩
            have B5 := B4.trans (b.mono B4.size)
            have Sa := Sa.up b
            have Sb := Sb.up b
            have Su := Su.up b
            have Sm := Sm.up b
            have Sd := Sd.up b
            clear b B4
            go_wp2_with fail
            refine (hasC d Sd false HD.out).mono ?_
            rintro e v6 ⟨rfl, b⟩
            have B6 := B5.trans (b.mono B5.size)
            have Sa := Sa.up b
            have Sb := Sb.up b
            have Su := Su.up b
            have Sm := Sm.up b
            have Sd := Sd.up b
            clear b B5
            go_wp2_with fail
            refine (normalD Sa Hm4).mono ?_
            rintro e v7 ⟨An2, cn2, rfl, Sn, b⟩
            have B7 := B6.trans (b.mono B6.size)
            have Sa := Sa.up b
            have Sb := Sb.up b
            have Su := Su.up b
            have Sm := Sm.up b
            have Sd := Sd.up b
            clear b B6
            go_wp2_with fail
            refine (hasC d Sn false HN.out).mono ?_
            rintro e v8 ⟨rfl, b⟩
            have B8 := B7.trans (b.mono B7.size)
            have Sa := Sa.up b
            have Sb := Sb.up b
            have Su := Su.up b
            have Sm := Sm.up b
            have Sd := Sd.up b
            have Sn := Sn.up b
            clear b B7
            go_wp2_with fail
            go_roundw
            case rel => exact ⟨i + 1, by omega, by go_num, B8⟩
            case measure => simp [intOf]; omega
          · go_wp2_with fail
            clear cj
            refine (hasC d Sa false HX.out).mono ?_
            rintro e v2 ⟨rfl, b⟩
            have B2 := B1.trans (b.mono B1.size)
            have Sa := Sa.up b
            have Sb := Sb.up b
            have Su := Su.up b
            have Sm := Sm.up b
            have Sd := Sd.up b
            clear b B1
            go_wp2_with fail
            refine (hasC d Sb true HY.out).mono ?_
            rintro e v3 ⟨rfl, b⟩
            have B3 := B2.trans (b.mono B2.size)
            have Sa := Sa.up b
            have Sb := Sb.up b
            have Su := Su.up b
            have Sm := Sm.up b
            have Sd := Sd.up b
            clear b B2
            go_wp2_with fail
            refine (hasC d Su true HU.out).mono ?_
            rintro e v4 ⟨rfl, b⟩
            have B4 := B3.trans (b.mono B3.size)
            have Sa := Sa.up b
            have Sb := Sb.up b
            have Su := Su.up b
            have Sm := Sm.up b
            have Sd := Sd.up b
            clear b B3
            go_wp2_with fail
            refine (hasC d Sm false HM.out).mono ?_
            rintro e v5 ⟨rfl, b⟩
            have B5 := B4.trans (b.mono B4.size)
            have Sa := Sa.up b
            have Sb := Sb.up b
            have Su := Su.up b
            have Sm := Sm.up b
            have Sd := Sd.up b
            clear b B4
            go_wp2_with fail
            refine (hasC d Sd false HD.out).mono ?_
            rintro e v6 ⟨rfl, b⟩
            have B6 := B5.trans (b.mono B5.size)
            have Sa := Sa.up b
            have Sb := Sb.up b
            have Su := Su.up b
            have Sm := Sm.up b
            have Sd := Sd.up b
            clear b B5
            go_wp2_with fail
            refine (normalD Sa Hm4).mono ?_
            rintro e v7 ⟨An2, cn2, rfl, Sn, b⟩
            have B7 := B6.trans (b.mono B6.size)
            have Sa := Sa.up b
            have Sb := Sb.up b
            have Su := Su.up b
            have Sm := Sm.up b
            have Sd := Sd.up b
            clear b B6
            go_wp2_with fail
            refine (hasC d Sn false HN.out).mono ?_
            rintro e v8 ⟨rfl, b⟩
            have B8 := B7.trans (b.mono B7.size)
            have Sa := Sa.up b
            have Sb := Sb.up b
            have Su := Su.up b
            have Sm := Sm.up b
            have Sd := Sd.up b
            have Sn := Sn.up b
            clear b B7
            go_wp2_with fail
            go_roundw
            case rel => exact ⟨i + 1, by omega, by go_num, B8⟩
            case measure => simp [intOf]; omega
          · go_wp2_with fail
            clear cj
            refine (hasC d Sa true HX.out).mono ?_
            rintro e v2 ⟨rfl, b⟩
            have B2 := B1.trans (b.mono B1.size)
            have Sa := Sa.up b
            have Sb := Sb.up b
            have Su := Su.up b
            have Sm := Sm.up b
            have Sd := Sd.up b
            clear b B1
            go_wp2_with fail
            refine (hasC d Sb false HY.out).mono ?_
            rintro e v3 ⟨rfl, b⟩
            have B3 := B2.trans (b.mono B2.size)
            have Sa := Sa.up b
            have Sb := Sb.up b
            have Su := Su.up b
            have Sm := Sm.up b
            have Sd := Sd.up b
            clear b B2
            go_wp2_with fail
            refine (hasC d Su true HU.out).mono ?_
            rintro e v4 ⟨rfl, b⟩
            have B4 := B3.trans (b.mono B3.size)
            have Sa := Sa.up b
            have Sb := Sb.up b
            have Su := Su.up b
            have Sm := Sm.up b
            have Sd := Sd.up b
            clear b B3
            go_wp2_with fail
            refine (hasC d Sm false HM.out).mono ?_
            rintro e v5 ⟨rfl, b⟩
            have B5 := B4.trans (b.mono B4.size)
            have Sa := Sa.up b
            have Sb := Sb.up b
            have Su := Su.up b
            have Sm := Sm.up b
            have Sd := Sd.up b
            clear b B4
            go_wp2_with fail
            refine (hasC d Sd true HD.out).mono ?_
            rintro e v6 ⟨rfl, b⟩
            have B6 := B5.trans (b.mono B5.size)
            have Sa := Sa.up b
            have Sb := Sb.up b
            have Su := Su.up b
            have Sm := Sm.up b
            have Sd := Sd.up b
            clear b B5
            go_wp2_with fail
            refine (normalD Sa Hm4).mono ?_
            rintro e v7 ⟨An2, cn2, rfl, Sn, b⟩
            have B7 := B6.trans (b.mono B6.size)
            have Sa := Sa.up b
            have Sb := Sb.up b
            have Su := Su.up b
            have Sm := Sm.up b
            have Sd := Sd.up b
            clear b B6
            go_wp2_with fail
            refine (hasC d Sn true HN.out).mono ?_
            rintro e v8 ⟨rfl, b⟩
            have B8 := B7.trans (b.mono B7.size)
            have Sa := Sa.up b
            have Sb := Sb.up b
            have Su := Su.up b
            have Sm := Sm.up b
            have Sd := Sd.up b
            have Sn := Sn.up b
            clear b B7
            go_wp2_with fail
            go_roundw
            case rel => exact ⟨i + 1, by omega, by go_num, B8⟩
            case measure => simp [intOf]; omega
          · go_wp2_with fail
            clear cj
            refine (hasC d Sa true HX.out).mono ?_
            rintro e v2 ⟨rfl, b⟩
            have B2 := B1.trans (b.mono B1.size)
            have Sa := Sa.up b
            have Sb := Sb.up b
            have Su := Su.up b
            have Sm := Sm.up b
            have Sd := Sd.up b
            clear b B1
            go_wp2_with fail
            refine (hasC d Sb true HY.out).mono ?_
            rintro e v3 ⟨rfl, b⟩
            have B3 := B2.trans (b.mono B2.size)
            have Sa := Sa.up b
            have Sb := Sb.up b
            have Su := Su.up b
            have Sm := Sm.up b
            have Sd := Sd.up b
            clear b B2
            go_wp2_with fail
            refine (hasC d Su true HU.out).mono ?_
            rintro e v4 ⟨rfl, b⟩
            have B4 := B3.trans (b.mono B3.size)
            have Sa := Sa.up b
            have Sb := Sb.up b
            have Su := Su.up b
            have Sm := Sm.up b
            have Sd := Sd.up b
            clear b B3
            go_wp2_with fail
            refine (hasC d Sm true HM.out).mono ?_
            rintro e v5 ⟨rfl, b⟩
            have B5 := B4.trans (b.mono B4.size)
            have Sa := Sa.up b
            have Sb := Sb.up b
            have Su := Su.up b
            have Sm := Sm.up b
            have Sd := Sd.up b
            clear b B4
            go_wp2_with fail
            refine (hasC d Sd false HD.out).mono ?_
            rintro e v6 ⟨rfl, b⟩
            have B6 := B5.trans (b.mono B5.size)
            have Sa := Sa.up b
            have Sb := Sb.up b
            have Su := Su.up b
            have Sm := Sm.up b
            have Sd := Sd.up b
            clear b B5
            go_wp2_with fail
            refine (normalD Sa Hm4).mono ?_
            rintro e v7 ⟨An2, cn2, rfl, Sn, b⟩
            have B7 := B6.trans (b.mono B6.size)
            have Sa := Sa.up b
            have Sb := Sb.up b
            have Su := Su.up b
            have Sm := Sm.up b
            have Sd := Sd.up b
            clear b B6
            go_wp2_with fail
            refine (hasC d Sn true HN.out).mono ?_
            rintro e v8 ⟨rfl, b⟩
            have B8 := B7.trans (b.mono B7.size)
            have Sa := Sa.up b
            have Sb := Sb.up b
            have Su := Su.up b
            have Sm := Sm.up b
            have Sd := Sd.up b
            have Sn := Sn.up b
            clear b B7
            go_wp2_with fail
            go_roundw
            case rel => exact ⟨i + 1, by omega, by go_num, B8⟩
            case measure => simp [intOf]; omega
        · obtain rfl : i = 4 := by omega
          have hb := H2.out.1.trans (HB.out.mono H2.out.1.size)
          go_wp2_with fail
          go_ret
          exact ⟨rfl, hb⟩

set_option maxHeartbeats 1000000 in
set_option maxRecDepth 100000 in
theorem lawDays_many0 (Aa : Option Addr) (na ca : Nat) (Ab : Option Addr) (nb cb : Nat) (day : Int) (w0 : World) (fa : ¬ na ≤ 40) :
    Calls Try.prog 6 #[.slice Aa na ca, .slice Ab nb cb, .int .i64 day] w0 (Rb true w0) := by
  have B0 := Below.refl w0.heap.size w0
  go_enter Try.func6, Try.ntmps6
  go_wp2_with fail
  refine (sane_any w0).mono ?_
  rintro e w1 ⟨rfl, b⟩
  have B1 := B0.trans (b.mono B0.size)
  clear b B0
  go_wp2_with fail
  refine (fewF _ fa).mono ?_
  rintro e w2 ⟨rfl, b⟩
  have B2 := B1.trans (b.mono B1.size)
  clear b B1
  go_wp2_with fail
  go_ret
  exact ⟨rfl, B2⟩
set_option maxHeartbeats 1000000 in
set_option maxRecDepth 100000 in
theorem lawDays_many1 (Aa : Option Addr) (na ca : Nat) (Ab : Option Addr) (nb cb : Nat) (day : Int) (w0 : World) (fa : na ≤ 40) (fb : ¬ nb ≤ 40) :
    Calls Try.prog 6 #[.slice Aa na ca, .slice Ab nb cb, .int .i64 day] w0 (Rb true w0) := by
  have B0 := Below.refl w0.heap.size w0
  go_enter Try.func6, Try.ntmps6
  go_wp2_with fail
  refine (sane_any w0).mono ?_
  rintro e w1 ⟨rfl, b⟩
  have B1 := B0.trans (b.mono B0.size)
  clear b B0
  go_wp2_with fail
  refine (fewT _ fa).mono ?_
  rintro e w2 ⟨rfl, b⟩
  have B2 := B1.trans (b.mono B1.size)
  clear b B1
  go_wp2_with fail
  refine (fewF _ fb).mono ?_
  rintro e w3 ⟨rfl, b⟩
  have B3 := B2.trans (b.mono B2.size)
  clear b B2
  go_wp2_with fail
  go_ret
  exact ⟨rfl, B3⟩
theorem lawDays_any (Aa : Option Addr) (a : List (Int × Int)) (na ca : Nat) (Ab : Option Addr) (b : List (Int × Int)) (nb cb : Nat) (day : Int) (w0 : World) (ha : SlG w0 Aa a na ca) (hb : SlG w0 Ab b nb cb) (hd : (Lit.int IntKind.i64 day).wf = true) :
    Calls Try.prog 6 #[.slice Aa na ca, .slice Ab nb cb, .int .i64 day] w0 (Rb true w0) := by
  by_cases fa : na ≤ 40
  · by_cases fb : nb ≤ 40
    · exact lawDays_few Aa a na ca Ab b nb cb day w0 ha hb fa fb
    · exact lawDays_many1 Aa na ca Ab nb cb day w0 fa fb
  · exact lawDays_many0 Aa na ca Ab nb cb day w0 fa
end Go.Proofs.Ytnmlfdmlcpgaaaa
