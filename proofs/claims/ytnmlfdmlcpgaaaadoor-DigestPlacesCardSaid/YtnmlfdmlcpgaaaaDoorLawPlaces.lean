/- DigestPlaces. -/
import Derived.Test.YtnmlfdmlcpgaaaaDoorSteps
import Derived.Test.YtnmlfdmlcpgaaaaDoorRow
namespace Go.Proofs.YtnmlfdmlcpgaaaaDoor
open Go.RowKit Go.Sort
set_option linter.unusedVariables false

/-- What lasts: the table, what was there, the digests, the path. -/
structure PF (w : World) (A : Option Addr) (ds : List (List UInt8)) (A' : Option Addr) (ps : List (List UInt8)) (W : World) : Prop where
  K : KT W
  B : Below w.heap.size w W
  D : Ds W.heap.size W A ds
  P : Ds W.heap.size W A' ps
theorem PF.up {w : World} {A A' : Option Addr} {ds ps : List (List UInt8)} {W W' : World} (h : PF w A ds A' ps W) (hb : Below W.heap.size W W') : PF w A ds A' ps W' :=
  ⟨h.K.below hb, h.B.trans (hb.mono h.B.size), h.D.up hb, h.P.up hb⟩
theorem pth_len32 (m : Nat) : ∀ (ds : List (List UInt8)) (i : Nat), ds.length ≤ m → ∀ d, d ∈ pth ds i → d.length = 32 := by
  induction m with
  | zero =>
    intro ds i h d hd
    rw [pth_end ds i (by omega)] at hd
    simp at hd
  | succ m ih =>
    intro ds i h d hd
    by_cases h1 : ds.length ≤ 1
    · rw [pth_end ds i h1] at hd
      simp at hd
    · have h2 := half_le ds.length (by omega)
      have h3 := half_pos ds.length
      by_cases hi : i < half ds.length
      · rw [pth_left ds i (by omega) hi] at hd
        rcases List.mem_append.1 hd with hd | hd
        · exact ih _ _ (by rw [List.length_take]; omega) d hd
        · simp at hd; subst hd; exact tr_length _
      · rw [pth_right ds i (by omega) hi] at hd
        rcases List.mem_append.1 hd with hd | hd
        · exact ih _ _ (by rw [List.length_drop]; omega) d hd
        · simp at hd; subst hd; exact tr_length _

set_option maxHeartbeats 2000000 in
set_option maxRecDepth 100000 in
theorem lawPlaces_any (A : Option Addr) (c : Nat) (l : List UInt8) (at' N : Int) (w : World) (hK : KT w) (hS : Sl w A l c) (h1 : (Lit.int IntKind.i64 at').wf = true) (h2 : (Lit.int IntKind.i64 N).wf = true) :
    Calls Tryd.prog 9 #[.slice A l.length c, .int .i64 at', .int .i64 N] w fun e w' => e = .returned (.bool true) ∧ Below w.heap.size w w' := by
  have HSN := Lib.hid (sane_any w hK)
  have HDO := Lib.hid (fun w' (hb : Below w.heap.size w w') => digestsOf_any A c l w' (hS.up hb))
  have HK := Lib.hid hK
  clear hK hS h1 h2
  have hn24 : min l.length 24 ≤ 24 := by omega
  have hlen := dgk_length l (min l.length 24)
  have h32 := dgk_len32 l (min l.length 24)
  generalize hds : dgk l (min l.length 24) = ds at *
  generalize hnn : min l.length 24 = n at *
  have HLEN := Lib.hid hlen
  have H32 := Lib.hid h32
  clear hds hnn hlen h32
  generalize l.length = nl at *
  go_enter Tryd.func9, Tryd.ntmps9
  go_wp2_with fail
  refine HSN.out.mono ?_
  rintro e w1 ⟨rfl, hb1⟩
  go_wp2_with fail
  refine (HDO.out w1 hb1).mono ?_
  rintro e w2 ⟨A1, c1, rfl, ho2, hb2⟩
  have hbw2 := hb1.trans (hb2.mono hb1.size)
  obtain ⟨hD, hc1, hc2⟩ := Ds.of_own ho2 HLEN.out H32.out
  have HB2 := Lib.hid hbw2
  have HD2 := Lib.hid hD
  have HC := Lib.hid (And.intro hc1 hc2)
  clear hb1 hb2 ho2 hbw2 hD HSN HDO hc1 hc2
  by_cases hat : at' < 0 ∨ (n : Int) ≤ at'
  · have HN := Lib.hid (path_no A1 c1 n at' w2 hat)
    have d1 : decide (at' < 0) = true ∨ (decide (at' < 0) = false ∧ decide ((n : Int) ≤ at') = true) := by
      by_cases h : at' < 0
      · exact .inl (decide_eq_true h)
      · exact .inr ⟨decide_eq_false h, decide_eq_true (by omega)⟩
    clear hat
    go_wp2_with fail
    refine HN.out.mono ?_
    rintro e w3 ⟨rfl, rfl⟩
    rcases d1 with d1 | ⟨d1, d2⟩
    · go_wp2_with fail
      go_ret
      exact ⟨rfl, HB2.out⟩
    · go_wp2_with fail
      go_ret
      exact ⟨rfl, HB2.out⟩
  · obtain ⟨i, rfl⟩ : ∃ i : Nat, at' = (i : Int) := ⟨at'.toNat, by omega⟩
    have hin : i < n := by omega
    have d2 : decide (n ≤ i) = false := decide_eq_false (by omega)
    have HPA := Lib.hid (path_any ds A1 c1 i n w2 HLEN.out hin (HK.out.below HB2.out) HD2.out HC.out.1 HC.out.2 (by omega))
    have HPL := Lib.hid (pth_length n ds i (by rw [HLEN.out]; exact Nat.le_refl _))
    have HP32 := Lib.hid (pth_len32 n ds i (by rw [HLEN.out]; exact Nat.le_refl _))
    have hpl := pl_lt i n (by omega)
    have HST := Lib.hid (fun w => steps_any i n w hin (by omega))
    have HST2 := Lib.hid (fun V w (h : i < V) (h2 : V ≤ 1099511627776) => steps_any i V w h (by omega))
    rw [HLEN.out] at HPL
    clear hat
    generalize pth ds i = ps at *
    generalize hm : pl i n = m at *
    have HM := Lib.hid hm
    clear hm
    go_wp2_with fail
    refine HPA.out.mono ?_
    rintro e w3 ⟨A2, c2, rfl, ho3, hb3⟩
    obtain ⟨hP, hp1, hp2⟩ := Ds.of_own ho3 HPL.out HP32.out
    have F3 : PF w A1 ds A2 ps w3 := ⟨HK.out.below (HB2.out.trans (hb3.mono HB2.out.size)), HB2.out.trans (hb3.mono HB2.out.size), HD2.out.up hb3, hP⟩
    have HF3 := Lib.hid F3
    have HC2 := Lib.hid (And.intro hp1 hp2)
    clear ho3 hb3 hP F3 HPA HB2 HD2 hp1 hp2
    go_wp2_with fail
    refine (HST.out _).mono ?_
    rintro e w4 ⟨rfl, rfl⟩
    clear HST
    go_wp2_with fail
    generalize bits .and .i64 N 31 = D
    have hG := Box.new w3 #[.int .i64 N, .int .i64 D, .int .i64 ((n : Int) + 1), .int .i64 (2 * (n : Int))] 3
    have bA := (Below.refl w3.heap.size w3).alloc (Nat.le_refl _) (.cells #[.int .i64 N, .int .i64 D, .int .i64 ((n : Int) + 1), .int .i64 (2 * (n : Int))] 3)
    have HL : Hid (∀ j : Nat, j < 4 → ∃ v : Int, (#[Value.int .i64 N, .int .i64 D, .int .i64 ((n : Int) + 1), .int .i64 (2 * (n : Int))])[j]? = some (.int .i64 v)) := by
      refine Lib.hid fun j hj => ?_
      have h4 : j = 0 ∨ j = 1 ∨ j = 2 ∨ j = 3 := by omega
      rcases h4 with rfl | rfl | rfl | rfl <;> exact ⟨_, rfl⟩
    have HF := Lib.hid (HF3.out.up bA)
    have HG := Lib.hid hG
    clear hG bA HF3
    generalize hCS : #[Value.int .i64 N, .int .i64 D, .int .i64 ((n : Int) + 1), .int .i64 (2 * (n : Int))] = CS at *
    clear hCS
    generalize w3.heap.size = g at *
    generalize w3.alloc (.cells CS 3) = V0 at *
    obtain ⟨b, off, rfl, _, _⟩ := HF.out.D.2 (by rw [HLEN.out]; omega)
    obtain ⟨d, hdi⟩ : ∃ d, ds[i]? = some d := ⟨_, List.getElem?_eq_getElem (by rw [HLEN.out]; exact hin)⟩
    have hd32 : d.length = 32 := H32.out d (List.mem_of_getElem? hdi)
    have HR : Hid (∀ W, PF w (some ⟨b, off, none⟩) ds A2 ps W → W.rangeAt b (off + i * 32) (d.map bv)) := Lib.hid fun W hF => by
      obtain ⟨b', off', hA, _, hc⟩ := hF.D.2 (by rw [HLEN.out]; omega)
      injection hA with hA
      injection hA with hb1 ho1 _
      subst hb1 ho1
      exact hc i d hdi
    have HID := Lib.hid (dig_size (L := d.map bv) (by simp [hd32]))
    have HDZ : Hid (DF dz) := Lib.hid (by rw [show dz = dcells (List.replicate 32 0) from rfl]; exact DF.of rfl)
    have HOK : Hid (∀ (V : Nat), m = pl i V → i < V → V ≤ 1099511627776 → ∃ CX, DF CX ∧ ∀ W, PF w (some ⟨b, off, none⟩) ds A2 ps W → Calls Tryd.prog 22 #[.agg (d.map bv).toArray, .int .i64 i, .int .i64 V, .slice A2 m c2] W fun e w' => e = .returned (.tuple #[.agg CX, .int .i64 0]) ∧ Below W.heap.size W w') := Lib.hid fun V h1 h2 h3 =>
      ⟨dcells (clr ps.reverse d i V), DF.of (clr_length _ _ _ _), fun W hF => climb_ok ps.reverse d i V m A2 c2 W (by rw [List.length_reverse]; exact HPL.out) h1 h2 h3 hF.K hd32 (by rw [List.reverse_reverse]; exact hF.P) HC2.out.1 (by omega)⟩
    have HNO : Hid (∀ (v : Int), (v ≤ (i : Int) ∨ 1099511627776 < v) → ∀ W, Calls Tryd.prog 22 #[.agg (d.map bv).toArray, .int .i64 i, .int .i64 v, .slice A2 m c2] W fun e w' => e = .returned (.tuple #[.agg dz, .int .i64 1]) ∧ Below W.heap.size W w') := Lib.hid fun v h W => by
      by_cases h1 : v < 1
      · exact climb_no_a i v h1 A2 m c2 d hd32 W
      · by_cases h2 : 1099511627776 < v
        · exact climb_no_b i v h2 A2 m c2 d hd32 W
        · exact climb_no_d i v h1 h2 (by omega) (by omega) A2 m c2 d hd32 W
    have HNE : Hid (∀ (V : Nat), m ≠ pl i V → i < V → V ≤ 1099511627776 → ∀ W, Calls Tryd.prog 22 #[.agg (d.map bv).toArray, .int .i64 i, .int .i64 V, .slice A2 m c2] W fun e w' => e = .returned (.tuple #[.agg dz, .int .i64 1]) ∧ Below W.heap.size W w') := Lib.hid fun V h1 h2 h3 W => climb_no_e i V h2 h3 A2 m c2 h1 d hd32 W
    have hil : (i : Int) < (n : Int) := by omega
    clear hdi hd32 HK HPL HP32 HC2 HC
    generalize d.map bv = LD at *
    go_loopw [62] (fun i wr => ∃ j : Nat, j ≤ 4 ∧ i = .int .i64 j ∧ Below V0.heap.size V0 wr) (fun i _ => 4 - (intOf i).toNat)
    case atStart => exact ⟨0, by omega, rfl, Below.refl _ _⟩
    case round =>
      obtain ⟨j, hj, rfl, hbw⟩ := hrel
      have HB := Lib.hid hbw
      clear hbw
      by_cases hlt : j < 4
      · obtain ⟨v, hv⟩ := HL.out j hlt
        have cj := ((HG.out.below HB.out).cell j).trans hv
        have bj : (0 : Int) ≤ (j : Int) ∧ (j : Int) < 4 := by omega
        have HFW := Lib.hid (HF.out.up HB.out)
        clear hv HL HG
        by_cases hvi : (i : Int) < v
        · have k1 : decide ((i : Int) < v) = true := decide_eq_true hvi
          by_cases hvm : v ≤ 1099511627776
          · obtain ⟨V, rfl⟩ : ∃ V : Nat, v = (V : Int) := ⟨v.toNat, by omega⟩
            have k2 : decide ((V : Int) ≤ 1099511627776) = true := decide_eq_true hvm
            have k2' : decide (V ≤ 1099511627776) = true := decide_eq_true (by omega)
            have k1' : decide (i < V) = true := decide_eq_true (by omega)
            have HS := Lib.hid (fun w => HST2.out V w (by omega) (by omega))
            have HO1 := Lib.hid (fun h => HOK.out V h (by omega) (by omega))
            have HN1 := Lib.hid (fun h => HNE.out V h (by omega) (by omega))
            clear hvi hvm HST2 HOK HNO HNE
            generalize pl i V = q at *
            by_cases hmq : m = q
            · subst hmq
              obtain ⟨CX, hDX, hCL⟩ := HO1.out rfl
              have HDX := Lib.hid hDX
              have HCL := Lib.hid hCL
              clear HO1 HN1 hDX hCL
              go_wp2_with fail
              refine (HS.out _).mono ?_
              rintro e w5 ⟨rfl, rfl⟩
              clear HS cj
              have HRW := Lib.hid (HR.out _ HFW.out)
              go_wp2_with (first | (refine wpList_load_mid rfl 26 (.tmp 84) rfl b (off + i * 32) rfl LD _ HRW.out Tryd.underlying26 rfl HID.out ?_))
              refine (HCL.out _ HFW.out).mono ?_
              rintro e w6 ⟨rfl, hb6⟩
              have hbx := Box.new w6 dz 26
              have hb7 := HB.out.trans (hb6.mono HB.out.size)
              have hb8 := hb7.alloc hb7.size (.cells dz 26)
              have hb9 := hb8.trans (below_grown (setRow_grown _ w6.heap.size CX) hb7.size hb8.size)
              have HBX := Lib.hid hbx
              have HB9 := Lib.hid hb9
              clear hbx hb6 hb7 hb8 hb9 HCL HRW HFW HB HR
              go_wp2_with (first | (refine wpList_store_row rfl 26 (.tmp 13) (.tmp 90) rfl w6.heap.size CX rfl rfl 26 dz HBX.out HDX.out.info HDX.out.size HDX.out.one ?_))
              go_roundw
              case rel => exact ⟨j + 1, by omega, by go_num, HB9.out⟩
              case measure => simp [intOf]; omega
            · have HCL := Lib.hid (fun W (_ : PF w (some ⟨b, off, none⟩) ds A2 ps W) => HN1.out hmq W)
              have HDX := HDZ
              have e1 : ((q : Int) == (m : Int)) = false := by simp; omega
              have e2 : ¬ q = m := fun h => hmq h.symm
              clear HO1 HN1 hmq
              go_wp2_with fail
              refine (HS.out _).mono ?_
              rintro e w5 ⟨rfl, rfl⟩
              clear HS cj
              have HRW := Lib.hid (HR.out _ HFW.out)
              go_wp2_with (first | (refine wpList_load_mid rfl 26 (.tmp 84) rfl b (off + i * 32) rfl LD _ HRW.out Tryd.underlying26 rfl HID.out ?_))
              refine (HCL.out _ HFW.out).mono ?_
              rintro e w6 ⟨rfl, hb6⟩
              have hbx := Box.new w6 dz 26
              have hb7 := HB.out.trans (hb6.mono HB.out.size)
              have hb8 := hb7.alloc hb7.size (.cells dz 26)
              have hb9 := hb8.trans (below_grown (setRow_grown _ w6.heap.size dz) hb7.size hb8.size)
              have HBX := Lib.hid hbx
              have HB9 := Lib.hid hb9
              clear hbx hb6 hb7 hb8 hb9 HCL HRW HFW HB HR
              go_wp2_with (first | (refine wpList_store_row rfl 26 (.tmp 13) (.tmp 90) rfl w6.heap.size dz rfl rfl 26 dz HBX.out HDX.out.info HDX.out.size HDX.out.one ?_))
              go_roundw
              case rel => exact ⟨j + 1, by omega, by go_num, HB9.out⟩
              case measure => simp [intOf]; omega
          · have k2 : decide (v ≤ 1099511627776) = false := decide_eq_false hvm
            have HCL := Lib.hid (fun W (_ : PF w (some ⟨b, off, none⟩) ds A2 ps W) => HNO.out v (.inr (by omega)) W)
            have HDX := HDZ
            clear HST2 HOK HNO HNE hvm hvi
            have HRW := Lib.hid (HR.out _ HFW.out)
            go_wp2_with (first | (refine wpList_load_mid rfl 26 (.tmp 84) rfl b (off + i * 32) rfl LD _ HRW.out Tryd.underlying26 rfl HID.out ?_))
            refine (HCL.out _ HFW.out).mono ?_
            rintro e w6 ⟨rfl, hb6⟩
            have hbx := Box.new w6 dz 26
            have hb7 := HB.out.trans (hb6.mono HB.out.size)
            have hb8 := hb7.alloc hb7.size (.cells dz 26)
            have hb9 := hb8.trans (below_grown (setRow_grown _ w6.heap.size dz) hb7.size hb8.size)
            have HBX := Lib.hid hbx
            have HB9 := Lib.hid hb9
            clear cj hbx hb6 hb7 hb8 hb9 HCL HRW HFW HB HR
            go_wp2_with (first | (refine wpList_store_row rfl 26 (.tmp 13) (.tmp 90) rfl w6.heap.size dz rfl rfl 26 dz HBX.out HDX.out.info HDX.out.size HDX.out.one ?_))
            go_roundw
            case rel => exact ⟨j + 1, by omega, by go_num, HB9.out⟩
            case measure => simp [intOf]; omega
        · have k1 : decide ((i : Int) < v) = false := decide_eq_false hvi
          have HCL := Lib.hid (fun W (_ : PF w (some ⟨b, off, none⟩) ds A2 ps W) => HNO.out v (.inl (by omega)) W)
          have HDX := HDZ
          clear HST2 HOK HNO HNE hvi
          have HRW := Lib.hid (HR.out _ HFW.out)
          go_wp2_with (first | (refine wpList_load_mid rfl 26 (.tmp 84) rfl b (off + i * 32) rfl LD _ HRW.out Tryd.underlying26 rfl HID.out ?_))
          refine (HCL.out _ HFW.out).mono ?_
          rintro e w6 ⟨rfl, hb6⟩
          have hbx := Box.new w6 dz 26
          have hb7 := HB.out.trans (hb6.mono HB.out.size)
          have hb8 := hb7.alloc hb7.size (.cells dz 26)
          have hb9 := hb8.trans (below_grown (setRow_grown _ w6.heap.size dz) hb7.size hb8.size)
          have HBX := Lib.hid hbx
          have HB9 := Lib.hid hb9
          clear cj hbx hb6 hb7 hb8 hb9 HCL HRW HFW HB HR
          go_wp2_with (first | (refine wpList_store_row rfl 26 (.tmp 13) (.tmp 90) rfl w6.heap.size dz rfl rfl 26 dz HBX.out HDX.out.info HDX.out.size HDX.out.one ?_))
          go_roundw
          case rel => exact ⟨j + 1, by omega, by go_num, HB9.out⟩
          case measure => simp [intOf]; omega
      · obtain rfl : j = 4 := by omega
        have hb := (HF.out.up HB.out).B
        go_wp2_with fail
        go_ret
        exact ⟨rfl, hb⟩
end Go.Proofs.YtnmlfdmlcpgaaaaDoor
