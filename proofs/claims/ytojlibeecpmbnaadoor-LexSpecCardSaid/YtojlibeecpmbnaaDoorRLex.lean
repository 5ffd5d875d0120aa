/- The reference's Lex. -/
import Derived.Test.YtojlibeecpmbnaaDoorRLP
namespace Go.Proofs.YtojlibeecpmbnaaDoor
open Go.RowKit Go.Shelf
set_option linter.unusedVariables false
set_option linter.unusedSimpArgs false
attribute [local go_sem] bs_e

set_option maxHeartbeats 2000000 in
set_option maxRecDepth 100000 in
theorem rlex_long (src : List UInt8) (w : World) (h : 65536 < src.length) (hl : src.length ≤ 9223372036854775807) :
    Calls Tryd.prog 13 #[.string (bs src)] w (LexP (lxo src) w) := by
  rw [show lxo src = ([], 0, 2) from if_pos h]
  have hlen : ∀ wx, (Builtin.len_ #[9] 3 #[.string (bs src)]).run Tryd.prog wx = .ok (.int .i64 (src.length : Int)) wx := fun wx => by rw [bs_len src _ _ Tryd.underlying9]
  obtain ⟨L, hL⟩ : ∃ L, src.length = L := ⟨_, rfl⟩
  rw [hL] at hlen h hl
  have hd : decide ((65536 : Int) < (L : Int)) = true := decide_eq_true (by omega)
  have hd2 : (65536 : Int) < (L : Int) := by omega
  go_enter Tryd.func13, Tryd.ntmps13
  go_wp2_with fail
  refine bodyPost_ret (results_tmp3 Tryd.results13 _ _ _) rfl ?_
  exact LexP.none (j := 0) (Below.refl _ _)

set_option maxHeartbeats 8000000 in
set_option maxRecDepth 100000 in
theorem rlex_short (src : List UInt8) (w : World) (h : src.length ≤ 65536) :
    Calls Tryd.prog 13 #[.string (bs src)] w (LexP (lxo src) w) := by
  have HLE := Lib.hid h
  have hlen : ∀ wx, (Builtin.len_ #[9] 3 #[.string (bs src)]).run Tryd.prog wx = .ok (.int .i64 (src.length : Int)) wx := fun wx => by rw [bs_len src _ _ Tryd.underlying9]
  obtain ⟨L, hL⟩ : ∃ L, src.length = L := ⟨_, rfl⟩
  rw [hL] at hlen h
  have HL := Lib.hid hL
  clear hL
  have hd : decide ((65536 : Int) < (L : Int)) = false := decide_eq_false (by omega)
  have hd2 : ¬ (65536 : Int) < (L : Int) := by omega
  obtain ⟨B, hBB⟩ : ∃ B, w.heap.size = B := ⟨_, rfl⟩
  have hal := (Below.refl w.heap.size w).alloc (Nat.le_refl _) (.cells #[] 35)
  have HE0 := Lib.hid (show (w.alloc (.cells #[] 35)).ownsRow B 35 4 (.slice (some ⟨w.heap.size, 0, none⟩) 0 0) 0 [] from World.ownsRow_lit w #[] 0 (by omega) (by unfold maxLen; omega) rfl)
  have HBE := Lib.hid (show Below B w (w.alloc (.cells #[] 35)) from hBB ▸ hal)
  have HBZ := Lib.hid hBB
  clear hal hBB
  go_enter Tryd.func13, Tryd.ntmps13
  go_wp2_with fail
  go_loopw [5, 6] (fun v i wr => ∃ (j : Nat) (out : List Tk) (A : Option Addr) (c : Nat), j ≤ L ∧ i = .int .i64 (j : Int) ∧ v = .slice A out.length c ∧ wr.ownsRow B 35 4 (.slice A out.length c) out.length (tkcs out) ∧ out.length ≤ j ∧ (lxr src j).pre out = lex src ∧ Below B w wr) (fun _ i _ => L - (intOf i).toNat)
  case atStart => exact ⟨0, [], _, 0, Nat.zero_le _, rfl, rfl, HE0.out, Nat.le_refl _, by rw [lxr_zero, Rs.pre_nil], HBE.out⟩
  case round =>
    obtain ⟨j, out, A5, c5, hj, rfl, rfl, how, hol, hx, hb⟩ := hrel
    have HO := Lib.hid how
    have HOL := Lib.hid (show out.length ≤ 65536 ∧ out.length ≤ j from ⟨by omega, hol⟩)
    have HX := Lib.hid hx
    have HB := Lib.hid hb
    clear how hol hx hb HE0 HBE
    by_cases hlt : j < L
    case neg =>
      have hdj : decide ((j : Int) < (L : Int)) = false := decide_eq_false (by omega)
      have HE := Lib.hid (go_end HLE.out (by have := HL.out; omega) HX.out)
      go_wp2_with fail
      refine bodyPost_ret (results_tmp3 Tryd.results13 _ _ _) rfl ?_
      rw [HE.out]
      exact ⟨A5, c5, rfl, (TT.of_own HO.out).2, HBZ.out ▸ HB.out⟩
    have hdj : decide ((j : Int) < (L : Int)) = true := decide_eq_true (by omega)
    obtain ⟨c, hc⟩ : ∃ c, src[j]? = some c := ⟨_, List.getElem?_eq_getElem (by rw [HL.out]; exact hlt)⟩
    have hix : ∀ wx, (Instr.index 9 (.string (bs src)) (.int .i64 (j : Int))).run Tryd.prog wx = .ok (bv c) wx := fun wx => bs_idx hc _ Tryd.underlying9 wx
    have HC := Lib.hid hc
    clear hc
    have HSP := Lib.hid (rSpace_any c wr)
    cases hsp : isSp c with
    | true =>
      rw [hsp] at HSP
      have HST := Lib.hid (st_sp HC.out hsp)
      have HX7 := Lib.hid (go_skip (by have := HL.out; omega) HST.out HX.out)
      clear hsp
      go_wp2_with fail
      refine (HSP.out).mono ?_
      rintro e w2 ⟨rfl, hw⟩
      obtain rfl := hw.symm
      go_wp2_with fail
      go_roundw
      case rel => exact ⟨j + 1, out, A5, c5, by omega, by go_num, by rfl, HO.out, by have := HOL.out; omega, HX7.out, HB.out⟩
      case measure => simp [intOf]; omega
    | false =>
    rw [hsp] at HSP
    have HIS := Lib.hid hsp
    clear hsp
    have HCV := Lib.hid (show bv c = .int .u8 (c.toNat : Int) from rfl)
    have hixn := hix
    unfold bv at hixn
    obtain ⟨n0, hn0⟩ : ∃ n, c.toNat = n := ⟨_, rfl⟩
    rw [hn0] at hixn
    have HN0 := Lib.hid hn0
    have hbv : bv c = .int .u8 (n0 : Int) := by unfold bv; rw [hn0]
    rw [hbv] at hix HSP
    have HLE1 := Lib.hid (show ∀ wx, Calls Tryd.prog 26 #[.int .u8 (n0 : Int)] wx (QBool (isL c) wx) from fun wx => hbv ▸ rLetter_any c wx)
    have HDI1 := Lib.hid (show ∀ wx, Calls Tryd.prog 28 #[.int .u8 (n0 : Int)] wx (QBool (isD c) wx) from fun wx => hbv ▸ rFigure_any c wx)
    have HSG1 := Lib.hid (show ∀ wx, Calls Tryd.prog 30 #[.int .u8 (n0 : Int)] wx (QBool (isSg c) wx) from fun wx => hbv ▸ rSign_any c wx)
    clear hixn hn0 hbv HCV
    go_wp2_with fail
    refine (HSP.out).mono ?_
    rintro e w2 ⟨rfl, hw⟩
    obtain rfl := hw.symm
    by_cases h47 : n0 = 47
    case neg =>
      have hq1 : ((n0 : Int) == 47) = false := by rw [beq_eq_false_iff_ne]; omega
      have hq3 : ¬ (n0 : Int) = 47 := by omega
      have HNC := Lib.hid (show ¬ (c = 47 ∧ src[j + 1]? = some 47) from fun h => h47 (by rw [← HN0.out, h.1]; rfl))
      have HLT := Lib.hid (HLE1.out wr)
      have HDI := Lib.hid (HDI1.out wr)
      have HSG := Lib.hid (HSG1.out wr)
      clear HLE1 HDI1 HSG1
      cases hil : isL c with
      | true =>
        rw [hil] at HLT
        have HIL := Lib.hid hil
        clear hil
        go_wp2_with fail
        refine (HLT.out).mono ?_
        rintro e w2 ⟨rfl, hw⟩
        obtain rfl := hw.symm
        clear HLT HDI HSG HSP hix
        go_wp2_with fail
        obtain ⟨WL, rfl⟩ : ∃ WL, WL = wr := ⟨_, rfl⟩
        go_loopw [6] (fun i wr => ∃ k : Nat, j ≤ k ∧ k ≤ L ∧ i = .int .i64 (k : Int) ∧ (∀ (m : Nat) c, j ≤ m → m < k → src[m]? = some c → isP c = true) ∧ WL = wr) (fun i _ => L - (intOf i).toNat)
        case atStart => exact ⟨j, Nat.le_refl _, by omega, rfl, fun m c h1 h2 => absurd h2 (by omega), rfl⟩
        case round =>
          obtain ⟨k, hjk, hkL, rfl, hin, hwr⟩ := hrel
          subst hwr
          have HIN := Lib.hid hin
          clear hin
          obtain ⟨wr, rfl⟩ : ∃ wr, wr = WL := ⟨_, rfl⟩
          by_cases hlk : k < L
          case neg =>
            have hdk : decide ((k : Int) < (L : Int)) = false := decide_eq_false (by omega)
            have HEX := Lib.hid (show ∀ c, src[k]? = some c → isP c = false from fun c hc => by
              have h1 := (List.getElem?_eq_some_iff.1 hc).1
              have h2 := HL.out
              omega)
            have HTW := Lib.hid (tw_mid (p := isP) (s := src) (i := j) (k := k) hjk (by have := HL.out; omega) HIN.out HEX.out)
            have HML := Lib.hid (mid_len (s := src) hjk (by have := HL.out; omega))
            have HST := Lib.hid (st_let HC.out HIL.out)
            have HMI := Lib.hid (fun (wx : World) => bs_mid (l := src) hjk (by have := HL.out; omega) 9 Tryd.underlying9 wx)
            have hmi := HMI.out
            obtain ⟨T, hT⟩ : ∃ T, (src.drop j).take (k - j) = T := ⟨_, rfl⟩
            rw [hT] at hmi HTW HML
            rw [HTW.out, HML.out] at HST
            have HNM := Lib.hid (rName_any T wr (by rw [HML.out]; omega))
            cases hnm : nm T with
            | false =>
              rw [hnm] at HNM HST
              have HST := Lib.hid (show st (src.drop j) = .bad from HST.out)
              clear hnm hT
              go_wp2_with fail
              refine (HNM.out).mono ?_
              rintro e w2 ⟨rfl, hw⟩
              obtain rfl := hw.symm
              have HE := Lib.hid (go_bad HLE.out (by have := HL.out; omega) HST.out HX.out)
              clear hlt
              go_wp2_with fail
              refine bodyPost_ret (results_tmp3 Tryd.results13 _ _ _) rfl ?_
              rw [HE.out]
              exact LexP.none (HBZ.out ▸ HB.out)
            | true =>
              rw [hnm] at HNM HST
              have HST := Lib.hid (show st (src.drop j) = .tok 1 T 0 (k - j) from HST.out)
              have HX7 := Lib.hid (show (lxr src k).pre (out ++ [⟨1, T, 0, j⟩]) = lex src from by have := go_tok (by have := HL.out; omega) HST.out HX.out; rwa [show j + (k - j) = k by omega] at this)
              have hjk2 : j < k := by have := lxr_tok (by have := HL.out; omega) HST.out; omega
              clear hnm hT
              go_wp2_with fail
              refine (HNM.out).mono ?_
              rintro e w2 ⟨rfl, hw⟩
              obtain rfl := hw.symm
              have ha := (Below.refl wr.heap.size wr).alloc (Nat.le_refl _) (.cells #[.int .i64 1, .string (bs T), .int .i64 0, .int .i64 (j : Int)] 35)
              have HO6 := Lib.hid (own_below HO.out ha)
              have HTB := Lib.hid (TT.of_box (l := [⟨1, T, 0, (j : Int)⟩]) (Box.new wr #[.int .i64 1, .string (bs T), .int .i64 0, .int .i64 (j : Int)] 35) (by simp))
              have HB6 := Lib.hid (HB.out.trans (ha.mono (show B ≤ wr.heap.size by have h1 := HB.out.size; have h2 := HBZ.out; omega)))
              clear ha
              go_wp2_with (refine wpList_append_tks rfl (.tmp 78) (.tmp 85) rfl _ out.length _ rfl HO6.out (some ⟨wr.heap.size, 0, none⟩) [⟨1, T, 0, (j : Int)⟩] 1 1 rfl rfl HTB.out (by have := HOL.out; omega) (by have h1 := HB6.out.size; have h2 := HBZ.out; omega) ?_; intro A7 c7 w7 ho7 hg7; have HO7 := Lib.hid ho7; have HB7 := Lib.hid (HB6.out.trans (own_grown HO6.out hg7 (by have h1 := HB6.out.size; have h2 := HBZ.out; omega))); clear ho7 hg7)
              go_roundw
              case rel => exact ⟨k, out ++ [⟨1, T, 0, (j : Int)⟩], A7, c7, by omega, by go_num, by rw [List.length_append]; rfl, by rw [List.length_append, show ∀ x y : List Tk, tkcs (x ++ y) = tkcs x ++ tkcs y from fun x y => by simp [tkcs]]; exact HO7.out, by rw [List.length_append]; have := HOL.out; simp; omega, HX7.out, HB7.out⟩
              case measure => simp [intOf]; omega

          have hdk : decide ((k : Int) < (L : Int)) = true := decide_eq_true (by omega)
          obtain ⟨ck, hck⟩ : ∃ c, src[k]? = some c := ⟨_, List.getElem?_eq_getElem (by rw [HL.out]; exact hlk)⟩
          have hik : ∀ wx, (Instr.index 9 (.string (bs src)) (.int .i64 (k : Int))).run Tryd.prog wx = .ok (bv ck) wx := fun wx => bs_idx hck _ Tryd.underlying9 wx
          have HCK := Lib.hid hck
          clear hck
          cases hp : isP ck with
          | false =>
            have HPK := Lib.hid (rpart_any ck wr)
            rw [hp] at HPK
            have HPF := Lib.hid hp
            clear hp
            have HEX := Lib.hid (show ∀ c, src[k]? = some c → isP c = false from fun c hc => by rw [show c = ck from Option.some.inj (hc.symm.trans HCK.out)]; exact HPF.out)
            go_wp2_with fail
            refine (HPK.out).mono ?_
            rintro e w2 ⟨rfl, hw⟩
            obtain rfl := hw.symm
            have HTW := Lib.hid (tw_mid (p := isP) (s := src) (i := j) (k := k) hjk (by have := HL.out; omega) HIN.out HEX.out)
            have HML := Lib.hid (mid_len (s := src) hjk (by have := HL.out; omega))
            have HST := Lib.hid (st_let HC.out HIL.out)
            have HMI := Lib.hid (fun (wx : World) => bs_mid (l := src) hjk (by have := HL.out; omega) 9 Tryd.underlying9 wx)
            have hmi := HMI.out
            obtain ⟨T, hT⟩ : ∃ T, (src.drop j).take (k - j) = T := ⟨_, rfl⟩
            rw [hT] at hmi HTW HML
            rw [HTW.out, HML.out] at HST
            have HNM := Lib.hid (rName_any T wr (by rw [HML.out]; omega))
            cases hnm : nm T with
            | false =>
              rw [hnm] at HNM HST
              have HST := Lib.hid (show st (src.drop j) = .bad from HST.out)
              clear hnm hT
              go_wp2_with fail
              refine (HNM.out).mono ?_
              rintro e w2 ⟨rfl, hw⟩
              obtain rfl := hw.symm
              have HE := Lib.hid (go_bad HLE.out (by have := HL.out; omega) HST.out HX.out)
              clear hlt
              go_wp2_with fail
              refine bodyPost_ret (results_tmp3 Tryd.results13 _ _ _) rfl ?_
              rw [HE.out]
              exact LexP.none (HBZ.out ▸ HB.out)
            | true =>
              rw [hnm] at HNM HST
              have HST := Lib.hid (show st (src.drop j) = .tok 1 T 0 (k - j) from HST.out)
              have HX7 := Lib.hid (show (lxr src k).pre (out ++ [⟨1, T, 0, j⟩]) = lex src from by have := go_tok (by have := HL.out; omega) HST.out HX.out; rwa [show j + (k - j) = k by omega] at this)
              have hjk2 : j < k := by have := lxr_tok (by have := HL.out; omega) HST.out; omega
              clear hnm hT
              go_wp2_with fail
              refine (HNM.out).mono ?_
              rintro e w2 ⟨rfl, hw⟩
              obtain rfl := hw.symm
              have ha := (Below.refl wr.heap.size wr).alloc (Nat.le_refl _) (.cells #[.int .i64 1, .string (bs T), .int .i64 0, .int .i64 (j : Int)] 35)
              have HO6 := Lib.hid (own_below HO.out ha)
              have HTB := Lib.hid (TT.of_box (l := [⟨1, T, 0, (j : Int)⟩]) (Box.new wr #[.int .i64 1, .string (bs T), .int .i64 0, .int .i64 (j : Int)] 35) (by simp))
              have HB6 := Lib.hid (HB.out.trans (ha.mono (show B ≤ wr.heap.size by have h1 := HB.out.size; have h2 := HBZ.out; omega)))
              clear ha
              go_wp2_with (refine wpList_append_tks rfl (.tmp 78) (.tmp 85) rfl _ out.length _ rfl HO6.out (some ⟨wr.heap.size, 0, none⟩) [⟨1, T, 0, (j : Int)⟩] 1 1 rfl rfl HTB.out (by have := HOL.out; omega) (by have h1 := HB6.out.size; have h2 := HBZ.out; omega) ?_; intro A7 c7 w7 ho7 hg7; have HO7 := Lib.hid ho7; have HB7 := Lib.hid (HB6.out.trans (own_grown HO6.out hg7 (by have h1 := HB6.out.size; have h2 := HBZ.out; omega))); clear ho7 hg7)
              go_roundw
              case rel => exact ⟨k, out ++ [⟨1, T, 0, (j : Int)⟩], A7, c7, by omega, by go_num, by rw [List.length_append]; rfl, by rw [List.length_append, show ∀ x y : List Tk, tkcs (x ++ y) = tkcs x ++ tkcs y from fun x y => by simp [tkcs]]; exact HO7.out, by rw [List.length_append]; have := HOL.out; simp; omega, HX7.out, HB7.out⟩
              case measure => simp [intOf]; omega
          | true =>
            have HPK := Lib.hid (rpart_any ck wr)
            rw [hp] at HPK
            have HPF := Lib.hid hp
            clear hp
            go_wp2_with fail
            refine (HPK.out).mono ?_
            rintro e w2 ⟨rfl, hw⟩
            obtain rfl := hw.symm
            go_wp2_with fail
            go_roundw
            case rel => exact ⟨k + 1, by omega, by omega, by go_num, fun m c h1 h2 hc => by
              rcases Nat.lt_or_ge m k with h | h
              · exact HIN.out m c h1 h hc
              · obtain rfl : m = k := by omega
                rw [show c = ck from Option.some.inj (hc.symm.trans HCK.out)]
                exact HPF.out, trivial⟩
            case measure => simp [intOf]; omega
      | false =>
      rw [hil] at HLT
      have HIL := Lib.hid hil
      clear hil
      go_wp2_with fail
      refine (HLT.out).mono ?_
      rintro e w2 ⟨rfl, hw⟩
      obtain rfl := hw.symm
      cases hid : isD c with
      | true =>
        rw [hid] at HDI
        have HID := Lib.hid hid
        clear hid
        go_wp2_with fail
        refine (HDI.out).mono ?_
        rintro e w2 ⟨rfl, hw⟩
        obtain rfl := hw.symm
        clear HLT HDI HSG HSP hix
        go_wp2_with fail
        obtain ⟨WL, rfl⟩ : ∃ WL, WL = wr := ⟨_, rfl⟩
        go_loopw [6] (fun i wr => ∃ k : Nat, j ≤ k ∧ k ≤ L ∧ i = .int .i64 (k : Int) ∧ (∀ (m : Nat) c, j ≤ m → m < k → src[m]? = some c → isD c = true) ∧ WL = wr) (fun i _ => L - (intOf i).toNat)
        case atStart => exact ⟨j, Nat.le_refl _, by omega, rfl, fun m c h1 h2 => absurd h2 (by omega), rfl⟩
        case round =>
          obtain ⟨k, hjk, hkL, rfl, hin, hwr⟩ := hrel
          subst hwr
          have HIN := Lib.hid hin
          clear hin
          obtain ⟨wr, rfl⟩ : ∃ wr, wr = WL := ⟨_, rfl⟩
          by_cases hlk : k < L
          case neg =>
            have hdk : decide ((k : Int) < (L : Int)) = false := decide_eq_false (by omega)
            have HEX := Lib.hid (show ∀ c, src[k]? = some c → isD c = false from fun c hc => by
              have h1 := (List.getElem?_eq_some_iff.1 hc).1
              have h2 := HL.out
              omega)
            have HTW := Lib.hid (tw_mid (p := isD) (s := src) (i := j) (k := k) hjk (by have := HL.out; omega) HIN.out HEX.out)
            have HML := Lib.hid (mid_len (s := src) hjk (by have := HL.out; omega))
            have HST := Lib.hid (st_dig HC.out HID.out)
            have HMI := Lib.hid (fun (wx : World) => bs_mid (l := src) hjk (by have := HL.out; omega) 9 Tryd.underlying9 wx)
            have hmi := HMI.out
            have HPO := Lib.hid (show 0 < k - j from by
              rcases Nat.lt_or_ge j k with h | h
              · omega
              · obtain rfl : j = k := by omega
                have := HEX.out _ HC.out
                rw [HID.out] at this
                cases this)
            obtain ⟨T, hT⟩ : ∃ T, (src.drop j).take (k - j) = T := ⟨_, rfl⟩
            rw [hT] at hmi HTW HML
            rw [HTW.out, HML.out] at HST
            have HAD := Lib.hid (show T.all isD = true from by rw [← HTW.out]; exact List.all_takeWhile)
            have HNM := Lib.hid (rnumber_any T wr (by rw [HML.out]; omega) (by rw [HML.out]; exact HPO.out) HAD.out)
            unfold RNumP at HNM
            have hjk2 : j < k := by have := HPO.out; omega
            cases hnm : num T with
            | none =>
              rw [hnm] at HNM HST
              have HST := Lib.hid (show st (src.drop j) = .bad from HST.out)
              clear hnm hT
              go_wp2_with fail
              refine (HNM.out).mono ?_
              rintro e w2 ⟨z, rfl, hz, hb⟩
              have HB := Lib.hid (HB.out.trans (hb.mono (by have h1 := HB.out.size; have h2 := HBZ.out; omega)))
              clear hz hb
              have HE := Lib.hid (go_bad HLE.out (by have := HL.out; omega) HST.out HX.out)
              clear hlt
              go_wp2_with fail
              refine bodyPost_ret (results_tmp3 Tryd.results13 _ _ _) rfl ?_
              rw [HE.out]
              exact LexP.none (HBZ.out ▸ HB.out)
            | some n =>
              rw [hnm] at HNM HST
              have HST := Lib.hid (show st (src.drop j) = .tok 2 [] n (k - j) from HST.out)
              have HX7 := Lib.hid (show (lxr src k).pre (out ++ [⟨2, [], (n : Int), j⟩]) = lex src from by have := go_tok (by have := HL.out; omega) HST.out HX.out; rwa [show j + (k - j) = k by omega] at this)
              clear hnm hT
              go_wp2_with fail
              refine (HNM.out).mono ?_
              rintro e w2 ⟨z, rfl, hz, hb⟩
              obtain rfl : z = (n : Int) := hz n rfl
              have HO := Lib.hid (own_below HO.out hb)
              have HB := Lib.hid (HB.out.trans (hb.mono (by have h1 := HB.out.size; have h2 := HBZ.out; omega)))
              clear hz hb HNM
              have ha := (Below.refl w2.heap.size w2).alloc (Nat.le_refl _) (.cells #[.int .i64 2, .string ⟨#[]⟩, .int .i64 (n : Int), .int .i64 (j : Int)] 35)
              have HO6 := Lib.hid (own_below HO.out ha)
              have HTB := Lib.hid (TT.of_box (l := [⟨2, [], (n : Int), (j : Int)⟩]) (Box.new w2 #[.int .i64 2, .string ⟨#[]⟩, .int .i64 (n : Int), .int .i64 (j : Int)] 35) (by simp))
              have HB6 := Lib.hid (HB.out.trans (ha.mono (show B ≤ w2.heap.size by have h1 := HB.out.size; have h2 := HBZ.out; omega)))
              clear ha
              go_wp2_with (refine wpList_append_tks rfl (.tmp 114) (.tmp 118) rfl _ out.length _ rfl HO6.out (some ⟨w2.heap.size, 0, none⟩) [⟨2, [], (n : Int), (j : Int)⟩] 1 1 rfl rfl HTB.out (by have := HOL.out; omega) (by have h1 := HB6.out.size; have h2 := HBZ.out; omega) ?_; intro A7 c7 w7 ho7 hg7; have HO7 := Lib.hid ho7; have HB7 := Lib.hid (HB6.out.trans (own_grown HO6.out hg7 (by have h1 := HB6.out.size; have h2 := HBZ.out; omega))); clear ho7 hg7)
              go_roundw
              case rel => exact ⟨k, out ++ [⟨2, [], (n : Int), (j : Int)⟩], A7, c7, by omega, by go_num, by rw [List.length_append]; rfl, by rw [List.length_append, show ∀ x y : List Tk, tkcs (x ++ y) = tkcs x ++ tkcs y from fun x y => by simp [tkcs]]; exact HO7.out, by rw [List.length_append]; have := HOL.out; simp; omega, HX7.out, HB7.out⟩
              case measure => simp [intOf]; omega

          have hdk : decide ((k : Int) < (L : Int)) = true := decide_eq_true (by omega)
          obtain ⟨ck, hck⟩ : ∃ c, src[k]? = some c := ⟨_, List.getElem?_eq_getElem (by rw [HL.out]; exact hlk)⟩
          have hik : ∀ wx, (Instr.index 9 (.string (bs src)) (.int .i64 (k : Int))).run Tryd.prog wx = .ok (bv ck) wx := fun wx => bs_idx hck _ Tryd.underlying9 wx
          have HCK := Lib.hid hck
          clear hck
          cases hp : isD ck with
          | false =>
            have HPK := Lib.hid (rFigure_any ck wr)
            rw [hp] at HPK
            have HPF := Lib.hid hp
            clear hp
            have HEX := Lib.hid (show ∀ c, src[k]? = some c → isD c = false from fun c hc => by rw [show c = ck from Option.some.inj (hc.symm.trans HCK.out)]; exact HPF.out)
            go_wp2_with fail
            refine (HPK.out).mono ?_
            rintro e w2 ⟨rfl, hw⟩
            obtain rfl := hw.symm
            have HTW := Lib.hid (tw_mid (p := isD) (s := src) (i := j) (k := k) hjk (by have := HL.out; omega) HIN.out HEX.out)
            have HML := Lib.hid (mid_len (s := src) hjk (by have := HL.out; omega))
            have HST := Lib.hid (st_dig HC.out HID.out)
            have HMI := Lib.hid (fun (wx : World) => bs_mid (l := src) hjk (by have := HL.out; omega) 9 Tryd.underlying9 wx)
            have hmi := HMI.out
            have HPO := Lib.hid (show 0 < k - j from by
              rcases Nat.lt_or_ge j k with h | h
              · omega
              · obtain rfl : j = k := by omega
                have := HEX.out _ HC.out
                rw [HID.out] at this
                cases this)
            obtain ⟨T, hT⟩ : ∃ T, (src.drop j).take (k - j) = T := ⟨_, rfl⟩
            rw [hT] at hmi HTW HML
            rw [HTW.out, HML.out] at HST
            have HAD := Lib.hid (show T.all isD = true from by rw [← HTW.out]; exact List.all_takeWhile)
            have HNM := Lib.hid (rnumber_any T wr (by rw [HML.out]; omega) (by rw [HML.out]; exact HPO.out) HAD.out)
            unfold RNumP at HNM
            have hjk2 : j < k := by have := HPO.out; omega
            cases hnm : num T with
            | none =>
              rw [hnm] at HNM HST
              have HST := Lib.hid (show st (src.drop j) = .bad from HST.out)
              clear hnm hT
              go_wp2_with fail
              refine (HNM.out).mono ?_
              rintro e w2 ⟨z, rfl, hz, hb⟩
              have HB := Lib.hid (HB.out.trans (hb.mono (by have h1 := HB.out.size; have h2 := HBZ.out; omega)))
              clear hz hb
              have HE := Lib.hid (go_bad HLE.out (by have := HL.out; omega) HST.out HX.out)
              clear hlt
              go_wp2_with fail
              refine bodyPost_ret (results_tmp3 Tryd.results13 _ _ _) rfl ?_
              rw [HE.out]
              exact LexP.none (HBZ.out ▸ HB.out)
            | some n =>
              rw [hnm] at HNM HST
              have HST := Lib.hid (show st (src.drop j) = .tok 2 [] n (k - j) from HST.out)
              have HX7 := Lib.hid (show (lxr src k).pre (out ++ [⟨2, [], (n : Int), j⟩]) = lex src from by have := go_tok (by have := HL.out; omega) HST.out HX.out; rwa [show j + (k - j) = k by omega] at this)
              clear hnm hT
              go_wp2_with fail
              refine (HNM.out).mono ?_
              rintro e w2 ⟨z, rfl, hz, hb⟩
              obtain rfl : z = (n : Int) := hz n rfl
              have HO := Lib.hid (own_below HO.out hb)
              have HB := Lib.hid (HB.out.trans (hb.mono (by have h1 := HB.out.size; have h2 := HBZ.out; omega)))
              clear hz hb HNM
              have ha := (Below.refl w2.heap.size w2).alloc (Nat.le_refl _) (.cells #[.int .i64 2, .string ⟨#[]⟩, .int .i64 (n : Int), .int .i64 (j : Int)] 35)
              have HO6 := Lib.hid (own_below HO.out ha)
              have HTB := Lib.hid (TT.of_box (l := [⟨2, [], (n : Int), (j : Int)⟩]) (Box.new w2 #[.int .i64 2, .string ⟨#[]⟩, .int .i64 (n : Int), .int .i64 (j : Int)] 35) (by simp))
              have HB6 := Lib.hid (HB.out.trans (ha.mono (show B ≤ w2.heap.size by have h1 := HB.out.size; have h2 := HBZ.out; omega)))
              clear ha
              go_wp2_with (refine wpList_append_tks rfl (.tmp 114) (.tmp 118) rfl _ out.length _ rfl HO6.out (some ⟨w2.heap.size, 0, none⟩) [⟨2, [], (n : Int), (j : Int)⟩] 1 1 rfl rfl HTB.out (by have := HOL.out; omega) (by have h1 := HB6.out.size; have h2 := HBZ.out; omega) ?_; intro A7 c7 w7 ho7 hg7; have HO7 := Lib.hid ho7; have HB7 := Lib.hid (HB6.out.trans (own_grown HO6.out hg7 (by have h1 := HB6.out.size; have h2 := HBZ.out; omega))); clear ho7 hg7)
              go_roundw
              case rel => exact ⟨k, out ++ [⟨2, [], (n : Int), (j : Int)⟩], A7, c7, by omega, by go_num, by rw [List.length_append]; rfl, by rw [List.length_append, show ∀ x y : List Tk, tkcs (x ++ y) = tkcs x ++ tkcs y from fun x y => by simp [tkcs]]; exact HO7.out, by rw [List.length_append]; have := HOL.out; simp; omega, HX7.out, HB7.out⟩
              case measure => simp [intOf]; omega
          | true =>
            have HPK := Lib.hid (rFigure_any ck wr)
            rw [hp] at HPK
            have HPF := Lib.hid hp
            clear hp
            go_wp2_with fail
            refine (HPK.out).mono ?_
            rintro e w2 ⟨rfl, hw⟩
            obtain rfl := hw.symm
            go_wp2_with fail
            go_roundw
            case rel => exact ⟨k + 1, by omega, by omega, by go_num, fun m c h1 h2 hc => by
              rcases Nat.lt_or_ge m k with h | h
              · exact HIN.out m c h1 h hc
              · obtain rfl : m = k := by omega
                rw [show c = ck from Option.some.inj (hc.symm.trans HCK.out)]
                exact HPF.out, trivial⟩
            case measure => simp [intOf]; omega
      | false =>
      rw [hid] at HDI
      have HID := Lib.hid hid
      clear hid
      go_wp2_with fail
      refine (HDI.out).mono ?_
      rintro e w2 ⟨rfl, hw⟩
      obtain rfl := hw.symm
      cases hig : isSg c with
      | false =>
        rw [hig] at HSG
        have HST := Lib.hid (st_no HC.out HIS.out HIL.out HID.out hig)
        clear hig
        go_wp2_with fail
        refine (HSG.out).mono ?_
        rintro e w2 ⟨rfl, hw⟩
        obtain rfl := hw.symm
        have HE := Lib.hid (go_bad HLE.out (by have := HL.out; omega) HST.out HX.out)
        clear hlt
        go_wp2_with fail
        refine bodyPost_ret (results_tmp3 Tryd.results13 _ _ _) rfl ?_
        rw [HE.out]
        exact LexP.none (HBZ.out ▸ HB.out)
      | true =>
        rw [hig] at HSG
        have HIG := Lib.hid hig
        clear hig
        have HST := Lib.hid (st_sig HC.out HIG.out HNC.out)
        have HX7 := Lib.hid (go_tok (by have := HL.out; omega) HST.out HX.out)
        have HMI := Lib.hid (fun (wx : World) => bs_mid (l := src) (i := j) (j := j + 1) (Nat.le_succ _) (by have := HL.out; omega) 9 Tryd.underlying9 wx)
        rw [show j + 1 - j = 1 by omega] at HMI
        have hmi := HMI.out
        obtain ⟨T, hT⟩ : ∃ T, (src.drop j).take 1 = T := ⟨_, rfl⟩
        rw [hT] at hmi HX7
        clear hT
        have hj1 : (((j + 1 : Nat)) : Int) = (j : Int) + 1 := by omega
        rw [hj1] at hmi
        go_wp2_with fail
        refine (HSG.out).mono ?_
        rintro e w2 ⟨rfl, hw⟩
        obtain rfl := hw.symm

        have ha := (Below.refl wr.heap.size wr).alloc (Nat.le_refl _) (.cells #[.int .i64 3, .string (bs T), .int .i64 0, .int .i64 (j : Int)] 35)
        have HO6 := Lib.hid (own_below HO.out ha)
        have HTB := Lib.hid (TT.of_box (l := [⟨3, T, 0, (j : Int)⟩]) (Box.new wr #[.int .i64 3, .string (bs T), .int .i64 0, .int .i64 (j : Int)] 35) (by simp))
        have HB6 := Lib.hid (HB.out.trans (ha.mono (show B ≤ wr.heap.size by have h1 := HB.out.size; have h2 := HBZ.out; omega)))
        clear ha
        go_wp2_with (refine wpList_append_tks rfl (.tmp 128) (.tmp 135) rfl _ out.length _ rfl HO6.out (some ⟨wr.heap.size, 0, none⟩) [⟨3, T, 0, (j : Int)⟩] 1 1 rfl rfl HTB.out (by have := HOL.out; omega) (by have h1 := HB6.out.size; have h2 := HBZ.out; omega) ?_; intro A7 c7 w7 ho7 hg7; have HO7 := Lib.hid ho7; have HB7 := Lib.hid (HB6.out.trans (own_grown HO6.out hg7 (by have h1 := HB6.out.size; have h2 := HBZ.out; omega))); clear ho7 hg7)
        go_roundw
        case rel => exact ⟨j + 1, out ++ [⟨3, T, 0, (j : Int)⟩], A7, c7, by omega, by go_num, by rw [List.length_append]; rfl, by rw [List.length_append, show ∀ x y : List Tk, tkcs (x ++ y) = tkcs x ++ tkcs y from fun x y => by simp [tkcs]]; exact HO7.out, by rw [List.length_append]; have := HOL.out; simp; omega, HX7.out, HB7.out⟩
        case measure => simp [intOf]; omega
    subst h47
    have HCO7 := Lib.hid (show c = 47 from by rw [← UInt8.ofNat_toNat (x := c), HN0.out]; rfl)
    obtain ⟨_, hil, hid, hig⟩ := no_dig HN0.out
    have HIG := Lib.hid hig
    have HLT := Lib.hid (HLE1.out wr)
    have HDI := Lib.hid (HDI1.out wr)
    have HSG := Lib.hid (HSG1.out wr)
    rw [hil] at HLT
    rw [hid] at HDI
    rw [hig] at HSG
    clear HLE1 HDI1 HSG1 hil hid hig
    by_cases hlt2 : j + 1 < L
    case neg =>
      have hd3 : decide ((j : Int) + 1 < (L : Int)) = false := decide_eq_false (by omega)
      have HNC := Lib.hid (show ¬ (c = 47 ∧ src[j + 1]? = some 47) from fun h => by
        have h1 := (List.getElem?_eq_some_iff.1 h.2).1
        have h2 := HL.out
        omega)
      go_wp2_with fail
      refine (HLT.out).mono ?_
      rintro e w2 ⟨rfl, hw⟩
      obtain rfl := hw.symm
      go_wp2_with fail
      refine (HDI.out).mono ?_
      rintro e w2 ⟨rfl, hw⟩
      obtain rfl := hw.symm

      have HST := Lib.hid (st_sig HC.out HIG.out HNC.out)
      have HX7 := Lib.hid (go_tok (by have := HL.out; omega) HST.out HX.out)
      have HMI := Lib.hid (fun (wx : World) => bs_mid (l := src) (i := j) (j := j + 1) (Nat.le_succ _) (by have := HL.out; omega) 9 Tryd.underlying9 wx)
      rw [show j + 1 - j = 1 by omega] at HMI
      have hmi := HMI.out
      obtain ⟨T, hT⟩ : ∃ T, (src.drop j).take 1 = T := ⟨_, rfl⟩
      rw [hT] at hmi HX7
      clear hT
      have hj1 : (((j + 1 : Nat)) : Int) = (j : Int) + 1 := by omega
      rw [hj1] at hmi
      go_wp2_with fail
      refine (HSG.out).mono ?_
      rintro e w2 ⟨rfl, hw⟩
      obtain rfl := hw.symm

      have ha := (Below.refl wr.heap.size wr).alloc (Nat.le_refl _) (.cells #[.int .i64 3, .string (bs T), .int .i64 0, .int .i64 (j : Int)] 35)
      have HO6 := Lib.hid (own_below HO.out ha)
      have HTB := Lib.hid (TT.of_box (l := [⟨3, T, 0, (j : Int)⟩]) (Box.new wr #[.int .i64 3, .string (bs T), .int .i64 0, .int .i64 (j : Int)] 35) (by simp))
      have HB6 := Lib.hid (HB.out.trans (ha.mono (show B ≤ wr.heap.size by have h1 := HB.out.size; have h2 := HBZ.out; omega)))
      clear ha
      go_wp2_with (refine wpList_append_tks rfl (.tmp 128) (.tmp 135) rfl _ out.length _ rfl HO6.out (some ⟨wr.heap.size, 0, none⟩) [⟨3, T, 0, (j : Int)⟩] 1 1 rfl rfl HTB.out (by have := HOL.out; omega) (by have h1 := HB6.out.size; have h2 := HBZ.out; omega) ?_; intro A7 c7 w7 ho7 hg7; have HO7 := Lib.hid ho7; have HB7 := Lib.hid (HB6.out.trans (own_grown HO6.out hg7 (by have h1 := HB6.out.size; have h2 := HBZ.out; omega))); clear ho7 hg7)
      go_roundw
      case rel => exact ⟨j + 1, out ++ [⟨3, T, 0, (j : Int)⟩], A7, c7, by omega, by go_num, by rw [List.length_append]; rfl, by rw [List.length_append, show ∀ x y : List Tk, tkcs (x ++ y) = tkcs x ++ tkcs y from fun x y => by simp [tkcs]]; exact HO7.out, by rw [List.length_append]; have := HOL.out; simp; omega, HX7.out, HB7.out⟩
      case measure => simp [intOf]; omega
    have hd3 : decide ((j : Int) + 1 < (L : Int)) = true := decide_eq_true (by omega)
    obtain ⟨d, hd⟩ : ∃ c, src[j + 1]? = some c := ⟨_, List.getElem?_eq_getElem (by rw [HL.out]; exact hlt2)⟩
    have hiy : ∀ wx, (Instr.index 9 (.string (bs src)) (.int .i64 ((j : Int) + 1))).run Tryd.prog wx = .ok (bv d) wx := fun wx => by have := bs_idx hd 9 Tryd.underlying9 wx; rwa [show (((j + 1 : Nat)) : Int) = (j : Int) + 1 by omega] at this
    have HD := Lib.hid hd
    clear hd
    unfold bv at hiy
    obtain ⟨n1, hn1⟩ : ∃ n, d.toNat = n := ⟨_, rfl⟩
    rw [hn1] at hiy
    have HN1 := Lib.hid hn1
    clear hn1
    by_cases h48 : n1 = 47
    case neg =>
      have hq1 : ((n1 : Int) == 47) = false := by rw [beq_eq_false_iff_ne]; omega
      have hq3 : ¬ (n1 : Int) = 47 := by omega
      have HNC := Lib.hid (show ¬ (c = 47 ∧ src[j + 1]? = some 47) from fun h => h48 (by rw [← HN1.out, show d = 47 from Option.some.inj (HD.out.symm.trans h.2)]; rfl))
      go_wp2_with fail
      refine (HLT.out).mono ?_
      rintro e w2 ⟨rfl, hw⟩
      obtain rfl := hw.symm
      go_wp2_with fail
      refine (HDI.out).mono ?_
      rintro e w2 ⟨rfl, hw⟩
      obtain rfl := hw.symm

      have HST := Lib.hid (st_sig HC.out HIG.out HNC.out)
      have HX7 := Lib.hid (go_tok (by have := HL.out; omega) HST.out HX.out)
      have HMI := Lib.hid (fun (wx : World) => bs_mid (l := src) (i := j) (j := j + 1) (Nat.le_succ _) (by have := HL.out; omega) 9 Tryd.underlying9 wx)
      rw [show j + 1 - j = 1 by omega] at HMI
      have hmi := HMI.out
      obtain ⟨T, hT⟩ : ∃ T, (src.drop j).take 1 = T := ⟨_, rfl⟩
      rw [hT] at hmi HX7
      clear hT
      have hj1 : (((j + 1 : Nat)) : Int) = (j : Int) + 1 := by omega
      rw [hj1] at hmi
      go_wp2_with fail
      refine (HSG.out).mono ?_
      rintro e w2 ⟨rfl, hw⟩
      obtain rfl := hw.symm

      have ha := (Below.refl wr.heap.size wr).alloc (Nat.le_refl _) (.cells #[.int .i64 3, .string (bs T), .int .i64 0, .int .i64 (j : Int)] 35)
      have HO6 := Lib.hid (own_below HO.out ha)
      have HTB := Lib.hid (TT.of_box (l := [⟨3, T, 0, (j : Int)⟩]) (Box.new wr #[.int .i64 3, .string (bs T), .int .i64 0, .int .i64 (j : Int)] 35) (by simp))
      have HB6 := Lib.hid (HB.out.trans (ha.mono (show B ≤ wr.heap.size by have h1 := HB.out.size; have h2 := HBZ.out; omega)))
      clear ha
      go_wp2_with (refine wpList_append_tks rfl (.tmp 128) (.tmp 135) rfl _ out.length _ rfl HO6.out (some ⟨wr.heap.size, 0, none⟩) [⟨3, T, 0, (j : Int)⟩] 1 1 rfl rfl HTB.out (by have := HOL.out; omega) (by have h1 := HB6.out.size; have h2 := HBZ.out; omega) ?_; intro A7 c7 w7 ho7 hg7; have HO7 := Lib.hid ho7; have HB7 := Lib.hid (HB6.out.trans (own_grown HO6.out hg7 (by have h1 := HB6.out.size; have h2 := HBZ.out; omega))); clear ho7 hg7)
      go_roundw
      case rel => exact ⟨j + 1, out ++ [⟨3, T, 0, (j : Int)⟩], A7, c7, by omega, by go_num, by rw [List.length_append]; rfl, by rw [List.length_append, show ∀ x y : List Tk, tkcs (x ++ y) = tkcs x ++ tkcs y from fun x y => by simp [tkcs]]; exact HO7.out, by rw [List.length_append]; have := HOL.out; simp; omega, HX7.out, HB7.out⟩
      case measure => simp [intOf]; omega
    subst h48
    have HCO := Lib.hid (st_com (by rw [HC.out, HCO7.out]) (by rw [HD.out]; congr 1; rw [← UInt8.ofNat_toNat (x := d), HN1.out]; rfl))
    clear HLT HDI HSG HSP
    go_wp2_with fail
    obtain ⟨WL, rfl⟩ : ∃ WL, WL = wr := ⟨_, rfl⟩
    go_loopw [6] (fun i wr => ∃ k : Nat, j ≤ k ∧ k ≤ L ∧ i = .int .i64 (k : Int) ∧ (∀ (m : Nat) c, j ≤ m → m < k → src[m]? = some c → noLf c = true) ∧ WL = wr) (fun i _ => L - (intOf i).toNat)
    case atStart => exact ⟨j, Nat.le_refl _, by omega, rfl, fun m c h1 h2 => absurd h2 (by omega), rfl⟩
    case round =>
      obtain ⟨k, hjk, hkL, rfl, hin, hwr⟩ := hrel
      subst hwr
      have HIN := Lib.hid hin
      clear hin
      obtain ⟨wr, rfl⟩ : ∃ wr, wr = WL := ⟨_, rfl⟩
      by_cases hlk : k < L
      case neg =>
        have hdk : decide ((k : Int) < (L : Int)) = false := decide_eq_false (by omega)
        have HEX := Lib.hid (show ∀ c, src[k]? = some c → noLf c = false from fun c hc => by
          have h1 := (List.getElem?_eq_some_iff.1 hc).1
          have h2 := HL.out
          omega)
        have HTW := Lib.hid (tw_mid (p := noLf) (s := src) (i := j) (k := k) hjk (by have := HL.out; omega) HIN.out HEX.out)
        have HML := Lib.hid (mid_len (s := src) hjk (by have := HL.out; omega))
        have HST := Lib.hid (show st (src.drop j) = .skip (k - j) from by rw [← HML.out, ← HTW.out]; exact HCO.out)
        have HX7 := Lib.hid (show (lxr src k).pre out = lex src from by have := go_skip (by have := HL.out; omega) HST.out HX.out; rwa [show j + (k - j) = k by omega] at this)
        have hjk2 : j < k := by have := lxr_skip (by have := HL.out; omega) HST.out; omega
        go_wp2_with fail
        go_roundw
        case rel => exact ⟨k, out, A5, c5, by omega, by go_num, by rfl, HO.out, by have := HOL.out; omega, HX7.out, HB.out⟩
        case measure => simp [intOf]; omega

      have hdk : decide ((k : Int) < (L : Int)) = true := decide_eq_true (by omega)
      obtain ⟨ck, hck⟩ : ∃ c, src[k]? = some c := ⟨_, List.getElem?_eq_getElem (by rw [HL.out]; exact hlk)⟩
      have hik : ∀ wx, (Instr.index 9 (.string (bs src)) (.int .i64 (k : Int))).run Tryd.prog wx = .ok (bv ck) wx := fun wx => bs_idx hck _ Tryd.underlying9 wx
      have HCK := Lib.hid hck
      clear hck
      unfold bv at hik
      obtain ⟨nk, hnk⟩ : ∃ n, ck.toNat = n := ⟨_, rfl⟩
      rw [hnk] at hik
      have HNK := Lib.hid hnk
      clear hnk
      by_cases hp : nk = 10
      case pos =>
        subst hp
        have HEX := Lib.hid (show ∀ c, src[k]? = some c → noLf c = false from fun c hc => by rw [show c = ck from Option.some.inj (hc.symm.trans HCK.out)]; unfold noLf; rw [HNK.out]; rfl)
        skip
        have HTW := Lib.hid (tw_mid (p := noLf) (s := src) (i := j) (k := k) hjk (by have := HL.out; omega) HIN.out HEX.out)
        have HML := Lib.hid (mid_len (s := src) hjk (by have := HL.out; omega))
        have HST := Lib.hid (show st (src.drop j) = .skip (k - j) from by rw [← HML.out, ← HTW.out]; exact HCO.out)
        have HX7 := Lib.hid (show (lxr src k).pre out = lex src from by have := go_skip (by have := HL.out; omega) HST.out HX.out; rwa [show j + (k - j) = k by omega] at this)
        have hjk2 : j < k := by have := lxr_skip (by have := HL.out; omega) HST.out; omega
        go_wp2_with fail
        go_roundw
        case rel => exact ⟨k, out, A5, c5, by omega, by go_num, by rfl, HO.out, by have := HOL.out; omega, HX7.out, HB.out⟩
        case measure => simp [intOf]; omega
      case neg =>
        have hn1 : ((nk : Int) == 10) = false := by rw [beq_eq_false_iff_ne]; omega
        have hn2 : ((nk : Int) != 10) = true := by rw [bne_iff_ne]; omega
        have hn3 : ¬ (nk : Int) = 10 := by omega
        have HPF := Lib.hid (show noLf ck = true from by unfold noLf; rw [HNK.out]; rw [bne_iff_ne]; exact hp)
        clear hp
        skip
        go_wp2_with fail
        go_roundw
        case rel => exact ⟨k + 1, by omega, by omega, by go_num, fun m c h1 h2 hc => by
          rcases Nat.lt_or_ge m k with h | h
          · exact HIN.out m c h1 h hc
          · obtain rfl : m = k := by omega
            rw [show c = ck from Option.some.inj (hc.symm.trans HCK.out)]
            exact HPF.out, trivial⟩
        case measure => simp [intOf]; omega
theorem rlex_any (src : List UInt8) (w : World) (hl : src.length ≤ 9223372036854775807) : Calls Tryd.prog 13 #[.string (bs src)] w (LexP (lxo src) w) := by
  by_cases h : src.length ≤ 65536
  · exact rlex_short src w h
  · exact rlex_long src w (by omega) hl
end Go.Proofs.YtojlibeecpmbnaaDoor
