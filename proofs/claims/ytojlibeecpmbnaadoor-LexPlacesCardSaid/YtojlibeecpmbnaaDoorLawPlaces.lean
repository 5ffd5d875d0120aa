/- LexPlaces. -/
import Derived.Test.YtojlibeecpmbnaaDoorPlP
namespace Go.Proofs.YtojlibeecpmbnaaDoor
open Go.RowKit Go.Shelf
set_option linter.unusedVariables false
set_option linter.unusedSimpArgs false

/-- One byte of a gap. -/
theorem gp_next {s : List UInt8} {p T : Nat} {b : UInt8} {f : Bool} {g : Bool} (hb : s[p]? = some b) (hp : p < T) (h : gp f ((s.drop p).take (T - p)) = some g) :
    ((b.toNat != 10 && (f || (b.toNat == 47 && ((s.drop (p + 1)).take (T - (p + 1))).head? == some 47))) || isSp b) = true ∧ gp (b.toNat != 10 && (f || (b.toNat == 47 && ((s.drop (p + 1)).take (T - (p + 1))).head? == some 47))) ((s.drop (p + 1)).take (T - (p + 1))) = some g := by
  obtain ⟨y, hy⟩ : ∃ y, T - p = y + 1 := ⟨T - p - 1, by omega⟩
  have hy2 : T - (p + 1) = y := by omega
  rw [drop_at hb, hy, List.take_succ_cons] at h
  rw [hy2]
  unfold gp at h
  split at h
  next hc => exact ⟨hc, h⟩
  · cases h
theorem gp_head {s : List UInt8} {p T : Nat} : ((s.drop (p + 1)).take (T - (p + 1))).head? = if p + 1 < T then s[p + 1]? else none := by
  split
  next h =>
    obtain ⟨y, hy⟩ : ∃ y, T - (p + 1) = y + 1 := ⟨T - (p + 1) - 1, by omega⟩
    rw [hy, List.head?_take, if_neg (by omega), List.head?_drop]
  next h => rw [show T - (p + 1) = 0 by omega, List.take_zero]; rfl

set_option maxHeartbeats 8000000 in
set_option maxRecDepth 100000 in
theorem lawPlaces_any (s : List UInt8) (w : World) (hK : KT w ∧ PT w) (hl : s.length ≤ 140737488355328) :
    Calls Tryd.prog 6 #[.string (bs s)] w (BoolPost true w) := by
  have HSN := Lib.hid (sane_any w hK.1 hK.2)
  have HKP := Lib.hid hK
  unfold BoolPost at HSN ⊢
  obtain ⟨L, hL⟩ : ∃ L, s.length = L := ⟨_, rfl⟩
  have HL := Lib.hid hL
  have hlen : ∀ wx, (Builtin.len_ #[9] 3 #[.string (bs s)]).run Tryd.prog wx = .ok (.int .i64 (L : Int)) wx := fun wx => by rw [bs_len s _ _ Tryd.underlying9, hL]
  rw [hL] at hl
  clear hK hL
  go_enter Tryd.func6, Tryd.ntmps6
  go_wp2_with fail
  refine HSN.out.mono ?_
  rintro e ws ⟨rfl, hbs⟩
  have HB := Lib.hid hbs
  clear hbs HSN
  by_cases h3000 : 3000 < L
  case pos =>
    have hd : decide ((3000 : Int) < (L : Int)) = true := decide_eq_true (by omega)
    have hd2 : (3000 : Int) < (L : Int) := by omega
    go_wp2_with fail
    go_ret
    exact ⟨rfl, HB.out⟩
  have hd : decide ((3000 : Int) < (L : Int)) = false := decide_eq_false (by omega)
  have hd2 : ¬ (3000 : Int) < (L : Int) := by omega
  have HLX := Lib.hid (lex_any s ws (HKP.out.1.below HB.out) (by have := HL.out; omega))
  have hlo := lxo_of (s := s) (by have := HL.out; omega)
  cases hx : lex s with
  | no j =>
    rw [hx] at hlo
    have hlo : lxo s = ([], j, 100) := hlo
    rw [hlo] at HLX
    unfold LexP at HLX
    simp only at HLX
    clear hlo hx
    go_wp2_with fail
    refine HLX.out.mono ?_
    rintro e wl ⟨A, c, rfl, hT, hb⟩
    have HB := Lib.hid (HB.out.trans (hb.mono HB.out.size))
    clear hT hb HLX
    go_wp2_with fail
    go_ret
    exact ⟨rfl, HB.out⟩
  | ok ts =>
  rw [hx] at hlo
  have hlo : lxo s = (ts, 0, 0) := hlo
  rw [hlo] at HLX
  unfold LexP at HLX
  simp only at HLX
  have HPL := Lib.hid (places_all hx)
  have HVT := Lib.hid (fun t (h : t ∈ ts) => List.all_eq_true.1 (lx_vtk _ _ _ _ hx).1 t h)
  have hn := (lx_bnd _ _ _ _ hx).1
  rw [HL.out] at hn
  obtain ⟨n, hnn⟩ : ∃ n, ts.length = n := ⟨_, rfl⟩
  rw [hnn] at HLX hn
  have HN := Lib.hid hnn
  clear hlo hx hnn
  go_wp2_with fail
  refine HLX.out.mono ?_
  rintro e wl ⟨A, c, rfl, hT, hb⟩
  have HB := Lib.hid (HB.out.trans (hb.mono HB.out.size))
  have HT := Lib.hid hT
  clear hT hb HLX
  go_wp2_with fail
  go_loopw [6, 7] (fun i k wr => ∃ q j : Nat, j ≤ n ∧ q ≤ L ∧ i = .int .i64 (q : Int) ∧ k = .int .i64 (j : Int) ∧ Pla s q (ts.drop j) ∧ Below wl.heap.size wl wr) (fun _ k _ => n + 1 - (intOf k).toNat)
  case atStart => exact ⟨0, 0, Nat.zero_le _, Nat.zero_le _, rfl, rfl, HPL.out, Below.refl _ _⟩
  case round =>
    obtain ⟨q, j, hjn, hqL, rfl, rfl, hpl, hb⟩ := hrel
    have HPQ := Lib.hid hpl
    have HBR := Lib.hid hb
    clear hpl hb HPL
    have hdj : decide ((j : Int) ≤ (n : Int)) = true := decide_eq_true (by omega)
    by_cases hje : j = n
    case pos =>
      subst hje
      obtain ⟨g, hg⟩ : ∃ g, gp false ((s.drop q).take (L - q)) = some g := by
        have h := HPQ.out
        rw [List.drop_eq_nil_of_le (by rw [HN.out]; exact Nat.le_refl _)] at h
        have h : gp false (s.drop q) ≠ none := h
        rw [List.take_of_length_le (by rw [List.length_drop, HL.out]; exact Nat.le_refl _)]
        cases hgg : gp false (s.drop q) with
        | none => exact absurd hgg h
        | some g => exact ⟨g, rfl⟩
      have HG := Lib.hid hg
      clear hg
      have e1 : decide ((L : Int) < (q : Int)) = false := decide_eq_false (by omega)
      have e2 : ¬ (L : Int) < (q : Int) := by omega
      go_wp2_with fail
      obtain ⟨WL, rfl⟩ : ∃ WL, WL = wr := ⟨_, rfl⟩
      go_loopw [6, 9] (fun i cf wr => ∃ (p : Nat) (f : Bool), q ≤ p ∧ p ≤ L ∧ i = .int .i64 (p : Int) ∧ cf = .bool f ∧ gp f ((s.drop p).take (L - p)) = some g ∧ WL = wr) (fun i _ _ => L - (intOf i).toNat)
      case atStart => exact ⟨q, false, Nat.le_refl _, by omega, rfl, rfl, HG.out, rfl⟩
      case round =>
        obtain ⟨p, f, hqp, hpT, rfl, rfl, hgp, hwr⟩ := hrel
        subst hwr
        have HGP := Lib.hid hgp
        clear hgp
        obtain ⟨wr, rfl⟩ : ∃ wr, wr = WL := ⟨_, rfl⟩
        by_cases hlp : p < L
        case neg =>
          have hdp : decide ((p : Int) < (L : Int)) = false := decide_eq_false (by omega)
          obtain rfl : p = L := by omega
          obtain rfl : f = g := by
            have h := HGP.out
            rw [Nat.sub_self, List.take_zero] at h
            exact Option.some.inj h
          go_wp2_with fail
          go_ret
          exact ⟨rfl, HB.out.trans (HBR.out.mono HB.out.size)⟩
        have hdp : decide ((p : Int) < (L : Int)) = true := decide_eq_true (by omega)
        obtain ⟨b, hb⟩ : ∃ b, s[p]? = some b := ⟨_, List.getElem?_eq_getElem (by have := HL.out; omega)⟩
        have HGS := Lib.hid (gp_next hb (show p < L by omega) HGP.out)
        have hix : ∀ wx, (Instr.index 9 (.string (bs s)) (.int .i64 (p : Int))).run Tryd.prog wx = .ok (bv b) wx := fun wx => bs_idx hb _ Tryd.underlying9 wx
        unfold bv at hix
        have hS := fun (wx : World) => rSpace_any b wx
        unfold bv QBool at hS
        have HBV := Lib.hid (show ∃ n, b.toNat = n from ⟨_, rfl⟩)
        obtain ⟨n0, hn0⟩ := HBV.out
        rw [hn0] at hix hS HGS
        have HS := Lib.hid hS
        have HN0 := Lib.hid hn0
        have HPB := Lib.hid hb
        clear hb hn0 hS HBV
        by_cases h10 : n0 = 10
        case pos =>
          subst h10
          have HS := Lib.hid (show ∀ wx, Calls Tryd.prog 22 #[.int .u8 (10 : Int)] wx (fun e w' => e = .returned (.bool true) ∧ w' = wx) from fun wx => by have := HS.out wx; rwa [show isSp b = true from by unfold isSp; rw [HN0.out]; rfl] at this)
          have HNX := Lib.hid (show gp false ((s.drop (p + 1)).take (L - (p + 1))) = some g from by have := HGS.out.2; simpa using this)
          go_wp2_with fail
          refine (HS.out _).mono ?_
          rintro e w2 ⟨rfl, hw⟩
          obtain rfl := hw.symm
          go_wp2_with fail
          go_roundw
          case rel => exact ⟨p + 1, false, by omega, by omega, by go_num, rfl, HNX.out, trivial⟩
          case measure => simp [intOf]; omega
        case neg =>
        have hq1 : ((n0 : Int) == 10) = false := by rw [beq_eq_false_iff_ne]; omega
        have hq2 : ((n0 : Int) != 10) = true := by rw [bne_iff_ne]; omega
        have hq3 : ¬ (n0 : Int) = 10 := by omega
        have hq4 : (n0 != 10) = true := by rw [bne_iff_ne]; exact h10
        cases f with
        | true =>
          have HNX := Lib.hid (show gp true ((s.drop (p + 1)).take (L - (p + 1))) = some g from by have := HGS.out.2; rw [hq4] at this; simpa using this)
          go_wp2_with fail
          go_roundw
          case rel => exact ⟨p + 1, true, by omega, by omega, by go_num, rfl, HNX.out, trivial⟩
          case measure => simp [intOf]; omega
        | false =>
        have HGS1 := Lib.hid (show (((n0 == 47) && ((if p + 1 < L then s[p + 1]? else none) == some 47)) || isSp b) = true ∧ gp ((n0 == 47) && ((if p + 1 < L then s[p + 1]? else none) == some 47)) ((s.drop (p + 1)).take (L - (p + 1))) = some g from by have := HGS.out; rw [hq4, gp_head] at this; simpa using this)
        by_cases h47 : n0 = 47
        case neg =>
          have hr1 : ((n0 : Int) == 47) = false := by rw [beq_eq_false_iff_ne]; omega
          have hr2 : ¬ (n0 : Int) = 47 := by omega
          have hr3 : (n0 == 47) = false := by rw [beq_eq_false_iff_ne]; exact h47
          have HNX := Lib.hid (show isSp b = true ∧ gp false ((s.drop (p + 1)).take (L - (p + 1))) = some g from by have := HGS1.out; rw [hr3] at this; simpa using this)
          have HS := Lib.hid (show ∀ wx, Calls Tryd.prog 22 #[.int .u8 (n0 : Int)] wx (fun e w' => e = .returned (.bool true) ∧ w' = wx) from fun wx => by have := HS.out wx; rwa [HNX.out.1] at this)
          clear hr3
          go_wp2_with fail
          refine (HS.out _).mono ?_
          rintro e w2 ⟨rfl, hw⟩
          obtain rfl := hw.symm
          go_wp2_with fail
          go_roundw
          case rel => exact ⟨p + 1, false, by omega, by omega, by go_num, rfl, HNX.out.2, trivial⟩
          case measure => simp [intOf]; omega
        subst h47
        have h1 : p + 1 < L ∧ s[p + 1]? = some 47 := by
          have h := HGS1.out.1
          rw [show isSp b = false from by
            have := u8_all (fun b => decide (b.toNat = 47 → isSp b = false)) (by decide +kernel) b
            exact of_decide_eq_true this HN0.out] at h
          by_cases h1 : p + 1 < L
          · rw [if_pos h1] at h
            exact ⟨h1, by simpa using h⟩
          · rw [if_neg h1] at h
            simp at h
        have hiy : ∀ wx, (Instr.index 9 (.string (bs s)) (.int .i64 ((p : Int) + 1))).run Tryd.prog wx = .ok (.int .u8 47) wx := fun wx => by have := bs_idx h1.2 9 Tryd.underlying9 wx; rwa [show (((p + 1 : Nat)) : Int) = (p : Int) + 1 by omega] at this
        have HNX := Lib.hid (show gp true ((s.drop (p + 1)).take (L - (p + 1))) = some g from by have := HGS1.out.2; rw [if_pos h1.1, h1.2] at this; simpa using this)
        have hd1 : decide ((p : Int) + 1 < (L : Int)) = true := decide_eq_true (by omega)
        clear h1
        go_wp2_with fail
        go_roundw
        case rel => exact ⟨p + 1, true, by omega, by omega, by go_num, rfl, HNX.out, trivial⟩
        case measure => simp [intOf]; omega
    have e0 : decide ((j : Int) < (n : Int)) = true := decide_eq_true (by omega)
    have e00 : ((j : Int) == (n : Int)) = false := by rw [beq_eq_false_iff_ne]; omega
    have e01 : ¬ (j : Int) = (n : Int) := by omega
    obtain ⟨t, ht⟩ : ∃ t, ts[j]? = some t := ⟨_, List.getElem?_eq_getElem (by have := HN.out; omega)⟩
    have htd : ts.drop j = t :: ts.drop (j + 1) := by
      obtain ⟨hi, e⟩ := List.getElem?_eq_some_iff.1 ht
      rw [List.drop_eq_getElem_cons hi, e]
    have hpq := HPQ.out
    rw [htd] at hpq
    obtain ⟨T, hqT, htp, hg, hsp, h0, hTl, htt, hnx⟩ := hpq
    obtain ⟨tk, tt, tn, tp⟩ := t
    obtain rfl : tp = (T : Int) := htp
    obtain ⟨bA, oA, e1, hbA, x0, x1, x2, x3⟩ := HT.out.at_ ht
    subst e1
    have z0 := (HBR.out.cell (p := ⟨bA, oA + j * 4, none⟩) hbA).trans x0
    have z1 := (HBR.out.cell (p := ⟨bA, oA + j * 4 + 1, none⟩) hbA).trans x1
    have z2 := (HBR.out.cell (p := ⟨bA, oA + j * 4 + 2, none⟩) hbA).trans x2
    have z3 := (HBR.out.cell (p := ⟨bA, oA + j * 4 + 3, none⟩) hbA).trans x3
    have HVV := Lib.hid (HVT.out _ (List.mem_of_getElem? ht))
    have HSPL := Lib.hid (spelled_any ⟨tk, tt, tn, (T : Int)⟩ wr HVV.out)
    unfold tkv at HSPL
    simp only at z0 z1 z2 z3 HSPL
    obtain ⟨X, hX⟩ : ∃ X, txk ⟨tk, tt, tn, (T : Int)⟩ = X := ⟨_, rfl⟩
    rw [hX] at h0 hTl htt hnx HSPL
    obtain ⟨m, hm⟩ : ∃ m, X.length = m := ⟨_, rfl⟩
    rw [hm] at h0 hTl htt hnx
    rw [HL.out] at hTl
    have hlx : ∀ wx, (Builtin.len_ #[9] 3 #[.string (bs X)]).run Tryd.prog wx = .ok (.int .i64 (m : Int)) wx := fun wx => by rw [bs_len X _ _ Tryd.underlying9, hm]
    have hmi : ∀ wx, (Instr.slice 9 (.string (bs s)) (some (.int .i64 (T : Int))) (some (.int .i64 ((T : Int) + (m : Int)))) none).run Tryd.prog wx = .ok (.string (bs X)) wx := fun wx => by
      have h := bs_mid (l := s) (i := T) (j := T + m) (Nat.le_add_right _ _) (by rw [HL.out]; exact hTl) 9 Tryd.underlying9 wx
      rw [show T + m - T = m by omega, htt, show (((T + m : Nat)) : Int) = (T : Int) + (m : Int) by omega] at h
      exact h
    obtain ⟨g, hgf⟩ : ∃ g : Bool, g = false := ⟨_, rfl⟩
    have HG := Lib.hid (show gp false ((s.drop q).take (T - q)) = some g from by rw [hgf]; exact hg)
    have HNXT := Lib.hid hnx
    have HGF := Lib.hid hgf
    have e1 : decide ((T : Int) < (q : Int)) = false := decide_eq_false (by omega)
    have e2 : ¬ (T : Int) < (q : Int) := by omega
    have e3 : decide ((L : Int) < (T : Int)) = false := decide_eq_false (by omega)
    have e4 : ¬ (L : Int) < (T : Int) := by omega
    have e5 : ((m : Int) == 0) = false := by rw [beq_eq_false_iff_ne]; omega
    have e6 : ¬ (m : Int) = 0 := by omega
    have e7 : decide ((L : Int) < (T : Int) + (m : Int)) = false := decide_eq_false (by omega)
    have e8 : ¬ (L : Int) < (T : Int) + (m : Int) := by omega
    have hj0 : (0 : Int) ≤ (j : Int) := by omega
    have hjn2 : (j : Int) < (n : Int) := by omega
    clear htd ht hg hsp htt hnx hX hm hgf hbA x0 x1 x2 x3
    go_wp2_with fail
    obtain ⟨WL, rfl⟩ : ∃ WL, WL = wr := ⟨_, rfl⟩
    go_loopw [6, 9] (fun i cf wr => ∃ (p : Nat) (f : Bool), q ≤ p ∧ p ≤ T ∧ i = .int .i64 (p : Int) ∧ cf = .bool f ∧ gp f ((s.drop p).take (T - p)) = some g ∧ WL = wr) (fun i _ _ => T - (intOf i).toNat)
    case atStart => exact ⟨q, false, Nat.le_refl _, by omega, rfl, rfl, HG.out, rfl⟩
    case round =>
      obtain ⟨p, f, hqp, hpT, rfl, rfl, hgp, hwr⟩ := hrel
      subst hwr
      have HGP := Lib.hid hgp
      clear hgp
      obtain ⟨wr, rfl⟩ : ∃ wr, wr = WL := ⟨_, rfl⟩
      by_cases hlp : p < T
      case neg =>
        have hdp : decide ((p : Int) < (T : Int)) = false := decide_eq_false (by omega)
        obtain rfl : p = T := by omega
        obtain rfl : f = g := by
          have h := HGP.out
          rw [Nat.sub_self, List.take_zero] at h
          exact Option.some.inj h
        obtain rfl := HGF.out
        go_wp2_with fail
        refine HSPL.out.mono ?_
        rintro e w2 ⟨rfl, hb⟩
        have HBR := Lib.hid (HBR.out.trans (hb.mono HBR.out.size))
        clear hb HSPL
        go_wp2_with fail
        go_roundw
        case rel => exact ⟨p + m, j + 1, by omega, by omega, by go_num, by go_num, HNXT.out, HBR.out⟩
        case measure => simp [intOf]; omega
      have hdp : decide ((p : Int) < (T : Int)) = true := decide_eq_true (by omega)
      obtain ⟨b, hb⟩ : ∃ b, s[p]? = some b := ⟨_, List.getElem?_eq_getElem (by have := HL.out; omega)⟩
      have HGS := Lib.hid (gp_next hb (show p < T by omega) HGP.out)
      have hix : ∀ wx, (Instr.index 9 (.string (bs s)) (.int .i64 (p : Int))).run Tryd.prog wx = .ok (bv b) wx := fun wx => bs_idx hb _ Tryd.underlying9 wx
      unfold bv at hix
      have hS := fun (wx : World) => rSpace_any b wx
      unfold bv QBool at hS
      have HBV := Lib.hid (show ∃ n, b.toNat = n from ⟨_, rfl⟩)
      obtain ⟨n0, hn0⟩ := HBV.out
      rw [hn0] at hix hS HGS
      have HS := Lib.hid hS
      have HN0 := Lib.hid hn0
      have HPB := Lib.hid hb
      clear hb hn0 hS HBV
      by_cases h10 : n0 = 10
      case pos =>
        subst h10
        have HS := Lib.hid (show ∀ wx, Calls Tryd.prog 22 #[.int .u8 (10 : Int)] wx (fun e w' => e = .returned (.bool true) ∧ w' = wx) from fun wx => by have := HS.out wx; rwa [show isSp b = true from by unfold isSp; rw [HN0.out]; rfl] at this)
        have HNX := Lib.hid (show gp false ((s.drop (p + 1)).take (T - (p + 1))) = some g from by have := HGS.out.2; simpa using this)
        go_wp2_with fail
        refine (HS.out _).mono ?_
        rintro e w2 ⟨rfl, hw⟩
        obtain rfl := hw.symm
        go_wp2_with fail
        go_roundw
        case rel => exact ⟨p + 1, false, by omega, by omega, by go_num, rfl, HNX.out, trivial⟩
        case measure => simp [intOf]; omega
      case neg =>
      have hq1 : ((n0 : Int) == 10) = false := by rw [beq_eq_false_iff_ne]; omega
      have hq2 : ((n0 : Int) != 10) = true := by rw [bne_iff_ne]; omega
      have hq3 : ¬ (n0 : Int) = 10 := by omega
      have hq4 : (n0 != 10) = true := by rw [bne_iff_ne]; exact h10
      cases f with
      | true =>
        have HNX := Lib.hid (show gp true ((s.drop (p + 1)).take (T - (p + 1))) = some g from by have := HGS.out.2; rw [hq4] at this; simpa using this)
        go_wp2_with fail
        go_roundw
        case rel => exact ⟨p + 1, true, by omega, by omega, by go_num, rfl, HNX.out, trivial⟩
        case measure => simp [intOf]; omega
      | false =>
      have HGS1 := Lib.hid (show (((n0 == 47) && ((if p + 1 < T then s[p + 1]? else none) == some 47)) || isSp b) = true ∧ gp ((n0 == 47) && ((if p + 1 < T then s[p + 1]? else none) == some 47)) ((s.drop (p + 1)).take (T - (p + 1))) = some g from by have := HGS.out; rw [hq4, gp_head] at this; simpa using this)
      by_cases h47 : n0 = 47
      case neg =>
        have hr1 : ((n0 : Int) == 47) = false := by rw [beq_eq_false_iff_ne]; omega
        have hr2 : ¬ (n0 : Int) = 47 := by omega
        have hr3 : (n0 == 47) = false := by rw [beq_eq_false_iff_ne]; exact h47
        have HNX := Lib.hid (show isSp b = true ∧ gp false ((s.drop (p + 1)).take (T - (p + 1))) = some g from by have := HGS1.out; rw [hr3] at this; simpa using this)
        have HS := Lib.hid (show ∀ wx, Calls Tryd.prog 22 #[.int .u8 (n0 : Int)] wx (fun e w' => e = .returned (.bool true) ∧ w' = wx) from fun wx => by have := HS.out wx; rwa [HNX.out.1] at this)
        clear hr3
        go_wp2_with fail
        refine (HS.out _).mono ?_
        rintro e w2 ⟨rfl, hw⟩
        obtain rfl := hw.symm
        go_wp2_with fail
        go_roundw
        case rel => exact ⟨p + 1, false, by omega, by omega, by go_num, rfl, HNX.out.2, trivial⟩
        case measure => simp [intOf]; omega
      subst h47
      have h1 : p + 1 < T ∧ s[p + 1]? = some 47 := by
        have h := HGS1.out.1
        rw [show isSp b = false from by
          have := u8_all (fun b => decide (b.toNat = 47 → isSp b = false)) (by decide +kernel) b
          exact of_decide_eq_true this HN0.out] at h
        by_cases h1 : p + 1 < T
        · rw [if_pos h1] at h
          exact ⟨h1, by simpa using h⟩
        · rw [if_neg h1] at h
          simp at h
      have hiy : ∀ wx, (Instr.index 9 (.string (bs s)) (.int .i64 ((p : Int) + 1))).run Tryd.prog wx = .ok (.int .u8 47) wx := fun wx => by have := bs_idx h1.2 9 Tryd.underlying9 wx; rwa [show (((p + 1 : Nat)) : Int) = (p : Int) + 1 by omega] at this
      have HNX := Lib.hid (show gp true ((s.drop (p + 1)).take (T - (p + 1))) = some g from by have := HGS1.out.2; rw [if_pos h1.1, h1.2] at this; simpa using this)
      have hd1 : decide ((p : Int) + 1 < (T : Int)) = true := decide_eq_true (by omega)
      clear h1
      go_wp2_with fail
      go_roundw
      case rel => exact ⟨p + 1, true, by omega, by omega, by go_num, rfl, HNX.out, trivial⟩
      case measure => simp [intOf]; omega
end Go.Proofs.YtojlibeecpmbnaaDoor
