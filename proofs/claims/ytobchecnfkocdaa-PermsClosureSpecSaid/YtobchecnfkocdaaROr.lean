/- The reference's Orbits. -/
import Derived.Test.YtobchecnfkocdaaRCl
import Derived.Test.YtobchecnfkocdaaPgV
namespace Go.Proofs.Ytobchecnfkocdaa
open Go.RowKit
set_option linter.unusedVariables false
set_option linter.unusedSimpArgs false

def RoP (n : Int) (gens : List (List Int)) (w : World) (e : Ending) (w' : World) : Prop :=
  (cge n gens ≠ 0 ∧ e = .returned (.tuple #[.slice none 0 0, .int .i64 (cge n gens)]) ∧ Below w.heap.size w w') ∨
    (cge n gens = 0 ∧ ∃ N gs, n = ((N : Nat) : Int) ∧ N ≤ 256 ∧ gens = gs.map ints ∧ (∀ g ∈ gs, Pm N g) ∧ ∃ (A : Option Addr) (m c : Nat), e = .returned (.tuple #[.slice A m c, .int .i64 0]) ∧ RI w' A ((orbs N gs N).map ints) c ∧ (orbs N gs N).length = m ∧ Below w.heap.size w w')
/-- The row of the least numbers in memory. -/
def LeO (BI : Nat) (w1 : World) (A7 : Option Addr) (c7 N : Nat) (gs : List (List Nat)) (F : Nat → Nat) (wr : World) : Prop :=
  wr.ownsRow BI 3 1 (.slice A7 N c7) N ((ris (fun x => (F x : Int)) N).map iv) ∧ Lea N gs F ∧ Below BI w1 wr
/-- What a pass has seen. -/
def PasR (N S0 : Nat) (gs : List (List Nat)) (k i : Nat) (ch : Bool) (F : Nat → Nat) : Prop :=
  fsum F N ≤ S0 ∧ (ch = true → fsum F N < S0) ∧ (ch = false → ∀ (k' : Nat) g (i' : Nat), (k' < k ∨ (k' = k ∧ i' < i)) → gs[k']? = some g → i' < N → F i' = F (g.getD i' 0))

set_option maxHeartbeats 8000000 in
set_option maxRecDepth 100000 in
theorem rorbits_any (n : Int) (A : Option Addr) (c : Nat) (gens : List (List Int)) (w : World) (hA : RI w A gens c) (hsh : ∀ p ∈ gens, p.length ≤ 24) :
    Calls Try.prog 22 #[.int .i64 n, .slice A gens.length c] w (RoP n gens w) := by
  have HVA := Lib.hid (valid_any n A c gens w hA hsh)
  obtain ⟨E, hE⟩ : ∃ E, cge n gens = E := ⟨_, rfl⟩
  unfold RoP
  rw [hE] at HVA ⊢
  by_cases h0 : E = 0
  case neg =>
    have d0 : (E != 0) = true := by rw [bne_iff_ne]; exact h0
    have HH := Lib.hid h0
    clear hE h0 hA hsh
    generalize gens.length = L at *
    go_enter Try.func22, Try.ntmps22
    go_wp2_with fail
    refine HVA.out.mono ?_
    rintro e w1 ⟨rfl, hb⟩
    have HB := Lib.hid hb
    clear hb
    go_wp2_with fail
    go_ret2
    exact .inl ⟨HH.out, rfl, HB.out⟩
  subst h0
  obtain ⟨N, gs, rfl, hN, rfl, hgs, hl1⟩ := cge_ok hE
  rw [List.length_map] at hl1 HVA ⊢
  obtain ⟨L, hL⟩ : ∃ L, gs.length = L := ⟨_, rfl⟩
  obtain ⟨B, hB⟩ : ∃ B, w.heap.size = B := ⟨_, rfl⟩
  rw [hB] at HVA
  have HG := Lib.hid (And.intro hA (And.intro hgs (And.intro hL hB)))
  rw [hL] at hl1 HVA ⊢
  refine Calls.mono (?_ : Calls _ _ _ _ (fun e w' => ∃ (A : Option Addr) (m c : Nat), e = .returned (.tuple #[.slice A m c, .int .i64 0]) ∧ RI w' A ((orbs N gs N).map ints) c ∧ (orbs N gs N).length = m ∧ Below w.heap.size w w')) (fun e w' h => .inr ⟨rfl, N, gs, rfl, hN, rfl, hgs, h⟩)
  clear hA hsh hgs hL hB hE
  go_enter Try.func22, Try.ntmps22
  go_wp2_with fail
  refine HVA.out.mono ?_
  rintro e w1 ⟨rfl, hb⟩
  have hz1 : B ≤ w1.heap.size := by have := hb.size; rwa [HG.out.2.2.2] at this
  have HB1 := Lib.hid (And.intro hb hz1)
  clear hb HVA hz1
  go_wp2_with fail
  have hid := identity_own (N : Int) w1 (by omega)
  unfold ListO at hid
  rw [Int.toNat_natCast, ris_length] at hid
  refine hid.mono ?_
  clear hid
  rintro e w2 ⟨A7, c7, rfl, how, hb2⟩
  obtain ⟨BI, hBI⟩ : ∃ b, w1.heap.size = b := ⟨_, rfl⟩
  rw [hBI] at how hb2
  have HBI := Lib.hid hBI
  have HL0 := Lib.hid (show LeO BI w1 A7 c7 N gs (fun i => i) w2 from ⟨how, Lea.start N gs, hb2⟩)
  clear how hb2 hBI
  go_wp2_with fail
  go_loopg [8] (fsum (fun i => i) N + 1) (fun gg v8 wr => ∃ (ch : Bool) (F : Nat → Nat), v8 = .bool ch ∧ (ch = true → fsum F N + 1 ≤ gg) ∧ (ch = false → ∀ g ∈ gs, ∀ i, i < N → F i = F (g.getD i 0)) ∧ LeO BI w1 A7 c7 N gs F wr)
  case atStart => exact ⟨true, fun i => i, rfl, (fun _ => Nat.le_refl _), (fun h => by cases h), HL0.out⟩
  case round =>
    obtain ⟨ch, F, rfl, hgg, hfx, hL⟩ := hrel
    have KR := Lib.hid (And.intro hgg (And.intro hfx hL))
    clear hgg hfx hL HL0
    cases ch with
    | false =>
      have hfx := KR.out.2.1 rfl
      have hL := KR.out.2.2
      obtain ⟨BO, hBO⟩ : ∃ b, wr.heap.size = b := ⟨_, rfl⟩
      have hbw : Below B w wr := by
        have h1 := HB1.out.1
        have h2 := HB1.out.2
        exact h1.trans (hL.2.2.mono (by rw [← HBI.out]; exact h2))
      have hBz : B ≤ BO := by
        have h1 := hbw.size
        have h2 := HG.out.2.2.2
        omega
      have HK := Lib.hid (And.intro hfx (And.intro hL.2.1 (And.intro (show Si wr A7 (ris (fun x => (F x : Int)) N) c7 from Sv.of_own hL.1 (by rw [List.length_map, ris_length])) (And.intro hbw hBz))))
      obtain ⟨W0, hW0⟩ : ∃ W0, wr = W0 := ⟨_, rfl⟩
      rw [hW0] at HK hBO ⊢
      have hlit := World.ownsRow_lit (base := BO) (e := 22) (size := 1) W0 #[] 0 (by omega) (by unfold maxLen; omega) rfl
      have hal := al1 W0 (.cells #[] 22)
      rw [hBO] at hal
      have HST := Lib.hid (And.intro (show OM BO (W0.alloc (.cells #[] 22)) (some ⟨W0.heap.size, 0, none⟩) 0 0 [] from ⟨rfl, _, hlit, fun i l h => by cases h⟩) hal)
      have HBO := Lib.hid hBO
      clear hfx hL hbw hBz hlit hal KR hBO hW0
      go_wp2_with fail
      go_loopw [13, 14] (fun v13 v14 wx => ∃ (t m c13 : Nat) (A13 : Option Addr), t ≤ N ∧ v13 = .slice A13 m c13 ∧ v14 = .int .i64 (t : Int) ∧ OM BO wx A13 m c13 ((orbs N gs t).map ints) ∧ Below BO W0 wx) (fun _ v14 _ => N - (intOf v14).toNat)
      case atStart => exact ⟨0, 0, 0, some ⟨W0.heap.size, 0, none⟩, Nat.zero_le _, rfl, rfl, HST.out.1, HST.out.2⟩
      case round =>
        obtain ⟨t, m, c13, A13, ht, rfl, rfl, hO, hb⟩ := hrel
        obtain ⟨WX, hWX⟩ : ∃ WX, wr = WX := ⟨_, rfl⟩
        rw [hWX] at hO hb ⊢
        have KX := Lib.hid (And.intro hO hb)
        clear hO hb HST hWX
        by_cases hlt : t < N
        case neg =>
          have hdt : decide ((t : Int) < (N : Int)) = false := decide_eq_false (by omega)
          obtain rfl : t = N := by omega
          go_wp2_with fail
          go_ret2
          refine ⟨A13, m, c13, rfl, KX.out.1.ri, by have := KX.out.1.1; rwa [List.length_map] at this, ?_⟩
          rw [HG.out.2.2.2]
          exact HK.out.2.2.2.1.trans (KX.out.2.mono HK.out.2.2.2.2)
        have hdt : decide ((t : Int) < (N : Int)) = true := decide_eq_true (by omega)
        obtain ⟨B5, hB5⟩ : ∃ b, WX.heap.size = b := ⟨_, rfl⟩
        have hlit := World.ownsRow_lit (base := B5) (e := 3) (size := 1) WX #[] 0 (by omega) (by unfold maxLen; omega) rfl
        have hal := al1 WX (.cells #[] 3)
        rw [hB5] at hal
        have HS5 := Lib.hid (And.intro hlit (And.intro hal hB5))
        clear hlit hal hB5
        go_wp2_with fail
        go_loopw [15, 16] (fun v15 v16 wy => ∃ (j q c15 : Nat) (A15 : Option Addr), j ≤ N ∧ v15 = .slice A15 q c15 ∧ v16 = .int .i64 (j : Int) ∧ wy.ownsRow B5 3 1 (.slice A15 q c15) q ((ints (flt F j t)).map iv) ∧ Below B5 WX wy) (fun _ v16 _ => N - (intOf v16).toNat)
        case atStart => exact ⟨0, 0, 0, some ⟨WX.heap.size, 0, none⟩, Nat.zero_le _, rfl, rfl, HS5.out.1, HS5.out.2.1⟩
        case round =>
          obtain ⟨j, q, c15, A15, hj, rfl, rfl, how, hb⟩ := hrel
          have hql : (flt F j t).length = q := by have := how.1; rw [List.length_map, ints_length] at this; omega
          have hqj : q ≤ j := by rw [← hql]; exact flt_len _ _ _
          have KY := Lib.hid (And.intro how (And.intro hb hql))
          clear how hb hql
          have hzx : BO ≤ WX.heap.size := by have h1 := KX.out.2.size; have h2 := HBO.out; omega
          have hzy : BO ≤ wr.heap.size := by have h1 := KY.out.2.1.size; omega
          have hb0y : Below BO W0 wr := KX.out.2.trans (KY.out.2.1.mono (by have := HS5.out.2.2; omega))
          have HB0 := Lib.hid (And.intro hb0y hzy)
          clear hzx hzy hb0y
          by_cases hlj : j < N
          case pos =>
            have hdj : decide ((j : Int) < (N : Int)) = true := decide_eq_true (by omega)
            obtain ⟨b7, o7, hA7, hb7, hc7⟩ := HK.out.2.2.1.at_ (j := j) (x := (F j : Int)) (ris_at _ hlj)
            subst hA7
            have z0 := (HB0.out.1.cell (p := ⟨b7, o7 + j, none⟩) (by rw [← HBO.out]; exact hb7)).trans hc7
            have j0 : (0 : Int) ≤ (j : Int) := by omega
            have j1 : (j : Int) < (N : Int) := by omega
            clear hb7 hc7
            by_cases hFj : F j = t
            case neg =>
              have d1 : ((F j : Int) == (t : Int)) = false := by rw [beq_eq_false_iff_ne]; omega
              have HF := Lib.hid (flt_no hFj)
              clear hFj
              go_wp2_with fail
              go_roundw
              case rel => exact ⟨j + 1, q, c15, A15, by omega, rfl, by go_num, by rw [HF.out]; exact KY.out.1, KY.out.2.1⟩
              case measure => simp [intOf]; omega
            case pos =>
              have d1 : ((F j : Int) == (t : Int)) = true := by rw [beq_iff_eq]; omega
              have HF := Lib.hid (show ints (flt F (j + 1) t) = ints (flt F j t) ++ [(j : Int)] from by rw [flt_yes hFj]; unfold ints; rw [List.map_append]; rfl)
              clear hFj
              have hba := al1 wr (.cells #[.int .i64 (j : Int)] 3)
              have HA1 := Lib.hid (And.intro (own_below KY.out.1 hba) (KY.out.2.1.trans (hba.mono (by have h1 := KY.out.2.1.size; have h2 := HS5.out.2.2; omega))))
              have HZ1 := Lib.hid (show B5 ≤ (wr.alloc (.cells #[.int .i64 (j : Int)] 3)).heap.size from by rw [World.size_alloc]; have h1 := KY.out.2.1.size; have h2 := HS5.out.2.2; omega)
              clear hba
              go_wp2_with (at_builtin; refine wpList_append_int rfl (.tmp 93) (.tmp 95) rfl _ q _ rfl HA1.out.1 wr.heap.size (j : Int) rfl (Box.new wr _ _) (by omega) HZ1.out ?_; intro g1 k1 w7 ho7 hg7; have H7 := Lib.hid (And.intro ho7 (own_grown HA1.out.2 HA1.out.1 hg7 HZ1.out)); clear ho7 hg7)
              go_roundw
              case rel => exact ⟨j + 1, q + 1, k1, some ⟨g1, 0, none⟩, by omega, rfl, by go_num, by rw [HF.out]; exact H7.out.1, H7.out.2⟩
              case measure => simp [intOf]; omega
          case neg =>
          have hdj : decide ((j : Int) < (N : Int)) = false := decide_eq_false (by omega)
          have hjN : j = N := by omega
          have hsiy : Si wr A15 (ints (flt F j t)) c15 := Sv.of_own KY.out.1 (by rw [List.length_map, ints_length, KY.out.2.2])
          have htby := Tb.of_own KY.out.1
          have hOy := KX.out.1.up (show Below WX.heap.size WX wr from by rw [HS5.out.2.2]; exact KY.out.2.1)
          have hqf := KY.out.2.2
          rw [hjN] at hsiy hqf
          by_cases hl : Lst gs t
          case neg =>
            have hno := HK.out.2.1.no HG.out.2.1 HK.out.1 hlt hl
            rw [hno] at hqf
            have hq0 : q = 0 := hqf.symm
            subst hq0
            have HF := Lib.hid (And.intro hOy (orbs_no (n := N) hl))
            clear hsiy htby hOy hqf hno hl hjN
            go_wp2_with fail
            go_roundw
            case rel => exact ⟨t + 1, m, c13, A13, by omega, rfl, by go_num, by rw [HF.out.2]; exact HF.out.1, HB0.out.1⟩
            case measure => simp [intOf]; omega
          case pos =>
            have hye := HK.out.2.1.yes HG.out.2.1 HK.out.1 hlt hl
            rw [hye] at hsiy hqf
            have hq0 : 0 < q := by
              have := mem_flt_self (gs := gs) hlt
              rw [← hqf]
              exact List.length_pos_iff.2 this
            have dq : decide ((0 : Int) < (q : Int)) = true := decide_eq_true (by omega)
            have hmt : m ≤ t := by
              have h1 := hOy.1
              rw [List.length_map] at h1
              have h2 := orbs_len N gs t
              omega
            have ha7 := al1 wr (.cells #[.slice A15 q c15] 22)
            have HF := Lib.hid (And.intro (hOy.up ha7) (And.intro (hsiy.up ha7) (And.intro ((Tc.of_tb (B := BO) (n := q) htby).up ha7) (And.intro (show (ints (orb N gs t)).length = q from by rw [ints_length]; exact hqf) (And.intro (orbs_yes (n := N) hl) (HB0.out.1.trans (ha7.mono HB0.out.2)))))))
            have HZ2 := Lib.hid (show BO ≤ (wr.alloc (.cells #[.slice A15 q c15] 22)).heap.size from by rw [World.size_alloc]; have := HB0.out.2; omega)
            clear hsiy htby hOy hqf hye hl hjN ha7
            go_wp2_with (at_builtin; refine wpList_append_om2 (B := BO) rfl (.tmp 100) (.tmp 102) rfl A13 m c13 _ rfl HF.out.1 wr.heap.size 1 [ints (orb N gs t)] [.slice A15 q c15] rfl (by omega) rfl (Box.new wr _ _) rfl (list1 ⟨A15, c15, by rw [HF.out.2.2.2.1]; rfl, HF.out.2.1, by rw [HF.out.2.2.2.1]; exact HF.out.2.2.1⟩) (by intro u hu; simp at hu; subst hu; rfl) (by omega) HZ2.out ?_; intro g10 k10 w8 hO10 hb10 hg10 hat10; have HT := Lib.hid (And.intro hO10 hb10); clear hO10 hb10 hg10 hat10)
            go_roundw
            case rel => exact ⟨t + 1, m + 1, k10, some ⟨g10, 0, none⟩, by omega, rfl, by go_num, by rw [HF.out.2.2.2.2.1, List.map_append]; exact HT.out.1, HF.out.2.2.2.2.2.trans HT.out.2⟩
            case measure => simp [intOf]; omega
    | true =>
      have HPS := Lib.hid (show PasR N (fsum F N) gs 0 0 false F from ⟨Nat.le_refl _, (fun h => by cases h), (fun _ k' g i' h => by omega)⟩)
      have HS0 := Lib.hid (show fsum F N + 1 ≤ gk from KR.out.1 rfl)
      have HL1 := Lib.hid KR.out.2.2
      obtain ⟨S0, hS0⟩ : ∃ s, fsum F N = s := ⟨_, rfl⟩
      rw [hS0] at HPS HS0
      clear KR hS0
      go_wp2_with fail
      go_loopw [8, 9] (fun v8 v9 wr => ∃ (k : Nat) (ch : Bool) (F : Nat → Nat), k ≤ L ∧ v8 = .bool ch ∧ v9 = .int .i64 (k : Int) ∧ PasR N S0 gs k 0 ch F ∧ LeO BI w1 A7 c7 N gs F wr) (fun _ v9 _ => L - (intOf v9).toNat)
      case atStart => exact ⟨0, false, F, Nat.zero_le _, rfl, rfl, HPS.out, HL1.out⟩
      case round =>
        obtain ⟨k, ch, F2, hk, rfl, rfl, hP, hL⟩ := hrel
        have KS := Lib.hid (And.intro hP hL)
        clear hP hL HPS HL1
        by_cases hlk : k < L
        case neg =>
          have hdk : decide ((k : Int) < (L : Int)) = false := decide_eq_false (by omega)
          go_wp2_with fail
          go_roundg (gk - 1)
          case measure => have := HS0.out; omega
          case rel =>
            refine ⟨ch, F2, rfl, fun h => ?_, fun h g hg i hi => ?_, KS.out.2⟩
            · have h1 := KS.out.1.2.1 h
              have h2 := HS0.out
              omega
            · obtain ⟨k', hk', e⟩ := List.getElem_of_mem hg
              exact KS.out.1.2.2 h k' g i (.inl (by have := HG.out.2.2.1; omega)) (by rw [List.getElem?_eq_getElem hk', e]) hi
        case pos =>
        have hdk : decide ((k : Int) < (L : Int)) = true := decide_eq_true (by omega)
        obtain ⟨g, hg⟩ : ∃ g, gs[k]? = some g := ⟨_, List.getElem?_eq_getElem (by rw [HG.out.2.2.1]; exact hlk)⟩
        have hgm := List.mem_of_getElem? hg
        have hgp := HG.out.2.1 g hgm
        obtain ⟨b1, o1, Ag, cg, hAe, hbl, hc, hsg⟩ := HG.out.1.at_ (i := k) (l := ints g) (by rw [List.getElem?_map, hg]; rfl)
        subst hAe
        rw [ints_length, hgp.1] at hc
        have HX := Lib.hid (And.intro hg (And.intro hgm (And.intro hgp (And.intro hbl (And.intro hc hsg)))))
        have i0 : (0 : Int) ≤ (k : Int) := by omega
        have i1 : (k : Int) < (L : Int) := by omega
        clear hg hgm hgp hbl hc hsg
        go_wp2_with fail
        go_loopw [8, 10] (fun v8 v10 wr => ∃ (i : Nat) (ch : Bool) (F : Nat → Nat), i ≤ N ∧ v8 = .bool ch ∧ v10 = .int .i64 (i : Int) ∧ PasR N S0 gs k i ch F ∧ LeO BI w1 A7 c7 N gs F wr) (fun _ v10 _ => N - (intOf v10).toNat)
        case atStart => exact ⟨0, ch, F2, Nat.zero_le _, rfl, rfl, KS.out.1, KS.out.2⟩
        case round =>
          obtain ⟨i, ch2, F3, hi, rfl, rfl, hP, hL⟩ := hrel
          have KT := Lib.hid (And.intro hP hL)
          clear hP hL KS
          by_cases hli : i < N
          case neg =>
            have hdi : decide ((i : Int) < (N : Int)) = false := decide_eq_false (by omega)
            go_wp2_with fail
            go_roundw
            case rel =>
              refine ⟨k + 1, ch2, F3, by omega, rfl, by go_num, ⟨KT.out.1.1, KT.out.1.2.1, fun h k' g' i' hk hg' hi' => ?_⟩, KT.out.2⟩
              refine KT.out.1.2.2 h k' g' i' ?_ hg' hi'
              omega
            case measure => simp [intOf]; omega
          case pos =>
          have hdi : decide ((i : Int) < (N : Int)) = true := decide_eq_true (by omega)
          obtain ⟨gI, cI, hv7, hgI, hgIl⟩ := KT.out.2.1.form (by omega)
          injection hv7 with hA7 _ hc7
          subst hA7 hc7
          obtain ⟨y, hy⟩ : ∃ y, g[i]? = some y := ⟨_, List.getElem?_eq_getElem (by rw [HX.out.2.2.1.1]; exact hli)⟩
          have hyN := HX.out.2.2.1.2.1 y (List.mem_of_getElem? hy)
          obtain ⟨b2, o2, rfl, hb2, hc2⟩ := HX.out.2.2.2.2.2.at_ (j := i) (x := (y : Int)) (ints_at hy)
          have hbw : Below w.heap.size w wr := by
            have h1 := HB1.out.1
            have h2 := HB1.out.2
            rw [HG.out.2.2.2]
            exact h1.trans (KT.out.2.2.2.mono (by rw [← HBI.out]; exact h2))
          have hcell : ∀ (x : Nat), x < N → wr.cell? ⟨gI, x, none⟩ = some (.int .i64 (F3 x : Int)) := fun x hx => by
            rw [KT.out.2.1.cellAt x (by omega), List.getElem?_map, ris_at _ hx]
            rfl
          have hfz := fun x => KT.out.2.1.frozenAt x
          have z0 := (hbw.cell (p := ⟨b1, o1 + k, none⟩) HX.out.2.2.2.1).trans HX.out.2.2.2.2.1
          have z1 := (hbw.cell (p := ⟨b2, o2 + i, none⟩) hb2).trans hc2
          have HY := Lib.hid (And.intro hy (And.intro hyN (And.intro hcell (And.intro hfz (show g.getD i 0 = y from by rw [List.getD_eq_getElem?_getD, hy]; rfl)))))
          have j0 : (0 : Int) ≤ (i : Int) := by omega
          have j1 : (i : Int) < (N : Int) := by omega
          have j2 : (0 : Int) ≤ (y : Int) := by omega
          have j3 : (y : Int) < (N : Int) := by omega
          have HD1 := Lib.hid (fun W' (hb : Below wr.heap.size wr W') => show (fun w' => w'.cell? ⟨gI, i, none⟩ = some (.int .i64 (F3 i : Int)) ∧ w'.cell? ⟨gI, y, none⟩ = some (.int .i64 (F3 y : Int))) W' from ⟨(hb.cell (p := ⟨gI, i, none⟩) hgIl).trans (hcell i hli), (hb.cell (p := ⟨gI, y, none⟩) hgIl).trans (hcell y hyN)⟩)
          have HDV := Lib.hid (HD1.out _ (Below.refl wr.heap.size wr).drew)
          clear hy hb2 hc2 hbw hcell hfz
          go_upto_region 15 with fail
          clear z0 z1
          refine wp_region_later 9 (fun w' => w'.cell? ⟨gI, i, none⟩ = some (.int .i64 (F3 i : Int)) ∧ w'.cell? ⟨gI, y, none⟩ = some (.int .i64 (F3 y : Int))) (by kernel_rfl) ?_
          refine takeL (d := some 44) (i := 0) (v := ?v0) rfl rfl (by kernel_rfl) (by kernel_rfl) (by kernel_rfl) (fun _ _ _ h => h) rfl (by kernel_rfl) (Or.inl ⟨by rfl, ?z0⟩) HDV.out ?q0
          case z0 =>
            intro w hSw
            try dsimp only at hSw
            obtain ⟨d0, d1⟩ := hSw
            go_simp
            all_goals with_reducible rfl
          try simp only [Act.put, List.setIfInBounds_toArray, List.set_cons_zero, List.set_cons_succ, Array.toArray_toList]
          refine takeL (d := some 45) (i := 1) (v := ?v1) rfl rfl (by kernel_rfl) (by kernel_rfl) (by kernel_rfl) (fun _ _ _ h => h) rfl (by kernel_rfl) (Or.inl ⟨by rfl, ?z1⟩) HDV.out ?q1
          case z1 =>
            intro w hSw
            try dsimp only at hSw
            obtain ⟨d0, d1⟩ := hSw
            go_simp
            all_goals with_reducible rfl
          try simp only [Act.put, List.setIfInBounds_toArray, List.set_cons_zero, List.set_cons_succ, Array.toArray_toList]
          refine takeL (d := some 46) (i := 2) (v := ?v2) rfl rfl (by kernel_rfl) (by kernel_rfl) (by kernel_rfl) (fun _ _ _ h => h) rfl (by kernel_rfl) (Or.inl ⟨by rfl, ?z2⟩) HDV.out ?q2
          case z2 =>
            intro w hSw
            try dsimp only at hSw
            obtain ⟨d0, d1⟩ := hSw
            go_simp
            all_goals with_reducible rfl
          try simp only [Act.put, List.setIfInBounds_toArray, List.set_cons_zero, List.set_cons_succ, Array.toArray_toList]
          refine takeL (d := some 47) (i := 3) (v := ?v3) rfl rfl (by kernel_rfl) (by kernel_rfl) (by kernel_rfl) (fun _ _ _ h => h) rfl (by kernel_rfl) (Or.inl ⟨by rfl, ?z3⟩) HDV.out ?q3
          case z3 =>
            intro w hSw
            try dsimp only at hSw
            obtain ⟨d0, d1⟩ := hSw
            go_simp
            all_goals with_reducible rfl
          try simp only [Act.put, List.setIfInBounds_toArray, List.set_cons_zero, List.set_cons_succ, Array.toArray_toList]
          refine takeL (d := some 48) (i := 4) (v := ?v4) rfl rfl (by kernel_rfl) (by kernel_rfl) (by kernel_rfl) (fun _ _ _ h => h) rfl (by kernel_rfl) (Or.inl ⟨by rfl, ?z4⟩) HDV.out ?q4
          case z4 =>
            intro w hSw
            try dsimp only at hSw
            obtain ⟨d0, d1⟩ := hSw
            go_simp
            all_goals with_reducible rfl
          try simp only [Act.put, List.setIfInBounds_toArray, List.set_cons_zero, List.set_cons_succ, Array.toArray_toList]
          refine takeL (d := some 49) (i := 5) (v := ?v5) rfl rfl (by kernel_rfl) (by kernel_rfl) (by kernel_rfl) (fun _ _ _ h => h) rfl (by kernel_rfl) (Or.inl ⟨by rfl, ?z5⟩) HDV.out ?q5
          case z5 =>
            intro w hSw
            try dsimp only at hSw
            obtain ⟨d0, d1⟩ := hSw
            go_simp
            all_goals with_reducible rfl
          try simp only [Act.put, List.setIfInBounds_toArray, List.set_cons_zero, List.set_cons_succ, Array.toArray_toList]
          refine takeL (d := some 50) (i := 6) (v := ?v6) rfl rfl (by kernel_rfl) (by kernel_rfl) (by kernel_rfl) (fun _ _ _ h => h) rfl (by kernel_rfl) (Or.inl ⟨by rfl, ?z6⟩) HDV.out ?q6
          case z6 =>
            intro w hSw
            try dsimp only at hSw
            obtain ⟨d0, d1⟩ := hSw
            go_simp
            all_goals with_reducible rfl
          try simp only [Act.put, List.setIfInBounds_toArray, List.set_cons_zero, List.set_cons_succ, Array.toArray_toList]
          refine takeL (d := some 51) (i := 7) (v := ?v7) rfl rfl (by kernel_rfl) (by kernel_rfl) (by kernel_rfl) (fun _ _ _ h => h) rfl (by kernel_rfl) (Or.inl ⟨by rfl, ?z7⟩) HDV.out ?q7
          case z7 =>
            intro w hSw
            try dsimp only at hSw
            obtain ⟨d0, d1⟩ := hSw
            go_simp
            all_goals with_reducible rfl
          try simp only [Act.put, List.setIfInBounds_toArray, List.set_cons_zero, List.set_cons_succ, Array.toArray_toList]
          refine oneL (i := 8) (by kernel_rfl) rfl (fun K' hK => ?_)
          rw [if_pos (by rfl)]
          go_simp
          refine hK.out _ _ (fun _ => HDV.out) ?_
          clear hK
          refine oneL (i := 9) (by kernel_rfl) rfl (fun K' hK => ?_)
          go_simp
          refine hK.out _ _ (fun e => by simp at e) ?_
          clear hK
          refine doneL (by kernel_rfl) ?_ _
          clear HDV HD1
          obtain ⟨m, hm⟩ : ∃ m, min (F3 i) (F3 y) = m := ⟨_, rfl⟩
          rw [show min (F3 i : Int) (F3 y : Int) = (m : Int) from by omega]
          have hdr := (Below.refl wr.heap.size wr).drew
          have HV := Lib.hid (And.intro (own_below KT.out.2.1 hdr) (KT.out.2.2.2.trans (hdr.mono (by have h1 := KT.out.2.2.2.size; have h2 := HBI.out; omega))))
          have hrch : Rch gs i y := by
            have := Rch.step (gens := gs) (x := i) Rch.refl HX.out.2.1
            rwa [HY.out.2.2.2.2] at this
          have hgy := HY.out.2.2.2.2
          have hyN' := HY.out.2.1
          clear HY
          have HY := Lib.hid (And.intro hyN' (And.intro hrch hgy))
          clear hrch hgy hyN' hdr
          obtain ⟨V, hV⟩ : ∃ V, wr.drew = V := ⟨_, rfl⟩
          rw [hV] at HV ⊢
          clear hV
          have hcell : ∀ (x : Nat), x < N → V.cell? ⟨gI, x, none⟩ = some (.int .i64 (F3 x : Int)) := fun x hx => by
            rw [HV.out.1.cellAt x (by omega), List.getElem?_map, ris_at _ hx]
            rfl
          have ci := hcell i hli
          have cy := hcell y HY.out.1
          have fi := HV.out.1.frozenAt i
          have fy := HV.out.1.frozenAt y
          clear hcell
          by_cases e1 : F3 i = m
          case neg =>
            have d1 : ((F3 i : Int) != (m : Int)) = true := by rw [bne_iff_ne]; omega
            have HM := Lib.hid (And.intro hm.symm (show ¬ (F3 i = m ∧ F3 y = m) from fun h => e1 h.1))
            clear hm e1
            have own1 := HV.out.1.stored i (.int .i64 (m : Int))
            rw [upd_ris] at own1
            have own2 := own1.1.stored y (.int .i64 (m : Int))
            rw [upd_ris] at own2
            have cy1 : (V.setCell ⟨gI, i, none⟩ (.int .i64 (m : Int))).cell? ⟨gI, y, none⟩ = some (.int .i64 (upd F3 i m y : Int)) := by
              rw [own1.1.cellAt y (by omega), List.getElem?_map, ris_at _ (by omega)]
              rfl
            have fz1 := own1.1.frozenAt y
            have HO := Lib.hid (And.intro own2.1 ((HV.out.2.setCell (p := ⟨gI, i, none⟩) hgI (.int .i64 (m : Int))).setCell (p := ⟨gI, y, none⟩) hgI (.int .i64 (m : Int))))
            clear own1 own2
            go_wp2_with fail
            go_roundw
            case rel =>
              have hlt := fsum_upd2 (F := F3) hli HY.out.1 HM.out.1 HM.out.2
              have h1 := KT.out.1.1
              exact ⟨i + 1, true, upd (upd F3 i m) y m, by omega, rfl, by go_num, ⟨by omega, (fun _ => by omega), (fun h => by cases h)⟩, HO.out.1, KT.out.2.2.1.upd2 HG.out.2.1 hli HY.out.1 HY.out.2.1 HM.out.1, HO.out.2⟩
            case measure => simp [intOf]; omega
          case pos =>
          have d1 : ((F3 i : Int) != (m : Int)) = false := by rw [bne_eq_false_iff_eq]; omega
          by_cases e2 : F3 y = m
          case neg =>
            have d2 : ((F3 y : Int) != (m : Int)) = true := by rw [bne_iff_ne]; omega
            have HM := Lib.hid (And.intro hm.symm (show ¬ (F3 i = m ∧ F3 y = m) from fun h => e2 h.2))
            clear hm e1 e2
            have own1 := HV.out.1.stored i (.int .i64 (m : Int))
            rw [upd_ris] at own1
            have own2 := own1.1.stored y (.int .i64 (m : Int))
            rw [upd_ris] at own2
            have cy1 : (V.setCell ⟨gI, i, none⟩ (.int .i64 (m : Int))).cell? ⟨gI, y, none⟩ = some (.int .i64 (upd F3 i m y : Int)) := by
              rw [own1.1.cellAt y (by omega), List.getElem?_map, ris_at _ (by omega)]
              rfl
            have fz1 := own1.1.frozenAt y
            have HO := Lib.hid (And.intro own2.1 ((HV.out.2.setCell (p := ⟨gI, i, none⟩) hgI (.int .i64 (m : Int))).setCell (p := ⟨gI, y, none⟩) hgI (.int .i64 (m : Int))))
            clear own1 own2
            go_wp2_with fail
            go_roundw
            case rel =>
              have hlt := fsum_upd2 (F := F3) hli HY.out.1 HM.out.1 HM.out.2
              have h1 := KT.out.1.1
              exact ⟨i + 1, true, upd (upd F3 i m) y m, by omega, rfl, by go_num, ⟨by omega, (fun _ => by omega), (fun h => by cases h)⟩, HO.out.1, KT.out.2.2.1.upd2 HG.out.2.1 hli HY.out.1 HY.out.2.1 HM.out.1, HO.out.2⟩
            case measure => simp [intOf]; omega
          case pos =>
            have d2 : ((F3 y : Int) != (m : Int)) = false := by rw [bne_eq_false_iff_eq]; omega
            have HE := Lib.hid (show F3 i = F3 y from by rw [e1, e2])
            clear hm e1 e2
            go_wp2_with fail
            go_roundw
            case rel =>
              refine ⟨i + 1, ch2, F3, by omega, rfl, by go_num, ⟨KT.out.1.1, KT.out.1.2.1, fun h k' g' i' hk' hg' hi' => ?_⟩, HV.out.1, KT.out.2.2.1, HV.out.2⟩
              by_cases hold : k' < k ∨ (k' = k ∧ i' < i)
              · exact KT.out.1.2.2 h k' g' i' hold hg' hi'
              · obtain rfl : k' = k := by omega
                obtain rfl : i' = i := by omega
                rw [HX.out.1] at hg'
                injection hg' with hg'
                subst hg'
                rw [HY.out.2.2]
                exact HE.out
            case measure => simp [intOf]; omega
end Go.Proofs.Ytobchecnfkocdaa
