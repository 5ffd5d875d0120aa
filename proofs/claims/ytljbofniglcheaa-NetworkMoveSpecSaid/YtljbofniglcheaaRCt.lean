/- The reference's Cut. -/
import Derived.Test.YtljbofniglcheaaPlE
import Derived.Test.YtljbofniglcheaaCt
namespace Go.Proofs.Ytljbofniglcheaa
open Go.RowKit
set_option linter.unusedVariables false

/-- A row of the call's own with pairs. -/
def OwR (base : Nat) (w : World) (v : Value) (l : List (Int × Int)) : Prop := ∃ A c m, v = .slice A m c ∧ l.length = m ∧ w.ownsRow base 55 2 (.slice A m c) m (prc l)

set_option maxHeartbeats 8000000 in
set_option maxRecDepth 100000 in
theorem rcut_any (n : Nt) (A B : Option Addr) (c k : Nat) (a b : Int) (on : Bool) (w : World) (hS : NtIn w n A c B k) :
    Calls Try.prog 19 #[ntv n A c B k, .int .i64 a, .int .i64 b, .bool on] w (NtPost (ct n a b on) (cte n a b) w) := by
  have h2 := two_new w n A c B k
  have HC := Lib.hid (fun W (hb : Below w.heap.size w W) => rcheck_any n A B c k W (hS.up hb))
  have HIC := Lib.hid (fun W (hb : Below w.heap.size w W) (x y : Nat) (hxy : x < y) => show Calls Try.prog 40 #[ntv n A c B k, .int .i64 (x : Int), .int .i64 (y : Int)] W (BoolPost (isc n.ap ((x : Int), (y : Int))) W) from by
    have := riscut_any n A B c k (x : Int) (y : Int) W (hS.up hb)
    rw [btw_lt (by omega)] at this
    exact this)
  have HSA := Lib.hid (fun W => rsite_any a W)
  have HSB := Lib.hid (fun W => rsite_any b W)
  have H2 := Lib.hid h2
  have HSI := Lib.hid hS
  have HE := Lib.hid (show cte n a b = (if vld n then (if talk a b then 0 else 1) else 90) ∧ ct n a b on = (if vld n && talk a b then ⟨n.q, ctl n.ap (btw a b) on⟩ else nt0) from ⟨rfl, rfl⟩)
  have HCF := Lib.hid (fun hv ht => @ct_flt n a b on hv ht)
  have HTK := Lib.hid (show talk a b = (site a && site b && !(a == b)) from rfl)
  have HFK := Lib.hid (fun (x y : Nat) => show keepp n.ap (btw a b) on ((x : Int), (y : Int)) = (if ((x : Int) == min a b) && ((y : Int) == max a b) then on else isc n.ap ((x : Int), (y : Int))) from rfl)
  unfold NtPost IntPost BoolPost at *
  unfold ntv ntc at *
  clear h2 hS
  obtain ⟨N, hN⟩ : ∃ N, n.q.length = N := ⟨_, rfl⟩
  obtain ⟨M, hM⟩ : ∃ M, n.ap.length = M := ⟨_, rfl⟩
  have HN := Lib.hid (And.intro hN hM)
  rw [hN] at HC HIC H2 ⊢
  rw [hM] at HC HIC H2 ⊢
  clear hN hM
  go_enter Try.func19, Try.ntmps19
  go_wp2_with fail
  generalize World.alloc _ _ = W at *
  have hx := (H2.out.facts (Below.refl _ _)).1.1
  have hx1 := (H2.out.facts (Below.refl _ _)).1.2
  rw [HN.out.1] at hx
  rw [HN.out.2] at hx1
  rcases chk_cases n with ⟨h1, hv⟩ | ⟨h1, hv⟩
  case inr =>
    rw [h1] at HC
    rw [hv] at HE
    have HE2 := Lib.hid (show cte n a b = 90 ∧ ct n a b on = nt0 by simpa using HE.out)
    clear h1 hv HE
    go_wp2_with fail
    refine (HC.out _ H2.out.below).mono ?_
    rintro e w1 ⟨rfl, hb1⟩
    clear hx hx1
    obtain ⟨_, z0, z1, f0, f1⟩ := H2.out.facts hb1
    have HFN := Lib.hid (H2.out.fin hb1 (NtIn.zero w1) (l1 := 0) (l2 := 0) rfl rfl)
    clear hb1
    go_wp2_with fail
    refine bodyPost_ret (nt_ret2 Try.results19 rfl HFN.out.1) rfl ⟨none, 0, none, 0, ?_, ?_, ?_⟩
    · rw [HE2.out.1, HE2.out.2]; rfl
    · rw [HE2.out.2]; exact HFN.out.2.1
    · exact HFN.out.2.2
  rw [h1] at HC
  have HVV := Lib.hid hv
  rw [hv] at HE
  clear h1 hv
  go_wp2_with fail
  refine (HC.out _ H2.out.below).mono ?_
  rintro e w1 ⟨rfl, hb1⟩
  clear hx hx1
  obtain ⟨⟨x0, x1⟩, z0, z1, f0, f1⟩ := H2.out.facts hb1
  rw [HN.out.1] at x0
  rw [HN.out.2] at x1
  have HB1 := Lib.hid hb1
  have HBW := Lib.hid (H2.out.below.trans (hb1.mono H2.out.below.size))
  clear hb1
  rcases Bool.eq_false_or_eq_true (site a) with hsa | hsa
  case inr =>
    rw [hsa] at HSA HTK
    clear hsa
    have HT := Lib.hid (show talk a b = false by rw [HTK.out]; rfl)
    have HE2 := Lib.hid (show cte n a b = 1 ∧ ct n a b on = nt0 by simpa [HT.out] using HE.out)
    have HFN := Lib.hid (fin2 (r := w.heap.size + 1) (by omega) (H2.out.res.below HB1.out) HBW.out (NtIn.zero w1) (l1 := 0) (l2 := 0) rfl rfl)
    go_wp2_with fail
    refine (HSA.out _).mono ?_
    rintro e w2 ⟨rfl, rfl⟩
    go_wp2_with fail
    refine bodyPost_ret (nt_ret2 Try.results19 rfl HFN.out.1) rfl ⟨none, 0, none, 0, ?_, ?_, ?_⟩
    · rw [HE2.out.1, HE2.out.2]; rfl
    · rw [HE2.out.2]; exact HFN.out.2.1
    · exact HFN.out.2.2
  rw [hsa] at HSA HTK
  clear hsa
  rcases Bool.eq_false_or_eq_true (site b) with hsb | hsb
  case inr =>
    rw [hsb] at HSB HTK
    clear hsb
    have HT := Lib.hid (show talk a b = false by rw [HTK.out]; rfl)
    have HE2 := Lib.hid (show cte n a b = 1 ∧ ct n a b on = nt0 by simpa [HT.out] using HE.out)
    have HFN := Lib.hid (fin2 (r := w.heap.size + 1) (by omega) (H2.out.res.below HB1.out) HBW.out (NtIn.zero w1) (l1 := 0) (l2 := 0) rfl rfl)
    go_wp2_with fail
    refine (HSA.out _).mono ?_
    rintro e w2 ⟨rfl, rfl⟩
    go_wp2_with fail
    refine (HSB.out _).mono ?_
    rintro e w2 ⟨rfl, rfl⟩
    go_wp2_with fail
    refine bodyPost_ret (nt_ret2 Try.results19 rfl HFN.out.1) rfl ⟨none, 0, none, 0, ?_, ?_, ?_⟩
    · rw [HE2.out.1, HE2.out.2]; rfl
    · rw [HE2.out.2]; exact HFN.out.2.1
    · exact HFN.out.2.2
  rw [hsb] at HSB HTK
  clear hsb
  rcases Bool.eq_false_or_eq_true (a == b) with hab | hab
  case inl =>
    rw [hab] at HTK
    have HT := Lib.hid (show talk a b = false by rw [HTK.out]; rfl)
    have HE2 := Lib.hid (show cte n a b = 1 ∧ ct n a b on = nt0 by simpa [HT.out] using HE.out)
    have HFN := Lib.hid (fin2 (r := w.heap.size + 1) (by omega) (H2.out.res.below HB1.out) HBW.out (NtIn.zero w1) (l1 := 0) (l2 := 0) rfl rfl)
    go_wp2_with fail
    refine (HSA.out _).mono ?_
    rintro e w2 ⟨rfl, rfl⟩
    go_wp2_with fail
    refine (HSB.out _).mono ?_
    rintro e w2 ⟨rfl, rfl⟩
    go_wp2_with fail
    refine bodyPost_ret (nt_ret2 Try.results19 rfl HFN.out.1) rfl ⟨none, 0, none, 0, ?_, ?_, ?_⟩
    · rw [HE2.out.1, HE2.out.2]; rfl
    · rw [HE2.out.2]; exact HFN.out.2.1
    · exact HFN.out.2.2
  rw [hab] at HTK
  have HE2 := Lib.hid (HCF.out HVV.out HTK.out)
  clear HE HCF
  go_wp2_with fail
  refine (HSA.out _).mono ?_
  rintro e w2 ⟨rfl, rfl⟩
  go_wp2_with fail
  refine (HSB.out _).mono ?_
  rintro e w2 ⟨rfl, rfl⟩
  go_wp2_with fail
  clear hab x0 x1 z0 z1 f0 f1
  have HXC := Lib.hid (fun V (hb : Below W.heap.size W V) => show V.cell? ⟨w.heap.size, 0, none⟩ = some (.slice A N c) ∧ V.cell? ⟨w.heap.size, 1, none⟩ = some (.slice B M k) from by
    have h := (H2.out.facts hb).1
    rw [HN.out.1, HN.out.2] at h
    exact h)
  obtain ⟨L, hL⟩ : ∃ L : List (Int × Int) → List (Int × Int), (fun m => flt n.ap (btw a b) on m) = L := ⟨_, rfl⟩
  have HLL := Lib.hid (show ∀ m, L m = flt n.ap (btw a b) on m from fun m => by rw [← hL])
  clear hL
  go_loopw [10, 11] (fun v i wr => ∃ x : Nat, x ≤ 16 ∧ i = .int .i64 (x : Int) ∧ OwR W.heap.size wr v (L (bef x)) ∧ Below W.heap.size W wr) (fun _ i _ => 16 - (intOf i).toNat)
  case atStart => exact ⟨0, by omega, rfl, ⟨none, 0, 0, rfl, by rw [HLL.out]; rfl, by rw [HLL.out]; exact World.ownsRow_nil _ _ _ _⟩, HB1.out⟩
  case round =>
    obtain ⟨x, hx, rfl, ⟨A1, c1, m1, rfl, hm1, hr1⟩, hb⟩ := hrel
    obtain ⟨x0, x1⟩ := HXC.out wr hb
    by_cases hlt : x < 16
    · have hd : decide ((x : Int) < 16) = true := decide_eq_true (by omega)
      have HR1 := Lib.hid (And.intro hm1 (And.intro hr1 hb))
      have hltI : (x : Int) < 16 := by omega
      clear hm1 hr1 hb
      go_wp2_with fail
      clear x0 x1
      go_loopw [10, 12] (fun v i wr2 => ∃ y : Nat, x < y ∧ y ≤ 16 ∧ i = .int .i64 (y : Int) ∧ OwR W.heap.size wr2 v (L (bef x ++ rowp x y)) ∧ Below W.heap.size W wr2) (fun _ i _ => 16 - (intOf i).toNat)
      case atStart => exact ⟨x + 1, by omega, by omega, by go_num, ⟨A1, c1, m1, rfl, by rw [rowp_start, List.append_nil]; exact HR1.out.1, by rw [rowp_start, List.append_nil]; exact HR1.out.2.1⟩, HR1.out.2.2⟩
      case round =>
        obtain ⟨y, hxy, hy, rfl, ⟨A2, c2, m2, rfl, hm2, hr2⟩, hb⟩ := hrel
        obtain ⟨x0, x1⟩ := HXC.out _ hb
        by_cases hlt2 : y < 16
        · have hd2 : decide ((y : Int) < 16) = true := decide_eq_true (by omega)
          have hlt2I : (y : Int) < 16 := by omega
          have hmle : m2 ≤ 900000 := by
            rw [← hm2, HLL.out]
            have h1 := flt_len n.ap (btw a b) on (bef x ++ rowp x y)
            have h2 := bef_len x
            have h3 := rowp_len x y
            rw [List.length_append] at h1
            omega
          have HHC := Lib.hid (HIC.out _ (H2.out.below.trans (hb.mono H2.out.below.size)) x y hxy)
          have HRS := Lib.hid (And.intro hm2 (And.intro hr2 hb))
          have HLS := Lib.hid (show L (bef x ++ rowp x (y + 1)) = (if keepp n.ap (btw a b) on ((x : Int), (y : Int)) then L (bef x ++ rowp x y) ++ [((x : Int), (y : Int))] else L (bef x ++ rowp x y)) by
            rw [rowp_succ hxy, ← List.append_assoc, HLL.out, HLL.out]
            cases hk : keepp n.ap (btw a b) on ((x : Int), (y : Int))
            · rw [flt_no hk]; rfl
            · rw [flt_yes hk]; rfl)
          rw [HFK.out] at HLS
          clear hm2 hr2 hb
          obtain ⟨ic, hic⟩ : ∃ ic, isc n.ap ((x : Int), (y : Int)) = ic := ⟨_, rfl⟩
          rw [hic] at HHC HLS
          clear hic
          go_wp2_with fail
          refine HHC.out.mono ?_
          rintro e w5 ⟨rfl, hb5⟩
          have HR5 := Lib.hid (own_below HRS.out.2.1 hb5)
          have HB5 := Lib.hid (HRS.out.2.2.trans (hb5.mono HRS.out.2.2.size))
          clear hb5 x0 x1
          cases q1 : ((x : Int) == min a b)
          · rw [q1, Bool.false_and, if_neg Bool.false_ne_true] at HLS
            have HLS2 := HLS.out
            clear HLS
            cases ic
            · simp only [Bool.false_eq_true, if_false] at HLS2
              have HLS := Lib.hid HLS2
              clear HLS2
              go_wp2_with fail
              go_roundw
              case rel => exact ⟨y + 1, by omega, by omega, by go_num, ⟨A2, c2, m2, rfl, by rw [HLS.out]; exact HRS.out.1, by rw [HLS.out]; exact HR5.out⟩, HB5.out⟩
              case measure => simp [intOf]; omega
            · simp only [if_true] at HLS2
              have HLS := Lib.hid HLS2
              clear HLS2
              have HBN := Lib.hid (Box.new w5 #[.int .i64 (x : Int), .int .i64 (y : Int)] 55)
              go_wp2_with (refine wpList_append_pr (base := W.heap.size) rfl (.tmp 60) (.tmp 64) rfl (.slice A2 m2 c2) m2 (L (bef x ++ rowp x y)) rfl (HR5.out.alloc _) w5.heap.size (x : Int) (y : Int) rfl HBN.out hmle (by rw [World.size_alloc]; have := HB5.out.size; omega) ?_; intro g c6 w6 hr6 hg6; have HR6 := Lib.hid hr6; have HB6 := Lib.hid ((HB5.out.alloc HB5.out.size _).grown hg6 (Nat.le_trans HB5.out.size (by simp)) (fun i hi => (HR5.out.lt i hi).1)); clear hr6 hg6)
              go_roundw
              case rel => exact ⟨y + 1, by omega, by omega, by go_num, ⟨some ⟨g, 0, none⟩, c6, m2 + 1, rfl, by rw [HLS.out, List.length_append, HRS.out.1]; rfl, by rw [HLS.out]; exact HR6.out⟩, HB6.out⟩
              case measure => simp [intOf]; omega
          · cases q2 : ((y : Int) == max a b)
            · rw [q1, q2, Bool.and_false, if_neg Bool.false_ne_true] at HLS
              have HLS2 := HLS.out
              clear HLS
              cases ic
              · simp only [Bool.false_eq_true, if_false] at HLS2
                have HLS := Lib.hid HLS2
                clear HLS2
                go_wp2_with fail
                go_roundw
                case rel => exact ⟨y + 1, by omega, by omega, by go_num, ⟨A2, c2, m2, rfl, by rw [HLS.out]; exact HRS.out.1, by rw [HLS.out]; exact HR5.out⟩, HB5.out⟩
                case measure => simp [intOf]; omega
              · simp only [if_true] at HLS2
                have HLS := Lib.hid HLS2
                clear HLS2
                have HBN := Lib.hid (Box.new w5 #[.int .i64 (x : Int), .int .i64 (y : Int)] 55)
                go_wp2_with (refine wpList_append_pr (base := W.heap.size) rfl (.tmp 60) (.tmp 64) rfl (.slice A2 m2 c2) m2 (L (bef x ++ rowp x y)) rfl (HR5.out.alloc _) w5.heap.size (x : Int) (y : Int) rfl HBN.out hmle (by rw [World.size_alloc]; have := HB5.out.size; omega) ?_; intro g c6 w6 hr6 hg6; have HR6 := Lib.hid hr6; have HB6 := Lib.hid ((HB5.out.alloc HB5.out.size _).grown hg6 (Nat.le_trans HB5.out.size (by simp)) (fun i hi => (HR5.out.lt i hi).1)); clear hr6 hg6)
                go_roundw
                case rel => exact ⟨y + 1, by omega, by omega, by go_num, ⟨some ⟨g, 0, none⟩, c6, m2 + 1, rfl, by rw [HLS.out, List.length_append, HRS.out.1]; rfl, by rw [HLS.out]; exact HR6.out⟩, HB6.out⟩
                case measure => simp [intOf]; omega
            · rw [q1, q2, Bool.and_true, if_pos rfl] at HLS
              have HLS2 := HLS.out
              clear HLS
              cases on
              · simp only [Bool.false_eq_true, if_false] at HLS2
                have HLS := Lib.hid HLS2
                clear HLS2
                go_wp2_with fail
                go_roundw
                case rel => exact ⟨y + 1, by omega, by omega, by go_num, ⟨A2, c2, m2, rfl, by rw [HLS.out]; exact HRS.out.1, by rw [HLS.out]; exact HR5.out⟩, HB5.out⟩
                case measure => simp [intOf]; omega
              · simp only [if_true] at HLS2
                have HLS := Lib.hid HLS2
                clear HLS2
                have HBN := Lib.hid (Box.new w5 #[.int .i64 (x : Int), .int .i64 (y : Int)] 55)
                go_wp2_with (refine wpList_append_pr (base := W.heap.size) rfl (.tmp 60) (.tmp 64) rfl (.slice A2 m2 c2) m2 (L (bef x ++ rowp x y)) rfl (HR5.out.alloc _) w5.heap.size (x : Int) (y : Int) rfl HBN.out hmle (by rw [World.size_alloc]; have := HB5.out.size; omega) ?_; intro g c6 w6 hr6 hg6; have HR6 := Lib.hid hr6; have HB6 := Lib.hid ((HB5.out.alloc HB5.out.size _).grown hg6 (Nat.le_trans HB5.out.size (by simp)) (fun i hi => (HR5.out.lt i hi).1)); clear hr6 hg6)
                go_roundw
                case rel => exact ⟨y + 1, by omega, by omega, by go_num, ⟨some ⟨g, 0, none⟩, c6, m2 + 1, rfl, by rw [HLS.out, List.length_append, HRS.out.1]; rfl, by rw [HLS.out]; exact HR6.out⟩, HB6.out⟩
                case measure => simp [intOf]; omega
        · obtain rfl : y = 16 := by omega
          have hd2 : decide (((16 : Nat) : Int) < 16) = false := by decide
          have HRS := Lib.hid (And.intro hm2 (And.intro hr2 hb))
          clear hm2 hr2 hb x0 x1
          go_wp2_with fail
          go_roundw
          case rel => exact ⟨x + 1, by omega, by go_num, ⟨A2, c2, m2, rfl, by rw [bef_succ]; exact HRS.out.1, by rw [bef_succ]; exact HRS.out.2.1⟩, HRS.out.2.2⟩
          case measure => simp [intOf]; omega
    · obtain rfl : x = 16 := by omega
      obtain ⟨A5, c5, e5, hPP⟩ := PP.of_own hm1 hr1
      injection e5 with e6 e7 e8
      subst e6 e8
      have hX4 := H2.out.box.below hb
      have hZ4 := H2.out.res.below hb
      unfold ntc at hX4
      rw [HN.out.1, HN.out.2] at hX4
      have hBW := H2.out.below.trans (hb.mono H2.out.below.size)
      have HX5 := Lib.hid (show Box (wr.setCell ⟨w.heap.size, 1, none⟩ (.slice A1 m1 c1)) w.heap.size #[.slice A N c, .slice A1 m1 c1] 25 from hX4.set (i := 1) (v := .slice A1 m1 c1))
      have HZ5 := Lib.hid (box_other (b := w.heap.size) (i := 1) (v := .slice A1 m1 c1) hZ4 (by omega))
      have HP5 := Lib.hid (hPP.off hX4 (onlyS2 _ _ _ _ _ _) 1 (.slice A1 m1 c1))
      have HQ5 := Lib.hid ((HSI.out.1.up hBW).off hX4 (onlyS2 _ _ _ _ _ _) 1 (.slice A1 m1 c1))
      have HB5 := Lib.hid (hBW.setCell (p := ⟨w.heap.size, 1, none⟩) (Nat.le_refl _) (.slice A1 m1 c1))
      obtain ⟨f0, f1⟩ := And.intro (hX4.frozen 0) (hX4.frozen 1)
      rw [← HLL.out (bef 16)] at HE2
      have HMM := Lib.hid hm1
      clear hm1 hr1 hb hPP hX4 hZ4 hBW e7
      go_upto_region 18 with fail
      clear x0 x1 f0 f1
      generalize World.setCell wr _ _ = w5 at *
      obtain ⟨x0, x1, e0, e1⟩ := And.intro (HX5.out.cell 0) (And.intro (HX5.out.cell 1) (And.intro (HX5.out.frozen 0) (HX5.out.frozen 1)))
      obtain ⟨z0, z1, f0, f1⟩ := And.intro (HZ5.out.cell 0) (And.intro (HZ5.out.cell 1) (And.intro (HZ5.out.frozen 0) (HZ5.out.frozen 1)))
      simp only [List.getElem?_toArray, List.getElem?_cons_zero, List.getElem?_cons_succ] at x0 x1 z0 z1
      have HFN := Lib.hid (fin2 (r := w.heap.size + 1) (m := ⟨n.q, L (bef 16)⟩) (by omega) HZ5.out HB5.out ⟨HQ5.out, HP5.out⟩ HN.out.1 HMM.out)
      go_wp2_with fail
      refine bodyPost_ret (nt_ret2 Try.results19 rfl HFN.out.1) rfl ⟨A, c, A1, c1, ?_, ?_, ?_⟩
      · rw [HE2.out.1, HE2.out.2]
        show _ = Ending.returned (.tuple #[.agg #[.slice A n.q.length c, .slice A1 (L (bef 16)).length c1], _])
        rw [HN.out.1, HMM.out]; rfl
      · rw [HE2.out.1]; exact HFN.out.2.1
      · exact HFN.out.2.2
end Go.Proofs.Ytljbofniglcheaa
