/- The reference's Site, Packet, Check. -/
import Derived.Test.YtojijebmipgeeaaRt
import Derived.IntWalk
namespace Go.Proofs.Ytojijebmipgeeaa
open Go.RowKit
set_option linter.unusedVariables false

theorem rsite_any (n : Int) (w : World) : Calls Try.prog 33 #[.int .i64 n] w fun e w' => e = .returned (.bool (site n)) ∧ w = w' := by
  unfold site
  by_cases h1 : 0 ≤ n
  · by_cases h2 : n < 16
    · rw [decide_eq_true ⟨h1, h2⟩]
      go_enter Try.func33, Try.ntmps33
      go_wp2_with fail
      go_ret
      exact ⟨rfl, rfl⟩
    · rw [decide_eq_false (fun h => h2 h.2)]
      have hd : decide (n < 16) = false := decide_eq_false h2
      go_enter Try.func33, Try.ntmps33
      go_wp2_with fail
      go_ret
      exact ⟨rfl, rfl⟩
  · rw [decide_eq_false (fun h => h1 h.1)]
    have hd : decide (0 ≤ n) = false := decide_eq_false h1
    go_enter Try.func33, Try.ntmps33
    go_wp2_with fail
    go_ret
    exact ⟨rfl, rfl⟩
set_option maxHeartbeats 1000000 in
theorem rpacket_any (p : Pk) (D : Option Addr) (d : Nat) (w : World) (hl : p.da.length ≤ 9223372036854775807) : Calls Try.prog 30 #[pkv p D d] w (BoolPost (okp p) w) := by
  have hv : okp p = (site p.fr && site p.to && !(p.fr == p.to) && decide (p.da.length ≤ 1048576)) := rfl
  have HB := Lib.hid ((Below.refl w.heap.size w).alloc (Nat.le_refl _) (.cells (pkc p D d) 28))
  have HA := Lib.hid (fun W => rsite_any p.fr W)
  have HC := Lib.hid (fun W => rsite_any p.to W)
  unfold BoolPost
  unfold pkv pkc at *
  generalize p.da.length = n at *
  generalize p.fr = a at *
  generalize p.to = b at *
  rw [hv]
  clear hv
  have hne : (a != b) = !(a == b) := rfl
  cases h1 : site a <;> rw [h1] at HA <;> clear h1
  · go_enter Try.func30, Try.ntmps30
    go_wp2_with fail
    refine (HA.out _).mono ?_
    rintro e w1 ⟨rfl, rfl⟩
    go_wp2_with fail
    go_ret
    exact ⟨rfl, HB.out⟩
  · cases h2 : site b <;> rw [h2] at HC <;> clear h2
    · go_enter Try.func30, Try.ntmps30
      go_wp2_with fail
      refine (HA.out _).mono ?_
      rintro e w1 ⟨rfl, rfl⟩
      go_wp2_with fail
      refine (HC.out _).mono ?_
      rintro e w1 ⟨rfl, rfl⟩
      go_wp2_with fail
      go_ret
      exact ⟨rfl, HB.out⟩
    · cases h3 : a == b <;> rw [h3] at hne
      · by_cases h2 : n ≤ 1048576
        · rw [decide_eq_true h2]
          have hd : decide ((n : Int) ≤ 1048576) = true := decide_eq_true (by omega)
          go_enter Try.func30, Try.ntmps30
          go_wp2_with fail
          refine (HA.out _).mono ?_
          rintro e w1 ⟨rfl, rfl⟩
          go_wp2_with fail
          refine (HC.out _).mono ?_
          rintro e w1 ⟨rfl, rfl⟩
          go_wp2_with fail
          go_ret
          exact ⟨rfl, HB.out⟩
        · rw [decide_eq_false h2]
          have hd : decide ((n : Int) ≤ 1048576) = false := decide_eq_false (by omega)
          go_enter Try.func30, Try.ntmps30
          go_wp2_with fail
          refine (HA.out _).mono ?_
          rintro e w1 ⟨rfl, rfl⟩
          go_wp2_with fail
          refine (HC.out _).mono ?_
          rintro e w1 ⟨rfl, rfl⟩
          go_wp2_with fail
          go_ret
          exact ⟨rfl, HB.out⟩
      · go_enter Try.func30, Try.ntmps30
        go_wp2_with fail
        refine (HA.out _).mono ?_
        rintro e w1 ⟨rfl, rfl⟩
        go_wp2_with fail
        refine (HC.out _).mono ?_
        rintro e w1 ⟨rfl, rfl⟩
        go_wp2_with fail
        go_ret
        exact ⟨rfl, HB.out⟩

theorem vld_no_q {n : Nt} (h : n.q.all okp = false) : vld n = false := by
  unfold vld
  rw [h]
  simp
theorem vld_no_a {n : Nt} (h : apk n.ap = false) : vld n = false := by
  unfold vld
  rw [h]
  simp
theorem vld_no_l {n : Nt} (h : ¬ n.q.length ≤ 4096) : vld n = false := by
  unfold vld
  rw [decide_eq_false h]
  rfl
theorem vld_yes {n : Nt} (h1 : n.q.length ≤ 4096) (h2 : n.q.all okp = true) (h3 : apk n.ap = true) : vld n = true := by
  unfold vld
  rw [decide_eq_true h1, h2, h3]
  rfl
theorem chk_t {n : Nt} (h : vld n = true) : chk n = 0 := by unfold chk; rw [h]; rfl
theorem chk_f {n : Nt} (h : vld n = false) : chk n = 90 := by unfold chk; rw [h]; rfl
theorem okr_parts (a b : Int) : okr (a, b) = (site a && site b && decide (a < b)) := rfl
theorem lsp_parts (y1 y2 x1 x2 : Int) : lsp (y1, y2) (x1, x2) = !(decide (x1 < y1) || (x1 == y1 && decide (x2 ≤ y2))) := by
  unfold lsp
  rw [Bool.eq_iff_iff]
  simp
  omega

set_option maxHeartbeats 4000000 in
set_option maxRecDepth 100000 in
theorem rcheck_any (n : Nt) (A B : Option Addr) (c k : Nat) (w : World) (hS : NtIn w n A c B k) :
    Calls Try.prog 14 #[ntv n A c B k] w (IntPost (chk n) w) := by
  have hl := nt_len hS
  have hb0 := (Below.refl w.heap.size w).alloc (Nat.le_refl _) (.cells (ntc n A c B k) 25)
  have HX := Lib.hid (show NBox (w.alloc (.cells (ntc n A c B k) 25)) w.heap.size n A c B k from Box.new w _ _)
  have HB := Lib.hid hb0
  have HSI := Lib.hid (hS.up hb0)
  have HPK := Lib.hid (fun p D d W h => rpacket_any p D d W h)
  have HST := Lib.hid rsite_any
  have HVL := Lib.hid (fun h => @vld_no_l n h)
  have HVY := Lib.hid (fun h1 h2 h3 => @vld_yes n h1 h2 h3)
  have HQA := Lib.hid (@okq_all n.q)
  have HAA := Lib.hid (@oka_all n.ap)
  unfold IntPost BoolPost at *
  unfold ntv ntc pkv pkc at *
  clear hS hb0
  obtain ⟨N, hN⟩ : ∃ N, n.q.length = N := ⟨_, rfl⟩
  obtain ⟨M, hM⟩ : ∃ M, n.ap.length = M := ⟨_, rfl⟩
  have HN := Lib.hid (And.intro hN hM)
  rw [hN, hM] at hl HB HX HSI ⊢
  rw [hN] at HVL HVY HQA
  rw [hM] at HAA
  clear hN hM
  by_cases h1 : N ≤ 4096
  · have hd : decide ((4096 : Int) < (N : Int)) = false := decide_eq_false (by omega)
    have hd2 : decide (4096 < N) = false := decide_eq_false (by omega)
    go_enter Try.func14, Try.ntmps14
    go_wp2_with fail
    generalize w.alloc _ = W at *
    obtain ⟨x0, x1⟩ := HX.out.cells
    rw [HN.out.1] at x0
    rw [HN.out.2] at x1
    go_wp2_with fail
    have HXC := Lib.hid (fun V (hb : Below W.heap.size W V) => show V.cell? ⟨w.heap.size, 0, none⟩ = some (.slice A N c) ∧ V.cell? ⟨w.heap.size, 1, none⟩ = some (.slice B M k) from
      ⟨(hb.cell (p := ⟨w.heap.size, 0, none⟩) (World.block_lt_of_cell? _ _ x0)).trans x0, (hb.cell (p := ⟨w.heap.size, 1, none⟩) (World.block_lt_of_cell? _ _ x1)).trans x1⟩)
    clear x0 x1
    go_loopw [3] (fun i wr => ∃ j : Nat, j ≤ N ∧ i = .int .i64 j ∧ okq n.q j ∧ Below W.heap.size W wr) (fun i _ => N - (intOf i).toNat)
    case atStart => exact ⟨0, Nat.zero_le _, rfl, okq_zero _, Below.refl _ _⟩
    case round =>
      obtain ⟨j, hj, rfl, hq, hb⟩ := hrel
      obtain ⟨x0, x1⟩ := HXC.out wr hb
      by_cases hlt : j < N
      · have hjl : j < n.q.length := by have := HN.out.1; omega
        have hp : n.q[j]? = some n.q[j] := List.getElem?_eq_getElem hjl
        obtain ⟨p, hpe⟩ : ∃ p, n.q[j] = p := ⟨_, rfl⟩
        rw [hpe] at hp
        clear hpe
        obtain ⟨b, off, D, d, rfl, hlb, a0, a1, a2, a3⟩ := (HSI.out.1.up hb).at_ hp
        have hdl : p.da.length ≤ 9223372036854775807 := by have := Nat.le_trans a3.2.1 a3.2.2.1; unfold maxLen at this; omega
        have HPJ := Lib.hid (fun W => HPK.out p D d W hdl)
        have HPR := Lib.hid (And.intro hp (And.intro hq hb))
        clear hp hq hb a3 hdl hlb
        rcases okp_or p with ho | ho
        all_goals
          rw [ho] at HPJ
          have HO := Lib.hid ho
          clear ho
          generalize p.da.length = mp at *
          generalize p.fr = pa at *
          generalize p.to = pb at *
          go_wp2_with fail
          refine (HPJ.out _).mono ?_
          rintro e w5 ⟨rfl, hb5⟩
          have B5 := Lib.hid (HPR.out.2.2.trans (hb5.mono HPR.out.2.2.size))
          clear hb5 x0 x1 a0 a1 a2
          go_wp2_with fail
        · go_roundw
          case rel => exact ⟨j + 1, by omega, by go_num, okq_succ HPR.out.2.1 HPR.out.1 HO.out, B5.out⟩
          case measure => simp [intOf]; omega
        · go_ret
          exact ⟨by rw [chk_f (vld_no_q (okq_not HPR.out.1 HO.out))]; rfl, HB.out.trans (B5.out.mono HB.out.size)⟩
      · obtain rfl : j = N := by omega
        have HQQ := Lib.hid (And.intro (HQA.out hq) hb)
        clear hq hb
        go_wp2_with fail
        clear x0 x1
        go_loopw [4] (fun i wr => ∃ h : Nat, h ≤ M ∧ i = .int .i64 h ∧ oka n.ap h ∧ Below W.heap.size W wr) (fun i _ => M - (intOf i).toNat)
        case atStart => exact ⟨0, Nat.zero_le _, rfl, oka_zero _, HQQ.out.2⟩
        case round =>
          obtain ⟨h, hh, rfl, hoa, hb⟩ := hrel
          obtain ⟨x0, x1⟩ := HXC.out wr hb
          by_cases hlt2 : h < M
          · have hjl : h < n.ap.length := by have := HN.out.2; omega
            have hp : n.ap[h]? = some n.ap[h] := List.getElem?_eq_getElem hjl
            obtain ⟨p, hpe⟩ : ∃ p, n.ap[h] = p := ⟨_, rfl⟩
            rw [hpe] at hp
            clear hpe
            obtain ⟨b, off, rfl, hlb, a0, a1⟩ := (HSI.out.2.up hb).at_ hp
            obtain ⟨p1, p2⟩ := p
            simp only at a0 a1
            have HPR := Lib.hid (And.intro hp (And.intro hoa (And.intro hb hjl)))
            have hbn := (Below.refl wr.heap.size wr).alloc (Nat.le_refl _) (.cells #[.int .i64 p1, .int .i64 p2] 55)
            have HWN := Lib.hid (And.intro hbn (Box.new wr #[.int .i64 p1, .int .i64 p2] 55))
            have HB2 := Lib.hid (hb.trans (hbn.mono hb.size))
            have HOK := Lib.hid (okr_parts p1 p2)
            have HS1 := Lib.hid (fun W => HST.out p1 W)
            have HS2 := Lib.hid (fun W => HST.out p2 W)
            have HLT := Lib.hid hlb
            clear hp hoa hb hbn hjl hlb
            go_upto_region 12 with fail
            have hx2 : (wr.alloc (.cells #[.int .i64 p1, .int .i64 p2] 55)).cell? ⟨w.heap.size, 1, none⟩ = some (.slice (some ⟨b, off, none⟩) M k) := (HWN.out.1.cell (p := ⟨w.heap.size, 1, none⟩) (World.block_lt_of_cell? _ _ x1)).trans x1
            clear x0 x1 a0 a1
            generalize wr.alloc (.cells #[.int .i64 p1, .int .i64 p2] 55) = V at *
            have c0 := HWN.out.2.cell 0
            have c1 := HWN.out.2.cell 1
            simp only [List.getElem?_toArray, List.getElem?_cons_zero, List.getElem?_cons_succ] at c0 c1
            cases hs1 : site p1
            · rw [hs1] at HS1 HOK
              clear hs1
              go_wp2_with fail
              refine (HS1.out _).mono ?_
              rintro e w5 ⟨rfl, rfl⟩
              go_wp2_with fail
              go_ret
              exact ⟨by rw [chk_f (vld_no_a (oka_not HPR.out.2.2.2 (apa_false HPR.out.1 HOK.out)))]; rfl, HB.out.trans (HB2.out.mono HB.out.size)⟩
            · rw [hs1] at HS1 HOK
              clear hs1
              cases hs2 : site p2
              · rw [hs2] at HS2 HOK
                clear hs2
                go_wp2_with fail
                refine (HS1.out _).mono ?_
                rintro e w5 ⟨rfl, rfl⟩
                go_wp2_with fail
                refine (HS2.out _).mono ?_
                rintro e w5 ⟨rfl, rfl⟩
                go_wp2_with fail
                go_ret
                exact ⟨by rw [chk_f (vld_no_a (oka_not HPR.out.2.2.2 (apa_false HPR.out.1 HOK.out)))]; rfl, HB.out.trans (HB2.out.mono HB.out.size)⟩
              · rw [hs2] at HS2 HOK
                clear hs2
                by_cases hpp : p1 < p2
                · rw [decide_eq_true hpp] at HOK
                  have hpd : decide (p2 ≤ p1) = false := decide_eq_false (by omega)
                  have hpd2 : ¬ p2 ≤ p1 := by omega
                  clear hpp
                  go_wp2_with fail
                  refine (HS1.out _).mono ?_
                  rintro e w5 ⟨rfl, rfl⟩
                  go_wp2_with fail
                  refine (HS2.out _).mono ?_
                  rintro e w5 ⟨rfl, rfl⟩
                  go_wp2_with fail
                  by_cases hk0 : h = 0
                  · subst hk0
                    have HAK := Lib.hid (show apa n.ap 0 = true by rw [apa_zero HPR.out.1]; exact HOK.out)
                    go_quiet (fail)
                    go_wp2_with fail
                    go_roundw
                    case rel => exact ⟨0 + 1, by omega, by go_num, oka_succ HPR.out.2.1 HAK.out, HB2.out.trans ((below_drewN V nq).mono HB2.out.size)⟩
                    case measure => simp [intOf]; omega
                  · obtain ⟨g, hg⟩ : ∃ g, h = g + 1 := ⟨h - 1, by omega⟩
                    have HG := Lib.hid hg
                    have hgl : g < n.ap.length := by have := HN.out.2; omega
                    have hr : n.ap[g]? = some n.ap[g] := List.getElem?_eq_getElem hgl
                    obtain ⟨r, hre⟩ : ∃ r, n.ap[g] = r := ⟨_, rfl⟩
                    rw [hre] at hr
                    clear hre
                    obtain ⟨b', off', e, hlb', a0, a1⟩ := ((HSI.out.2.up HB2.out)).at_ hr
                    cases e
                    obtain ⟨r1, r2⟩ := r
                    simp only at a0 a1
                    have HAK := Lib.hid (show apa n.ap h = (okr (p1, p2) && lsp (r1, r2) (p1, p2)) by rw [HG.out]; exact apa_succ hr (by rw [← HG.out]; exact HPR.out.1))
                    have HLP := Lib.hid (lsp_parts r1 r2 p1 p2)
                    have hwj : IntKind.i64.wrap ((h : Int) - 1) = (g : Int) := by
                      have := IntWalk.i64_in ((h : Int) - 1) (by omega)
                      omega
                    have hgM : g < M := by omega
                    have hgM2 : (g : Int) < (M : Int) := by omega
                    have hg0 : (0 : Int) ≤ (g : Int) := by omega
                    have hk1 : decide ((0 : Int) < (h : Int)) = true := decide_eq_true (by omega)
                    have hk2 : 0 < h := by omega
                    have hk3 : decide (0 < h) = true := decide_eq_true hk2
                    clear hr hgl hlb' hg hk0
                    by_cases q1 : p1 < r1
                    · have q1d : decide (p1 < r1) = true := decide_eq_true q1
                      have HLS := Lib.hid (show lsp (r1, r2) (p1, p2) = false by rw [HLP.out, q1d]; rfl)
                      clear q1
                      go_quiet (fail)
                      clear hwj
                      go_wp2_with fail
                      go_ret
                      exact ⟨by rw [chk_f (vld_no_a (oka_not HPR.out.2.2.2 (HAK.out.trans (by rw [HLS.out]; simp))))]; rfl, HB.out.trans ((HB2.out.trans ((below_drewN V nq).mono HB2.out.size)).mono HB.out.size)⟩
                    · have q1d : decide (p1 < r1) = false := decide_eq_false q1
                      clear q1
                      cases q2 : p1 == r1
                      · have HLS := Lib.hid (show lsp (r1, r2) (p1, p2) = true by rw [HLP.out, q1d, q2]; rfl)
                        go_quiet (fail)
                        clear hwj
                        go_wp2_with fail
                        go_roundw
                        case rel => exact ⟨h + 1, by omega, by go_num, oka_succ HPR.out.2.1 (HAK.out.trans (by rw [HLS.out, HOK.out]; rfl)), HB2.out.trans ((below_drewN V nq).mono HB2.out.size)⟩
                        case measure => simp [intOf]; omega
                      · by_cases q3 : p2 ≤ r2
                        · have q3d : decide (p2 ≤ r2) = true := decide_eq_true q3
                          have HLS := Lib.hid (show lsp (r1, r2) (p1, p2) = false by rw [HLP.out, q1d, q2, q3d]; rfl)
                          clear q3
                          go_quiet (fail)
                          clear hwj
                          go_wp2_with fail
                          go_ret
                          exact ⟨by rw [chk_f (vld_no_a (oka_not HPR.out.2.2.2 (HAK.out.trans (by rw [HLS.out]; simp))))]; rfl, HB.out.trans ((HB2.out.trans ((below_drewN V nq).mono HB2.out.size)).mono HB.out.size)⟩
                        · have q3d : decide (p2 ≤ r2) = false := decide_eq_false q3
                          have HLS := Lib.hid (show lsp (r1, r2) (p1, p2) = true by rw [HLP.out, q1d, q2, q3d]; rfl)
                          clear q3
                          go_quiet (fail)
                          clear hwj
                          go_wp2_with fail
                          go_roundw
                          case rel => exact ⟨h + 1, by omega, by go_num, oka_succ HPR.out.2.1 (HAK.out.trans (by rw [HLS.out, HOK.out]; rfl)), HB2.out.trans ((below_drewN V nq).mono HB2.out.size)⟩
                          case measure => simp [intOf]; omega
                · rw [decide_eq_false hpp] at HOK
                  have hpd : decide (p2 ≤ p1) = true := decide_eq_true (by omega)
                  have hpd2 : p2 ≤ p1 := by omega
                  clear hpp
                  go_wp2_with fail
                  refine (HS1.out _).mono ?_
                  rintro e w5 ⟨rfl, rfl⟩
                  go_wp2_with fail
                  refine (HS2.out _).mono ?_
                  rintro e w5 ⟨rfl, rfl⟩
                  go_wp2_with fail
                  go_ret
                  exact ⟨by rw [chk_f (vld_no_a (oka_not HPR.out.2.2.2 (apa_false HPR.out.1 HOK.out)))]; rfl, HB.out.trans (HB2.out.mono HB.out.size)⟩
          · obtain rfl : h = M := by omega
            have HF := Lib.hid (chk_t (HVY.out h1 HQQ.out.1 (HAA.out hoa)))
            have HBL := Lib.hid hb
            clear hoa hb
            go_wp2_with fail
            go_ret
            exact ⟨by rw [HF.out]; rfl, HB.out.trans (HBL.out.mono HB.out.size)⟩
  · have hd : decide ((4096 : Int) < (N : Int)) = true := decide_eq_true (by omega)
    have hd2 : decide (4096 < N) = true := decide_eq_true (by omega)
    have HF := Lib.hid (chk_f (HVL.out h1))
    go_enter Try.func14, Try.ntmps14
    go_wp2_with fail
    go_ret
    exact ⟨by rw [HF.out]; rfl, HB.out⟩
end Go.Proofs.Ytojijebmipgeeaa
