/- NetworkCuts. -/
import Derived.Test.YtljbofniglcheaaPlD
import Derived.Test.YtljbofniglcheaaSane
import Derived.IntWalk
import Derived.Deep.Cut
import Derived.Deep.CutRange
namespace Go.Proofs.Ytljbofniglcheaa
open Go.RowKit Go.Sort
set_option linter.unusedVariables false

theorem bool2c (b : Bool) : b = true ∨ b = false := by cases b <;> simp
set_option maxHeartbeats 8000000 in
set_option maxRecDepth 100000 in
theorem lawCuts_any (n : Nt) (A B : Option Addr) (c k : Nat) (a b : Int) (u : Nat) (w : World) (hS : NtIn w n A c B k) (ha : u ≤ 18446744073709551615) :
    Calls Try.prog 7 #[ntv n A c B k, .int .i64 a, .int .i64 b, .int .u64 (u : Int)] w (BoolPost true w) := by
  obtain ⟨lqn, hlq⟩ : ∃ lq, n.q.length = lq := ⟨_, rfl⟩
  obtain ⟨lan, hla⟩ : ∃ la, n.ap.length = la := ⟨_, rfl⟩
  have hnl := nt_len hS
  have Hn := Lib.hid (NV.new hS hlq hla)
  have hval : ntv n A c B k = .agg #[.slice A lqn c, .slice B lan k] := by unfold ntv ntc; rw [hlq, hla]
  rw [hval]
  have HBZ := Lib.hid (alloc_lt w (.cells #[.slice A lqn c, .slice B lan k] 25))
  rw [hlq] at hnl
  have HLQ := Lib.hid (And.intro hlq hla)
  have HSN := Lib.hid sane_any
  unfold BoolPost at HSN ⊢
  clear hval hS hlq hla
  have hnl1 := hnl.1
  clear hnl
  go_enter Try.func7, Try.ntmps7
  go_wp2_with fail
  generalize w.alloc (.cells #[.slice A lqn c, .slice B lan k] 25) = W0 at *
  refine (HSN.out _).mono ?_
  rintro e ws ⟨rfl, hbs⟩
  have Hn := Lib.hid (Hn.out.up hbs)
  have HBZ := Lib.hid (HBZ.out.trans (hbs.mono HBZ.out.size))
  clear hbs
  have HFW := Lib.hid (few_v Hn.out)
  rcases bool2c (few n) with hf | hf
  case inr =>
    rw [hf] at HFW
    clear hf
    obtain ⟨xn0, xn1⟩ := Hn.out.cells
    go_wp2_with fail
    refine HFW.out.mono ?_
    rintro e w1 ⟨rfl, hb1⟩
    have HB1 := Lib.hid (HBZ.out.trans (hb1.mono HBZ.out.size))
    clear xn0 xn1 hb1
    go_wp2_with fail
    go_ret
    exact ⟨rfl, HB1.out⟩
  have HF := Lib.hid hf
  rw [hf] at HFW
  clear hf
  obtain ⟨xn0, xn1⟩ := Hn.out.cells
  go_wp2_with fail
  refine (HFW.out).mono ?_
  rintro e wf ⟨rfl, hbf⟩
  clear xn0 xn1
  have Hn := Lib.hid (Hn.out.up hbf)
  have HBZ := Lib.hid (HBZ.out.trans (hbf.mono HBZ.out.size))
  clear hbf
  have HCK := Lib.hid (check_v Hn.out)
  rcases chk_cases n with ⟨h1, hv⟩ | ⟨h1, hv⟩
  case inr =>
    rw [h1] at HCK
    clear h1 hv
    obtain ⟨xn0, xn1⟩ := Hn.out.cells
    go_wp2_with fail
    refine HCK.out.mono ?_
    rintro e w1 ⟨rfl, hb1⟩
    have HB1 := Lib.hid (HBZ.out.trans (hb1.mono HBZ.out.size))
    clear xn0 xn1 hb1
    go_wp2_with fail
    go_ret
    exact ⟨rfl, HB1.out⟩
  rw [h1] at HCK
  have HV := Lib.hid hv
  clear h1 hv
  obtain ⟨xn0, xn1⟩ := Hn.out.cells
  go_wp2_with fail
  refine (HCK.out).mono ?_
  rintro e wc ⟨rfl, hbc⟩
  clear xn0 xn1
  have Hn := Lib.hid (Hn.out.up hbc)
  have HBZ := Lib.hid (HBZ.out.trans (hbc.mono HBZ.out.size))
  clear hbc
  have HX := Lib.hid (cut_v Hn.out a b true)
  rcases bool2c (talk a b) with ht | ht
  case inr =>
    obtain ⟨h1, h2⟩ := cte_bad HV.out ht
    rw [h1, h2] at HX
    clear h1 h2 ht
    obtain ⟨xn0, xn1⟩ := Hn.out.cells
    go_wp2_with fail
    refine HX.out.mono ?_
    rintro e w1 ⟨A1, c1, B1, k1, lq1, la1, rfl, _, _, hb1⟩
    have HB1 := Lib.hid (HBZ.out.trans ((hb1.trans ((alloc_lt w1 (.cells #[.slice A1 lq1 c1, .slice B1 la1 k1] 25)).mono hb1.size)).mono HBZ.out.size))
    clear xn0 xn1 hb1
    go_wp2_with fail
    go_ret
    exact ⟨rfl, HB1.out⟩
  have HT := Lib.hid ht
  have HPL := Lib.hid (cuts_plain HV.out ht)
  rw [HPL.out.1.1, HPL.out.1.2] at HX
  clear ht
  obtain ⟨xn0, xn1⟩ := Hn.out.cells
  go_wp2_with fail
  refine (HX.out).mono ?_
  rintro e w1 ⟨Ax, cx, Bx, kx, lqx, lax, rfl, ⟨hqx, hax⟩, hnx, hbx⟩
  have hzx := hbx.trans ((alloc_lt w1 (.cells #[.slice Ax lqx cx, .slice Bx lax kx] 25)).mono hbx.size)
  clear xn0 xn1
  have Hn := Lib.hid (Hn.out.up hzx)
  have HBZ := Lib.hid (HBZ.out.trans (hzx.mono HBZ.out.size))
  have Hx := Lib.hid (NV.new hnx hqx hax)
  have HLx := Lib.hid (And.intro hqx hax)
  clear hzx hbx hnx hqx hax
  go_upto_region 8 with fail
  generalize w1.alloc _ = W1 at *
  have HY := Lib.hid (by have := cut_v Hn.out b a true; rw [HPL.out.2.1.1, HPL.out.2.1.2] at this; exact this)
  obtain ⟨xn0, xn1⟩ := Hn.out.cells
  go_wp2_with fail
  refine (HY.out).mono ?_
  rintro e w2 ⟨Ay, cy, By, ky, lqy, lay, rfl, ⟨hqy, hay⟩, hny, hby⟩
  have hzy := hby.trans ((alloc_lt w2 (.cells #[.slice Ay lqy cy, .slice By lay ky] 25)).mono hby.size)
  clear xn0 xn1
  have Hn := Lib.hid (Hn.out.up hzy)
  have Hx := Lib.hid (Hx.out.up hzy)
  have HBZ := Lib.hid (HBZ.out.trans (hzy.mono HBZ.out.size))
  have Hy := Lib.hid (NV.new hny hqy hay)
  have HLy := Lib.hid (And.intro hqy hay)
  clear hzy hby hny hqy hay
  go_upto_region 9 with fail
  generalize w2.alloc _ = W2 at *
  have HZ := Lib.hid (by have := cut_v Hx.out a b true; rw [HPL.out.2.2.1.1, HPL.out.2.2.1.2] at this; exact this)
  obtain ⟨xx0, xx1⟩ := Hx.out.cells
  go_wp2_with fail
  refine (HZ.out).mono ?_
  rintro e w3 ⟨Az, cz, Bz, kz, lqz, laz, rfl, ⟨hqz, haz⟩, hnz, hbz⟩
  have hzz := hbz.trans ((alloc_lt w3 (.cells #[.slice Az lqz cz, .slice Bz laz kz] 25)).mono hbz.size)
  clear xx0 xx1
  have Hn := Lib.hid (Hn.out.up hzz)
  have Hx := Lib.hid (Hx.out.up hzz)
  have Hy := Lib.hid (Hy.out.up hzz)
  have HBZ := Lib.hid (HBZ.out.trans (hzz.mono HBZ.out.size))
  have Hz := Lib.hid (NV.new hnz hqz haz)
  have HLz := Lib.hid (And.intro hqz haz)
  clear hzz hbz hnz hqz haz
  go_upto_region 10 with fail
  generalize w3.alloc _ = W3 at *
  have HM := Lib.hid (by have := cut_v Hx.out b a false; rw [HPL.out.2.2.2.1.1, HPL.out.2.2.2.1.2] at this; exact this)
  obtain ⟨xx0, xx1⟩ := Hx.out.cells
  go_wp2_with fail
  refine (HM.out).mono ?_
  rintro e w4 ⟨Am, cm, Bm, km, lqm, lam, rfl, ⟨hqm, ham⟩, hnm, hbm⟩
  have hzm := hbm.trans ((alloc_lt w4 (.cells #[.slice Am lqm cm, .slice Bm lam km] 25)).mono hbm.size)
  clear xx0 xx1
  have Hn := Lib.hid (Hn.out.up hzm)
  have Hx := Lib.hid (Hx.out.up hzm)
  have Hy := Lib.hid (Hy.out.up hzm)
  have Hz := Lib.hid (Hz.out.up hzm)
  have HBZ := Lib.hid (HBZ.out.trans (hzm.mono HBZ.out.size))
  have Hm := Lib.hid (NV.new hnm hqm ham)
  have HLm := Lib.hid (And.intro hqm ham)
  clear hzm hbm hnm hqm ham
  go_upto_region 11 with fail
  generalize w4.alloc _ = W4 at *
  have HK := Lib.hid (by have := cut_v Hn.out a b false; rw [HPL.out.2.2.2.2.1, HPL.out.2.2.2.2.2] at this; exact this)
  obtain ⟨xn0, xn1⟩ := Hn.out.cells
  go_wp2_with fail
  refine (HK.out).mono ?_
  rintro e w5 ⟨Ak, ck, Bk, kk, lqk, lak, rfl, ⟨hqk, hak⟩, hnk, hbk⟩
  have hzk := hbk.trans ((alloc_lt w5 (.cells #[.slice Ak lqk ck, .slice Bk lak kk] 25)).mono hbk.size)
  clear xn0 xn1
  have Hn := Lib.hid (Hn.out.up hzk)
  have Hx := Lib.hid (Hx.out.up hzk)
  have Hy := Lib.hid (Hy.out.up hzk)
  have Hz := Lib.hid (Hz.out.up hzk)
  have Hm := Lib.hid (Hm.out.up hzk)
  have HBZ := Lib.hid (HBZ.out.trans (hzk.mono HBZ.out.size))
  have Hk := Lib.hid (NV.new hnk hqk hak)
  have HLk := Lib.hid (And.intro hqk hak)
  clear hzk hbk hnk hqk hak
  go_upto_region 12 with fail
  generalize w5.alloc _ = W5 at *
  have HS1 := Lib.hid (by have := same_v Hx.out Hy.out; rw [smn_refl] at this; exact this)
  obtain ⟨xx0, xx1⟩ := Hx.out.cells
  obtain ⟨xy0, xy1⟩ := Hy.out.cells
  go_wp2_with fail
  refine (HS1.out).mono ?_
  rintro e ws1 ⟨rfl, hbs1⟩
  clear xx0 xx1 xy0 xy1
  have Hn := Lib.hid (Hn.out.up hbs1)
  have Hx := Lib.hid (Hx.out.up hbs1)
  have Hy := Lib.hid (Hy.out.up hbs1)
  have Hz := Lib.hid (Hz.out.up hbs1)
  have Hm := Lib.hid (Hm.out.up hbs1)
  have Hk := Lib.hid (Hk.out.up hbs1)
  have HBZ := Lib.hid (HBZ.out.trans (hbs1.mono HBZ.out.size))
  clear hbs1
  have HS2 := Lib.hid (by have := same_v Hx.out Hz.out; rw [smn_refl] at this; exact this)
  obtain ⟨xx0, xx1⟩ := Hx.out.cells
  obtain ⟨xz0, xz1⟩ := Hz.out.cells
  go_wp2_with fail
  refine (HS2.out).mono ?_
  rintro e ws2 ⟨rfl, hbs2⟩
  clear xx0 xx1 xz0 xz1
  have Hn := Lib.hid (Hn.out.up hbs2)
  have Hx := Lib.hid (Hx.out.up hbs2)
  have Hy := Lib.hid (Hy.out.up hbs2)
  have Hz := Lib.hid (Hz.out.up hbs2)
  have Hm := Lib.hid (Hm.out.up hbs2)
  have Hk := Lib.hid (Hk.out.up hbs2)
  have HBZ := Lib.hid (HBZ.out.trans (hbs2.mono HBZ.out.size))
  clear hbs2
  have HS3 := Lib.hid (by have := same_v Hm.out Hk.out; rw [smn_refl] at this; exact this)
  obtain ⟨xm0, xm1⟩ := Hm.out.cells
  obtain ⟨xk0, xk1⟩ := Hk.out.cells
  go_wp2_with fail
  refine (HS3.out).mono ?_
  rintro e ws3 ⟨rfl, hbs3⟩
  clear xm0 xm1 xk0 xk1
  have Hn := Lib.hid (Hn.out.up hbs3)
  have Hx := Lib.hid (Hx.out.up hbs3)
  have Hy := Lib.hid (Hy.out.up hbs3)
  have Hz := Lib.hid (Hz.out.up hbs3)
  have Hm := Lib.hid (Hm.out.up hbs3)
  have Hk := Lib.hid (Hk.out.up hbs3)
  have HBZ := Lib.hid (HBZ.out.trans (hbs3.mono HBZ.out.size))
  clear hbs3
  have hlx : lax = lak + 1 := by have h1 := HLx.out.2; have h2 := HLk.out.2; rw [(cutn_len _ _).1] at h1; omega
  subst hlx
  have hlk : lak ≤ 300 := by have h2 := HLk.out.2; have := vld_few (cutn_vld false HV.out HT.out); omega
  obtain ⟨xx0, xx1⟩ := Hx.out.cells
  obtain ⟨xk0, xk1⟩ := Hk.out.cells
  obtain ⟨xn0, xn1⟩ := Hn.out.cells
  by_cases h0 : lqn = 0
  case pos =>
    have hd : ((lqn : Int) == 0) = true := by simp [h0]
    clear h0
    go_wp2_with fail
    go_ret
    exact ⟨rfl, HBZ.out⟩
  have hd : ((lqn : Int) == 0) = false := by simp [h0]
  have hpos : 0 < lqn := by omega
  clear h0
  obtain ⟨i, hi⟩ : ∃ i, u % lqn = i := ⟨_, rfl⟩
  have hil : i < lqn := by rw [← hi]; exact Nat.mod_lt _ hpos
  have HI := Lib.hid hi
  have hmod : ((u : Int) % (lqn : Int)) = (i : Int) := by rw [← hi]; omega
  clear hi
  have HD0 := Lib.hid (show hle (cutn n (btw a b) true) (i : Int) = 0 ∧ hle (cutn n (btw a b) false) (i : Int) = 0 from ⟨(dlp_cut true HV.out HT.out (by rw [HLQ.out.1]; exact hil)).1, (dlp_cut false HV.out HT.out (by rw [HLQ.out.1]; exact hil)).1⟩)
  have HDL := Lib.hid (cuts_dl HV.out HT.out (by rw [HLQ.out.1]; exact hil))
  go_upto_region 17 with fail
  clear hmod
  clear xx0 xx1 xk0 xk1 xn0 xn1
  obtain ⟨xn, hxn⟩ : ∃ xn, cutn n (btw a b) true = xn := ⟨_, rfl⟩
  obtain ⟨kn, hkn⟩ : ∃ kn, cutn n (btw a b) false = kn := ⟨_, rfl⟩
  rw [hxn] at Hx HDL HD0
  rw [hkn] at Hk HDL HD0
  clear hxn hkn
  have HD1 := Lib.hid (by have := deliver_v Hx.out (i : Int); rw [HD0.out.1] at this; exact this)
  obtain ⟨xx0, xx1⟩ := Hx.out.cells
  go_wp2_with fail
  refine (HD1.out).mono ?_
  rintro e w6 ⟨Dp, dp, mp, Azx, czx, Bzx, kzx, lqzx, lazx, rfl, ⟨hmp, hsp⟩, ⟨hqzx, hazx⟩, hnzx, hbzx⟩
  have hyzx := hbzx.trans ((alloc_lt w6 (.cells #[.int .i64 (dlp xn (i : Int)).fr, .int .i64 (dlp xn (i : Int)).to, .slice Dp mp dp] 28)).mono hbzx.size)
  have hzzx := hyzx.trans ((alloc_lt (w6.alloc (.cells #[.int .i64 (dlp xn (i : Int)).fr, .int .i64 (dlp xn (i : Int)).to, .slice Dp mp dp] 28)) (.cells #[.slice Azx lqzx czx, .slice Bzx lazx kzx] 25)).mono hyzx.size)
  clear xx0 xx1
  have Hn := Lib.hid (Hn.out.up hzzx)
  have Hx := Lib.hid (Hx.out.up hzzx)
  have Hy := Lib.hid (Hy.out.up hzzx)
  have Hz := Lib.hid (Hz.out.up hzzx)
  have Hm := Lib.hid (Hm.out.up hzzx)
  have Hk := Lib.hid (Hk.out.up hzzx)
  have HBZ := Lib.hid (HBZ.out.trans (hzzx.mono HBZ.out.size))
  have Hp := Lib.hid (PV.up (PV.new hsp hmp) (alloc_lt _ (.cells #[.slice Azx lqzx czx, .slice Bzx lazx kzx] 25)))
  have Hzx := Lib.hid (NV.new (hnzx.up (alloc_lt w6 (.cells #[.int .i64 (dlp xn (i : Int)).fr, .int .i64 (dlp xn (i : Int)).to, .slice Dp mp dp] 28))) hqzx hazx)
  rw [World.size_alloc] at Hzx
  have HLzx := Lib.hid (And.intro hqzx hazx)
  clear hyzx hzzx hbzx hnzx hqzx hazx hmp hsp
  go_upto_region 18 with fail
  generalize (w6.alloc (.cells #[.int .i64 (dlp xn (i : Int)).fr, .int .i64 (dlp xn (i : Int)).to, .slice Dp mp dp] 28)).alloc (.cells #[.slice Azx lqzx czx, .slice Bzx lazx kzx] 25) = W6 at *
  have HD2 := Lib.hid (by have := deliver_v Hk.out (i : Int); rw [HD0.out.2] at this; exact this)
  obtain ⟨xk0, xk1⟩ := Hk.out.cells
  go_wp2_with fail
  refine (HD2.out).mono ?_
  rintro e w7 ⟨Dq, dq, mq, Azk, czk, Bzk, kzk, lqzk, lazk, rfl, ⟨hmq, hsq⟩, ⟨hqzk, hazk⟩, hnzk, hbzk⟩
  have hyzk := hbzk.trans ((alloc_lt w7 (.cells #[.int .i64 (dlp kn (i : Int)).fr, .int .i64 (dlp kn (i : Int)).to, .slice Dq mq dq] 28)).mono hbzk.size)
  have hzzk := hyzk.trans ((alloc_lt (w7.alloc (.cells #[.int .i64 (dlp kn (i : Int)).fr, .int .i64 (dlp kn (i : Int)).to, .slice Dq mq dq] 28)) (.cells #[.slice Azk lqzk czk, .slice Bzk lazk kzk] 25)).mono hyzk.size)
  clear xk0 xk1
  have Hn := Lib.hid (Hn.out.up hzzk)
  have Hx := Lib.hid (Hx.out.up hzzk)
  have Hy := Lib.hid (Hy.out.up hzzk)
  have Hz := Lib.hid (Hz.out.up hzzk)
  have Hm := Lib.hid (Hm.out.up hzzk)
  have Hk := Lib.hid (Hk.out.up hzzk)
  have Hp := Lib.hid (Hp.out.up hzzk)
  have Hzx := Lib.hid (Hzx.out.up hzzk)
  have HBZ := Lib.hid (HBZ.out.trans (hzzk.mono HBZ.out.size))
  have Hq := Lib.hid (PV.up (PV.new hsq hmq) (alloc_lt _ (.cells #[.slice Azk lqzk czk, .slice Bzk lazk kzk] 25)))
  have Hzk := Lib.hid (NV.new (hnzk.up (alloc_lt w7 (.cells #[.int .i64 (dlp kn (i : Int)).fr, .int .i64 (dlp kn (i : Int)).to, .slice Dq mq dq] 28))) hqzk hazk)
  rw [World.size_alloc] at Hzk
  have HLzk := Lib.hid (And.intro hqzk hazk)
  clear hyzk hzzk hbzk hnzk hqzk hazk hmq hsq
  go_upto_region 19 with fail
  generalize (w7.alloc (.cells #[.int .i64 (dlp kn (i : Int)).fr, .int .i64 (dlp kn (i : Int)).to, .slice Dq mq dq] 28)).alloc (.cells #[.slice Azk lqzk czk, .slice Bzk lazk kzk] 25) = W7 at *
  obtain ⟨P, hP⟩ : ∃ P, dlp xn (i : Int) = P := ⟨_, rfl⟩
  obtain ⟨Q, hQ⟩ : ∃ Q, dlp kn (i : Int) = Q := ⟨_, rfl⟩
  rw [hP] at Hp HDL
  rw [hQ] at Hq HDL
  rw [hP, hQ]
  clear hP hQ
  obtain ⟨bt, hbt⟩ : ∃ bt, btn Q a b = bt := ⟨_, rfl⟩
  rw [hbt] at HDL
  have HBT := Lib.hid (show ((Q.fr == a && Q.to == b) || (Q.fr == b && Q.to == a)) = bt from hbt)
  clear hbt
  obtain ⟨xq0, xq1, xq2⟩ := Hq.out.cells
  generalize Q.fr = qf at *
  generalize Q.to = qt at *
  go_cut [26] from 143 to 164 (fun t wx => t = .bool bt ∧ wx = W7)
  case first =>
    cases t1 : qf == a
    · cases t3 : qf == b
      · have HR := Lib.hid (show bt = false by rw [← HBT.out, t1, t3]; rfl)
        go_wp2_with fail
        go_meet
        exact ⟨by rw [HR.out], rfl⟩
      · cases t4 : qt == a
        · have HR := Lib.hid (show bt = false by rw [← HBT.out, t1, t3, t4]; rfl)
          go_wp2_with fail
          go_meet
          exact ⟨by rw [HR.out], rfl⟩
        · have HR := Lib.hid (show bt = true by rw [← HBT.out, t1, t3, t4]; rfl)
          go_wp2_with fail
          go_meet
          exact ⟨by rw [HR.out], rfl⟩
    · cases t2 : qt == b
      · cases t3 : qf == b
        · have HR := Lib.hid (show bt = false by rw [← HBT.out, t1, t2, t3]; rfl)
          go_wp2_with fail
          go_meet
          exact ⟨by rw [HR.out], rfl⟩
        · cases t4 : qt == a
          · have HR := Lib.hid (show bt = false by rw [← HBT.out, t1, t2, t3, t4]; rfl)
            go_wp2_with fail
            go_meet
            exact ⟨by rw [HR.out], rfl⟩
          · have HR := Lib.hid (show bt = true by rw [← HBT.out, t1, t2, t3, t4]; rfl)
            go_wp2_with fail
            go_meet
            exact ⟨by rw [HR.out], rfl⟩
      · have HR := Lib.hid (show bt = true by rw [← HBT.out, t1, t2]; rfl)
        go_wp2_with fail
        go_meet
        exact ⟨by rw [HR.out], rfl⟩
  obtain ⟨rfl, rfl⟩ := hcut
  clear xq0 xq1 xq2
  cases hb : bt
  case true =>
    rw [hb] at HDL
    clear hb
    have HS4 := Lib.hid (by have := samep_0 Hp.out; rw [HDL.out.1 rfl] at this; exact this)
    obtain ⟨xp0, xp1, xp2⟩ := Hp.out.cells
    go_wp2_with fail
    refine HS4.out.mono ?_
    rintro e w9 ⟨rfl, hb9⟩
    have HB9 := Lib.hid (HBZ.out.trans (hb9.mono HBZ.out.size))
    clear xp0 xp1 xp2 hb9
    go_wp2_with fail
    go_ret
    exact ⟨rfl, HB9.out⟩
  rw [hb] at HDL
  clear hb
  have HS4 := Lib.hid (by have := samep_0 Hp.out; rw [(HDL.out.2 rfl).1] at this; exact this)
  have HSS := Lib.hid (HDL.out.2 rfl).2
  clear HDL
  obtain ⟨xp0, xp1, xp2⟩ := Hp.out.cells
  go_wp2_with fail
  refine (HS4.out).mono ?_
  rintro e ws4 ⟨rfl, hbs4⟩
  clear xp0 xp1 xp2
  have Hn := Lib.hid (Hn.out.up hbs4)
  have Hx := Lib.hid (Hx.out.up hbs4)
  have Hy := Lib.hid (Hy.out.up hbs4)
  have Hz := Lib.hid (Hz.out.up hbs4)
  have Hm := Lib.hid (Hm.out.up hbs4)
  have Hk := Lib.hid (Hk.out.up hbs4)
  have Hp := Lib.hid (Hp.out.up hbs4)
  have Hzx := Lib.hid (Hzx.out.up hbs4)
  have Hq := Lib.hid (Hq.out.up hbs4)
  have Hzk := Lib.hid (Hzk.out.up hbs4)
  have HBZ := Lib.hid (HBZ.out.trans (hbs4.mono HBZ.out.size))
  clear hbs4
  have HS5 := Lib.hid (samep_0 Hq.out)
  obtain ⟨sq, hsq⟩ : ∃ sq, spk Q pk0 = sq := ⟨_, rfl⟩
  rw [hsq] at HS5
  rw [hsq]
  clear hsq
  cases sq
  all_goals
    obtain ⟨xq0, xq1, xq2⟩ := Hq.out.cells
    go_wp2_with fail
    refine (HS5.out).mono ?_
    rintro e ws5 ⟨rfl, hbs5⟩
    clear xq0 xq1 xq2
    have Hn := Lib.hid (Hn.out.up hbs5)
    have Hx := Lib.hid (Hx.out.up hbs5)
    have Hy := Lib.hid (Hy.out.up hbs5)
    have Hz := Lib.hid (Hz.out.up hbs5)
    have Hm := Lib.hid (Hm.out.up hbs5)
    have Hk := Lib.hid (Hk.out.up hbs5)
    have Hp := Lib.hid (Hp.out.up hbs5)
    have Hzx := Lib.hid (Hzx.out.up hbs5)
    have Hq := Lib.hid (Hq.out.up hbs5)
    have Hzk := Lib.hid (Hzk.out.up hbs5)
    have HBZ := Lib.hid (HBZ.out.trans (hbs5.mono HBZ.out.size))
    clear hbs5
    have HS6 := Lib.hid (by have := samep_v Hp.out Hq.out; rw [HSS.out] at this; exact this)
    obtain ⟨xp0, xp1, xp2⟩ := Hp.out.cells
    obtain ⟨xq0, xq1, xq2⟩ := Hq.out.cells
    go_wp2_with fail
    refine (HS6.out).mono ?_
    rintro e ws6 ⟨rfl, hbs6⟩
    clear xp0 xp1 xp2 xq0 xq1 xq2
    have Hn := Lib.hid (Hn.out.up hbs6)
    have Hx := Lib.hid (Hx.out.up hbs6)
    have Hy := Lib.hid (Hy.out.up hbs6)
    have Hz := Lib.hid (Hz.out.up hbs6)
    have Hm := Lib.hid (Hm.out.up hbs6)
    have Hk := Lib.hid (Hk.out.up hbs6)
    have Hp := Lib.hid (Hp.out.up hbs6)
    have Hzx := Lib.hid (Hzx.out.up hbs6)
    have Hq := Lib.hid (Hq.out.up hbs6)
    have Hzk := Lib.hid (Hzk.out.up hbs6)
    have HBZ := Lib.hid (HBZ.out.trans (hbs6.mono HBZ.out.size))
    clear hbs6
    go_wp2_with fail
    go_ret
    exact ⟨rfl, HBZ.out⟩
end Go.Proofs.Ytljbofniglcheaa
