/- The laws' examples. -/
import Derived.Test.YtojijebmipgeeaaVa
namespace Go.Proofs.Ytojijebmipgeeaa
open Go.RowKit Go.Sort
set_option linter.unusedVariables false

def p7 : Pk := ⟨1, 3, [7]⟩
def n1 : Nt := ⟨[p7], []⟩
def n2 : Nt := ⟨[p7, p7], []⟩
def n3 : Nt := ⟨[p7, p7], [(1, 3)]⟩
theorem v_0 : vld nt0 = true := by decide
theorem v_1 : vld n1 = true := by decide
theorem v_2 : vld n2 = true := by decide
theorem v_3 : vld n3 = true := by decide
theorem s_d0 : dlp nt0 0 = pk0 ∧ los nt0 0 = nt0 ∧ hle nt0 0 = 1 := by
  have h : can nt0 0 = false := by decide
  have h2 : inq nt0 0 = false := by decide
  simp [dlp, los, hle, h, v_0, h2]
theorem s_s3 : sn nt0 ⟨3, 3, []⟩ = nt0 ∧ sne nt0 ⟨3, 3, []⟩ = 90 := by
  have h : okp ⟨3, 3, []⟩ = false := by decide
  simp [sn, sne, h]
theorem s_c2 : ct nt0 2 2 true = nt0 ∧ cte nt0 2 2 = 1 := by
  have h : talk 2 2 = false := by decide
  simp [ct, cte, h, v_0]
theorem s_s7 : sn nt0 p7 = n1 ∧ sne nt0 p7 = 0 := by
  have h : okp p7 = true := by decide
  have h2 : full nt0 = false := by decide
  have e : sn nt0 p7 = wi nt0 p7 := by simp [sn, h, v_0, wt, h2]
  exact ⟨e, by simp [sne, h, v_0, wte, h2]⟩
theorem s_r : rp n1 0 = n2 ∧ rpe n1 0 = 0 := by
  have h : can n1 0 = true := by decide
  have h2 : full n1 = false := by decide
  have e : rp n1 0 = wi n1 (ati n1 0) := by simp [rp, h, wt, h2]
  exact ⟨e, by simp [rpe, h, wte, h2]⟩
theorem s_c3 : ct n2 3 1 true = n3 ∧ cte n2 3 1 = 0 := by
  have h : talk 3 1 = true := by decide
  have e : ct n2 3 1 true = ⟨n2.q, srt [btw 3 1]⟩ := by simp [ct, h, v_2, ctl, oth]; rfl
  have e2 : srt [btw 3 1] = [(1, 3)] := by simp [srt, btw]; decide
  rw [e2] at e
  exact ⟨e, by simp [cte, h, v_2]⟩
theorem s_d2 : dlp n2 0 = p7 ∧ los n2 0 = n1 ∧ hle n2 0 = 0 := by
  have h : can n2 0 = true := by decide
  have h2 : inq n2 0 = true := by decide
  have h3 : cutd n2 p7 = false := by decide
  have h4 : ati n2 0 = p7 := rfl
  have e : los n2 0 = wo n2 0 := by simp [los, h]
  exact ⟨by simp [dlp, h, h4, h3], e, by simp [hle, v_2, h2]⟩
theorem s_d3 : dlp n3 1 = pk0 ∧ los n3 1 = ⟨[p7], [(1, 3)]⟩ ∧ hle n3 1 = 0 := by
  have h : can n3 1 = true := by decide
  have h2 : inq n3 1 = true := by decide
  have h3 : cutd n3 p7 = true := by decide
  have h4 : ati n3 1 = p7 := rfl
  have e : los n3 1 = wo n3 1 := by simp [los, h]
  exact ⟨by simp [dlp, h, h4, h3], e, by simp [hle, v_3, h2]⟩
theorem chk_0 : chk nt0 = 0 := by simp [chk, v_0]
section
variable {W : World} {b bp : Nat} {A : Option Addr} {c : Nat} {B : Option Addr} {k lq la : Nat} {D : Option Addr} {d m : Nat}
theorem sane_1 (h : NV W b nt0 A c B k lq la) : Calls Try.prog 20 #[.agg #[.slice A lq c, .slice B la k], .int .i64 0] W (DlP pk0 nt0 1 W) := by
  have := deliver_v h 0
  rw [s_d0.1, s_d0.2.1, s_d0.2.2] at this
  exact this
theorem sane_2 (h : NV W b nt0 A c B k lq la) : Calls Try.prog 11 #[.agg #[.slice A lq c, .slice B la k], .agg #[.int .i64 3, .int .i64 3, .slice none 0 0]] W (NtP nt0 90 W) := by
  have := send_s (p := ⟨3, 3, []⟩) (m := 0) h (sl_none W) rfl
  rw [s_s3.1, s_s3.2] at this
  exact this
theorem sane_3 (h : NV W b nt0 A c B k lq la) : Calls Try.prog 18 #[.agg #[.slice A lq c, .slice B la k], .int .i64 2, .int .i64 2, .bool true] W (NtP nt0 1 W) := by
  have := cut_v h 2 2 true
  rw [s_c2.1, s_c2.2] at this
  exact this
theorem sane_4 (h : NV W b nt0 A c B k lq la) (hp : PV W bp p7 D d m) : Calls Try.prog 11 #[.agg #[.slice A lq c, .slice B la k], .agg #[.int .i64 p7.fr, .int .i64 p7.to, .slice D m d]] W (NtP n1 0 W) := by
  have := send_v h hp
  rw [s_s7.1, s_s7.2] at this
  exact this
theorem sane_5 (h : NV W b n1 A c B k lq la) : Calls Try.prog 25 #[.agg #[.slice A lq c, .slice B la k], .int .i64 0] W (NtP n2 0 W) := by
  have := repeat_v h 0
  rw [s_r.1, s_r.2] at this
  exact this
theorem sane_6 (h : NV W b n2 A c B k lq la) : Calls Try.prog 18 #[.agg #[.slice A lq c, .slice B la k], .int .i64 3, .int .i64 1, .bool true] W (NtP n3 0 W) := by
  have := cut_v h 3 1 true
  rw [s_c3.1, s_c3.2] at this
  exact this
theorem sane_7 (h : NV W b n2 A c B k lq la) : Calls Try.prog 20 #[.agg #[.slice A lq c, .slice B la k], .int .i64 0] W (DlP p7 n1 0 W) := by
  have := deliver_v h 0
  rw [s_d2.1, s_d2.2.1, s_d2.2.2] at this
  exact this
theorem sane_8 (h : NV W b n3 A c B k lq la) : Calls Try.prog 20 #[.agg #[.slice A lq c, .slice B la k], .int .i64 1] W (DlP pk0 ⟨[p7], [(1, 3)]⟩ 0 W) := by
  have := deliver_v h 1
  rw [s_d3.1, s_d3.2.1, s_d3.2.2] at this
  exact this
end

attribute [local go_sem ↓] eql_pair neq_pair
attribute [local go_sem] guard_pair
set_option maxHeartbeats 4000000 in
set_option maxRecDepth 100000 in
theorem sane_any (w : World) : Calls Try.prog 9 #[] w (BoolPost true w) := by
  have HBZ := Lib.hid (Below.refl w.heap.size w)
  unfold BoolPost
  go_enter Try.func9, Try.ntmps9
  go_wp2_with fail
  refine (new_v _).mono ?_
  rintro e w1 ⟨An, cn, Bn, kn, lqn, lan, rfl, ⟨hqn, han⟩, hnn, hbn⟩
  have hzn := hbn.trans ((alloc_lt w1 (.cells #[.slice An lqn cn, .slice Bn lan kn] 25)).mono hbn.size)
  have HBZ := Lib.hid (HBZ.out.trans (hzn.mono HBZ.out.size))
  have Hn := Lib.hid (NV.new hnn hqn han)
  have HLn := Lib.hid (And.intro hqn han)
  clear hzn hbn hnn hqn han
  go_upto_region 2 with fail
  generalize w1.alloc _ = W1 at *
  obtain ⟨xn0, xn1⟩ := Hn.out.cells
  go_wp2_with fail
  refine (sane_1 Hn.out).mono ?_
  rintro e w2 ⟨Dzp, dzp, mzp, Azn, czn, Bzn, kzn, lqzn, lazn, rfl, ⟨hmzp, hszp⟩, ⟨hqzn, hazn⟩, hnzn, hbzn⟩
  have hyzn := hbzn.trans ((alloc_lt w2 (.cells #[.int .i64 pk0.fr, .int .i64 pk0.to, .slice Dzp mzp dzp] 28)).mono hbzn.size)
  have hzzn := hyzn.trans ((alloc_lt (w2.alloc (.cells #[.int .i64 pk0.fr, .int .i64 pk0.to, .slice Dzp mzp dzp] 28)) (.cells #[.slice Azn lqzn czn, .slice Bzn lazn kzn] 25)).mono hyzn.size)
  clear xn0 xn1
  have Hn := Lib.hid (Hn.out.up hzzn)
  have HBZ := Lib.hid (HBZ.out.trans (hzzn.mono HBZ.out.size))
  have Hzp := Lib.hid (PV.up (PV.new hszp hmzp) (alloc_lt _ (.cells #[.slice Azn lqzn czn, .slice Bzn lazn kzn] 25)))
  have Hzn := Lib.hid (NV.new (hnzn.up (alloc_lt w2 (.cells #[.int .i64 pk0.fr, .int .i64 pk0.to, .slice Dzp mzp dzp] 28))) hqzn hazn)
  rw [World.size_alloc] at Hzn
  have HLzn := Lib.hid (And.intro hqzn hazn)
  clear hyzn hzzn hbzn hnzn hqzn hazn hmzp hszp
  go_upto_region 3 with fail
  generalize (w2.alloc (.cells #[.int .i64 pk0.fr, .int .i64 pk0.to, .slice Dzp mzp dzp] 28)).alloc (.cells #[.slice Azn lqzn czn, .slice Bzn lazn kzn] 25) = W2 at *
  obtain ⟨xn0, xn1⟩ := Hn.out.cells
  go_wp2_with fail
  refine (sane_2 Hn.out).mono ?_
  rintro e w3 ⟨Ay, cy, By, ky, lqy, lay, rfl, ⟨hqy, hay⟩, hny, hby⟩
  have hzy := hby.trans ((alloc_lt w3 (.cells #[.slice Ay lqy cy, .slice By lay ky] 25)).mono hby.size)
  clear xn0 xn1
  have Hn := Lib.hid (Hn.out.up hzy)
  have Hzp := Lib.hid (Hzp.out.up hzy)
  have Hzn := Lib.hid (Hzn.out.up hzy)
  have HBZ := Lib.hid (HBZ.out.trans (hzy.mono HBZ.out.size))
  have Hy := Lib.hid (NV.new hny hqy hay)
  have HLy := Lib.hid (And.intro hqy hay)
  clear hzy hby hny hqy hay
  go_upto_region 4 with fail
  generalize w3.alloc _ = W3 at *
  obtain ⟨xn0, xn1⟩ := Hn.out.cells
  go_wp2_with fail
  refine (sane_3 Hn.out).mono ?_
  rintro e w4 ⟨Az, cz, Bz, kz, lqz, laz, rfl, ⟨hqz, haz⟩, hnz, hbz⟩
  have hzz := hbz.trans ((alloc_lt w4 (.cells #[.slice Az lqz cz, .slice Bz laz kz] 25)).mono hbz.size)
  clear xn0 xn1
  have Hn := Lib.hid (Hn.out.up hzz)
  have Hzp := Lib.hid (Hzp.out.up hzz)
  have Hzn := Lib.hid (Hzn.out.up hzz)
  have Hy := Lib.hid (Hy.out.up hzz)
  have HBZ := Lib.hid (HBZ.out.trans (hzz.mono HBZ.out.size))
  have Hz := Lib.hid (NV.new hnz hqz haz)
  have HLz := Lib.hid (And.intro hqz haz)
  clear hzz hbz hnz hqz haz
  go_upto_region 5 with fail
  generalize w4.alloc _ = W4 at *
  have hz := (alloc_lt W4 (.cells #[.int .u8 7] 5)).trans ((alloc_lt (W4.alloc (.cells #[.int .u8 7] 5)) (.cells #[.int .i64 1, .int .i64 3, .slice (some ⟨W4.heap.size, 0, none⟩) 1 1] 28)).mono (by simp))
  have HPP := Lib.hid (show PV ((W4.alloc (.cells #[.int .u8 7] 5)).alloc (.cells #[.int .i64 1, .int .i64 3, .slice (some ⟨W4.heap.size, 0, none⟩) 1 1] 28)) (W4.heap.size + 1) p7 (some ⟨W4.heap.size, 0, none⟩) 1 1 from ⟨by have := Box.new (W4.alloc (.cells #[.int .u8 7] 5)) #[.int .i64 1, .int .i64 3, .slice (some ⟨W4.heap.size, 0, none⟩) 1 1] 28; rw [World.size_alloc] at this; exact this, (sl_lit W4 [7] 1 rfl (by omega) #[.int .u8 7] rfl).up (alloc_lt _ _), rfl⟩)
  have Hn := Lib.hid (Hn.out.up hz)
  have Hzp := Lib.hid (Hzp.out.up hz)
  have Hzn := Lib.hid (Hzn.out.up hz)
  have Hy := Lib.hid (Hy.out.up hz)
  have Hz := Lib.hid (Hz.out.up hz)
  have HBZ := Lib.hid (HBZ.out.trans (hz.mono HBZ.out.size))
  clear hz
  have Hp := HPP
  go_upto_region 6 with fail
  generalize (W4.alloc (.cells #[.int .u8 7] 5)).alloc (.cells #[.int .i64 1, .int .i64 3, .slice (some ⟨W4.heap.size, 0, none⟩) 1 1] 28) = WP at *
  clear HPP
  obtain ⟨xn0, xn1⟩ := Hn.out.cells
  obtain ⟨xp0, xp1, xp2⟩ := Hp.out.cells
  go_wp2_with fail
  refine (sane_4 Hn.out Hp.out).mono ?_
  rintro e w5 ⟨Aa, ca, Ba, ka, lqa, laa, rfl, ⟨hqa, haa⟩, hna, hba⟩
  have hza := hba.trans ((alloc_lt w5 (.cells #[.slice Aa lqa ca, .slice Ba laa ka] 25)).mono hba.size)
  clear xn0 xn1 xp0 xp1 xp2
  have Hn := Lib.hid (Hn.out.up hza)
  have Hzp := Lib.hid (Hzp.out.up hza)
  have Hzn := Lib.hid (Hzn.out.up hza)
  have Hy := Lib.hid (Hy.out.up hza)
  have Hz := Lib.hid (Hz.out.up hza)
  have Hp := Lib.hid (Hp.out.up hza)
  have HBZ := Lib.hid (HBZ.out.trans (hza.mono HBZ.out.size))
  have Ha := Lib.hid (NV.new hna hqa haa)
  have HLa := Lib.hid (And.intro hqa haa)
  clear hza hba hna hqa haa
  go_upto_region 7 with fail
  generalize w5.alloc _ = W5 at *
  obtain ⟨xa0, xa1⟩ := Ha.out.cells
  go_wp2_with fail
  refine (sane_5 Ha.out).mono ?_
  rintro e w6 ⟨Ab, cb, Bb, kb, lqb, lab, rfl, ⟨hqb, hab⟩, hnb, hbb⟩
  have hzb := hbb.trans ((alloc_lt w6 (.cells #[.slice Ab lqb cb, .slice Bb lab kb] 25)).mono hbb.size)
  clear xa0 xa1
  have Hn := Lib.hid (Hn.out.up hzb)
  have Hzp := Lib.hid (Hzp.out.up hzb)
  have Hzn := Lib.hid (Hzn.out.up hzb)
  have Hy := Lib.hid (Hy.out.up hzb)
  have Hz := Lib.hid (Hz.out.up hzb)
  have Hp := Lib.hid (Hp.out.up hzb)
  have Ha := Lib.hid (Ha.out.up hzb)
  have HBZ := Lib.hid (HBZ.out.trans (hzb.mono HBZ.out.size))
  have Hb := Lib.hid (NV.new hnb hqb hab)
  have HLb := Lib.hid (And.intro hqb hab)
  clear hzb hbb hnb hqb hab
  go_upto_region 8 with fail
  generalize w6.alloc _ = W6 at *
  obtain ⟨xb0, xb1⟩ := Hb.out.cells
  go_wp2_with fail
  refine (sane_6 Hb.out).mono ?_
  rintro e w7 ⟨Ac, cc, Bc, kc, lqc, lac, rfl, ⟨hqc, hac⟩, hnc, hbc⟩
  obtain rfl : lqc = 2 := hqc.symm
  obtain rfl : lac = 1 := hac.symm
  have hzc := hbc.trans ((alloc_lt w7 (.cells #[.slice Ac 2 cc, .slice Bc 1 kc] 25)).mono hbc.size)
  clear xb0 xb1
  have Hn := Lib.hid (Hn.out.up hzc)
  have Hzp := Lib.hid (Hzp.out.up hzc)
  have Hzn := Lib.hid (Hzn.out.up hzc)
  have Hy := Lib.hid (Hy.out.up hzc)
  have Hz := Lib.hid (Hz.out.up hzc)
  have Hp := Lib.hid (Hp.out.up hzc)
  have Ha := Lib.hid (Ha.out.up hzc)
  have Hb := Lib.hid (Hb.out.up hzc)
  have HBZ := Lib.hid (HBZ.out.trans (hzc.mono HBZ.out.size))
  have Hc := Lib.hid (NV.new hnc hqc hac)
  have HLc := Lib.hid (And.intro hqc hac)
  clear hzc hbc hnc hqc hac
  go_upto_region 9 with fail
  generalize w7.alloc _ = W7 at *
  obtain ⟨xb0, xb1⟩ := Hb.out.cells
  go_wp2_with fail
  refine (sane_7 Hb.out).mono ?_
  rintro e w8 ⟨Dq, dq, mq, Ad, cd, Bd, kd, lqd, lad, rfl, ⟨hmq, hsq⟩, ⟨hqd, had⟩, hnd, hbd⟩
  have hyd := hbd.trans ((alloc_lt w8 (.cells #[.int .i64 p7.fr, .int .i64 p7.to, .slice Dq mq dq] 28)).mono hbd.size)
  have hzd := hyd.trans ((alloc_lt (w8.alloc (.cells #[.int .i64 p7.fr, .int .i64 p7.to, .slice Dq mq dq] 28)) (.cells #[.slice Ad lqd cd, .slice Bd lad kd] 25)).mono hyd.size)
  clear xb0 xb1
  have Hn := Lib.hid (Hn.out.up hzd)
  have Hzp := Lib.hid (Hzp.out.up hzd)
  have Hzn := Lib.hid (Hzn.out.up hzd)
  have Hy := Lib.hid (Hy.out.up hzd)
  have Hz := Lib.hid (Hz.out.up hzd)
  have Hp := Lib.hid (Hp.out.up hzd)
  have Ha := Lib.hid (Ha.out.up hzd)
  have Hb := Lib.hid (Hb.out.up hzd)
  have Hc := Lib.hid (Hc.out.up hzd)
  have HBZ := Lib.hid (HBZ.out.trans (hzd.mono HBZ.out.size))
  have Hq := Lib.hid (PV.up (PV.new hsq hmq) (alloc_lt _ (.cells #[.slice Ad lqd cd, .slice Bd lad kd] 25)))
  have Hd := Lib.hid (NV.new (hnd.up (alloc_lt w8 (.cells #[.int .i64 p7.fr, .int .i64 p7.to, .slice Dq mq dq] 28))) hqd had)
  rw [World.size_alloc] at Hd
  have HLd := Lib.hid (And.intro hqd had)
  clear hyd hzd hbd hnd hqd had hmq hsq
  go_upto_region 10 with fail
  generalize (w8.alloc (.cells #[.int .i64 p7.fr, .int .i64 p7.to, .slice Dq mq dq] 28)).alloc (.cells #[.slice Ad lqd cd, .slice Bd lad kd] 25) = W8 at *
  obtain ⟨xc0, xc1⟩ := Hc.out.cells
  go_wp2_with fail
  refine (sane_8 Hc.out).mono ?_
  rintro e w9 ⟨Dr, dr, mr, Azr, czr, Bzr, kzr, lqzr, lazr, rfl, ⟨hmr, hsr⟩, ⟨hqzr, hazr⟩, hnzr, hbzr⟩
  have hyzr := hbzr.trans ((alloc_lt w9 (.cells #[.int .i64 pk0.fr, .int .i64 pk0.to, .slice Dr mr dr] 28)).mono hbzr.size)
  have hzzr := hyzr.trans ((alloc_lt (w9.alloc (.cells #[.int .i64 pk0.fr, .int .i64 pk0.to, .slice Dr mr dr] 28)) (.cells #[.slice Azr lqzr czr, .slice Bzr lazr kzr] 25)).mono hyzr.size)
  clear xc0 xc1
  have Hn := Lib.hid (Hn.out.up hzzr)
  have Hzp := Lib.hid (Hzp.out.up hzzr)
  have Hzn := Lib.hid (Hzn.out.up hzzr)
  have Hy := Lib.hid (Hy.out.up hzzr)
  have Hz := Lib.hid (Hz.out.up hzzr)
  have Hp := Lib.hid (Hp.out.up hzzr)
  have Ha := Lib.hid (Ha.out.up hzzr)
  have Hb := Lib.hid (Hb.out.up hzzr)
  have Hc := Lib.hid (Hc.out.up hzzr)
  have Hq := Lib.hid (Hq.out.up hzzr)
  have Hd := Lib.hid (Hd.out.up hzzr)
  have HBZ := Lib.hid (HBZ.out.trans (hzzr.mono HBZ.out.size))
  have Hr := Lib.hid (PV.up (PV.new hsr hmr) (alloc_lt _ (.cells #[.slice Azr lqzr czr, .slice Bzr lazr kzr] 25)))
  have Hzr := Lib.hid (NV.new (hnzr.up (alloc_lt w9 (.cells #[.int .i64 pk0.fr, .int .i64 pk0.to, .slice Dr mr dr] 28))) hqzr hazr)
  rw [World.size_alloc] at Hzr
  have HLzr := Lib.hid (And.intro hqzr hazr)
  clear hyzr hzzr hbzr hnzr hqzr hazr hmr hsr
  go_upto_region 11 with fail
  generalize (w9.alloc (.cells #[.int .i64 pk0.fr, .int .i64 pk0.to, .slice Dr mr dr] 28)).alloc (.cells #[.slice Azr lqzr czr, .slice Bzr lazr kzr] 25) = W9 at *
  have HCK := Lib.hid (by have := check_v Hn.out; rw [chk_0] at this; exact this)
  obtain ⟨xn0, xn1⟩ := Hn.out.cells
  go_wp2_with fail
  refine (HCK.out).mono ?_
  rintro e wk1 ⟨rfl, hbk1⟩
  clear xn0 xn1
  have Hn := Lib.hid (Hn.out.up hbk1)
  have Hzp := Lib.hid (Hzp.out.up hbk1)
  have Hzn := Lib.hid (Hzn.out.up hbk1)
  have Hy := Lib.hid (Hy.out.up hbk1)
  have Hz := Lib.hid (Hz.out.up hbk1)
  have Hp := Lib.hid (Hp.out.up hbk1)
  have Ha := Lib.hid (Ha.out.up hbk1)
  have Hb := Lib.hid (Hb.out.up hbk1)
  have Hc := Lib.hid (Hc.out.up hbk1)
  have Hq := Lib.hid (Hq.out.up hbk1)
  have Hd := Lib.hid (Hd.out.up hbk1)
  have Hr := Lib.hid (Hr.out.up hbk1)
  have Hzr := Lib.hid (Hzr.out.up hbk1)
  have HBZ := Lib.hid (HBZ.out.trans (hbk1.mono HBZ.out.size))
  clear hbk1
  have HSP := Lib.hid (by have := samep_v Hp.out Hq.out; rw [spk_refl] at this; exact this)
  obtain ⟨xp0, xp1, xp2⟩ := Hp.out.cells
  obtain ⟨xq0, xq1, xq2⟩ := Hq.out.cells
  go_wp2_with fail
  refine (HSP.out).mono ?_
  rintro e wk2 ⟨rfl, hbk2⟩
  clear xp0 xp1 xp2 xq0 xq1 xq2
  have Hn := Lib.hid (Hn.out.up hbk2)
  have Hzp := Lib.hid (Hzp.out.up hbk2)
  have Hzn := Lib.hid (Hzn.out.up hbk2)
  have Hy := Lib.hid (Hy.out.up hbk2)
  have Hz := Lib.hid (Hz.out.up hbk2)
  have Hp := Lib.hid (Hp.out.up hbk2)
  have Ha := Lib.hid (Ha.out.up hbk2)
  have Hb := Lib.hid (Hb.out.up hbk2)
  have Hc := Lib.hid (Hc.out.up hbk2)
  have Hq := Lib.hid (Hq.out.up hbk2)
  have Hd := Lib.hid (Hd.out.up hbk2)
  have Hr := Lib.hid (Hr.out.up hbk2)
  have Hzr := Lib.hid (Hzr.out.up hbk2)
  have HBZ := Lib.hid (HBZ.out.trans (hbk2.mono HBZ.out.size))
  clear hbk2
  have HSP2 := Lib.hid (by have := samep_0 Hr.out; rw [spk_refl] at this; exact this)
  obtain ⟨xr0, xr1, xr2⟩ := Hr.out.cells
  go_wp2_with fail
  refine (HSP2.out).mono ?_
  rintro e wk3 ⟨rfl, hbk3⟩
  clear xr0 xr1 xr2
  have Hn := Lib.hid (Hn.out.up hbk3)
  have Hzp := Lib.hid (Hzp.out.up hbk3)
  have Hzn := Lib.hid (Hzn.out.up hbk3)
  have Hy := Lib.hid (Hy.out.up hbk3)
  have Hz := Lib.hid (Hz.out.up hbk3)
  have Hp := Lib.hid (Hp.out.up hbk3)
  have Ha := Lib.hid (Ha.out.up hbk3)
  have Hb := Lib.hid (Hb.out.up hbk3)
  have Hc := Lib.hid (Hc.out.up hbk3)
  have Hq := Lib.hid (Hq.out.up hbk3)
  have Hd := Lib.hid (Hd.out.up hbk3)
  have Hr := Lib.hid (Hr.out.up hbk3)
  have Hzr := Lib.hid (Hzr.out.up hbk3)
  have HBZ := Lib.hid (HBZ.out.trans (hbk3.mono HBZ.out.size))
  clear hbk3
  have HSM := Lib.hid (by have := same_v Hd.out Ha.out; rw [smn_refl] at this; exact this)
  obtain ⟨xd0, xd1⟩ := Hd.out.cells
  obtain ⟨xa0, xa1⟩ := Ha.out.cells
  go_wp2_with fail
  refine (HSM.out).mono ?_
  rintro e wk4 ⟨rfl, hbk4⟩
  clear xd0 xd1 xa0 xa1
  have Hn := Lib.hid (Hn.out.up hbk4)
  have Hzp := Lib.hid (Hzp.out.up hbk4)
  have Hzn := Lib.hid (Hzn.out.up hbk4)
  have Hy := Lib.hid (Hy.out.up hbk4)
  have Hz := Lib.hid (Hz.out.up hbk4)
  have Hp := Lib.hid (Hp.out.up hbk4)
  have Ha := Lib.hid (Ha.out.up hbk4)
  have Hb := Lib.hid (Hb.out.up hbk4)
  have Hc := Lib.hid (Hc.out.up hbk4)
  have Hq := Lib.hid (Hq.out.up hbk4)
  have Hd := Lib.hid (Hd.out.up hbk4)
  have Hr := Lib.hid (Hr.out.up hbk4)
  have Hzr := Lib.hid (Hzr.out.up hbk4)
  have HBZ := Lib.hid (HBZ.out.trans (hbk4.mono HBZ.out.size))
  clear hbk4
  obtain ⟨bc, oc, rfl, _, c0, c1⟩ := Hc.out.inn.2.at_ (i := 0) (x := (1, 3)) rfl
  obtain ⟨xc0, xc1⟩ := Hc.out.cells
  simp only [Nat.zero_mul, Nat.add_zero] at c0 c1
  go_wp2_with fail
  go_ret
  exact ⟨rfl, HBZ.out⟩
end Go.Proofs.Ytojijebmipgeeaa
