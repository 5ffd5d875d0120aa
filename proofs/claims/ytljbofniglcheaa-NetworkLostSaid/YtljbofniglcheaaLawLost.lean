/- NetworkLost. -/
import Derived.Test.YtljbofniglcheaaPlN
import Derived.Test.YtljbofniglcheaaSane
import Derived.IntWalk
namespace Go.Proofs.Ytljbofniglcheaa
open Go.RowKit Go.Sort
set_option linter.unusedVariables false

theorem nv_set {w : World} {b : Nat} {n : Nt} {A : Option Addr} {c : Nat} {B : Option Addr} {k lq la : Nat} (hx : Box w b #[.slice none 0 0, .slice none 0 0] 25) (h : NtIn w n A c B k) (hq : n.q.length = lq) (ha : n.ap.length = la) : NV ((w.setCell ⟨b, 0, none⟩ (.slice A lq c)).setCell ⟨b, 1, none⟩ (.slice B la k)) b n A c B k lq la :=
  ⟨box2 _ _ hx, (h.off hx (onlyS2 _ _ _ _ _ _) 0 _).off (hx.set (i := 0) (v := .slice A lq c)) (OnlyS.set (onlyS2 _ _ _ _ _ _) 0 _ _ _) 1 _, hq, ha⟩
theorem bool2 (b : Bool) : b = true ∨ b = false := by cases b <;> simp
set_option maxHeartbeats 4000000 in
set_option maxRecDepth 100000 in
theorem lawLost_any (n : Nt) (A B : Option Addr) (c k : Nat) (a : Nat) (w : World) (hS : NtIn w n A c B k) (ha : a ≤ 18446744073709551615) :
    Calls Try.prog 8 #[ntv n A c B k, .int .u64 (a : Int)] w (BoolPost true w) := by
  obtain ⟨lqn, hlq⟩ : ∃ lq, n.q.length = lq := ⟨_, rfl⟩
  obtain ⟨lan, hla⟩ : ∃ la, n.ap.length = la := ⟨_, rfl⟩
  have hnl := nt_len hS
  have Hn := Lib.hid (NV.new hS hlq hla)
  have hval : ntv n A c B k = .agg #[.slice A lqn c, .slice B lan k] := by unfold ntv ntc; rw [hlq, hla]
  rw [hval]
  have HBZ := Lib.hid (alloc_lt w (.cells #[.slice A lqn c, .slice B lan k] 25))
  rw [hlq] at hnl
  have HLQ := Lib.hid (And.intro hlq hla)
  have HSN := Lib.hid sane_any
  unfold BoolPost at HSN ⊢
  clear hval hS hlq hla
  have hnl1 := hnl.1
  clear hnl
  go_enter Try.func8, Try.ntmps8
  go_wp2_with fail
  generalize w.alloc (.cells #[.slice A lqn c, .slice B lan k] 25) = W0 at *
  refine (HSN.out _).mono ?_
  rintro e ws ⟨rfl, hbs⟩
  have Hn := Lib.hid (Hn.out.up hbs)
  have HBZ := Lib.hid (HBZ.out.trans (hbs.mono HBZ.out.size))
  clear hbs
  have HFW := Lib.hid (few_v Hn.out)
  rcases bool2 (few n) with hf | hf
  case inr =>
    rw [hf] at HFW
    clear hf
    obtain ⟨xn0, xn1⟩ := Hn.out.cells
    go_wp2_with fail
    refine HFW.out.mono ?_
    rintro e w1 ⟨rfl, hb1⟩
    have HB1 := Lib.hid (HBZ.out.trans (hb1.mono HBZ.out.size))
    clear xn0 xn1 hb1
    go_wp2_with fail
    go_ret
    exact ⟨rfl, HB1.out⟩
  have HF := Lib.hid hf
  rw [hf] at HFW
  clear hf
  obtain ⟨xn0, xn1⟩ := Hn.out.cells
  go_wp2_with fail
  refine (HFW.out).mono ?_
  rintro e wf ⟨rfl, hbf⟩
  clear xn0 xn1
  have Hn := Lib.hid (Hn.out.up hbf)
  have HBZ := Lib.hid (HBZ.out.trans (hbf.mono HBZ.out.size))
  clear hbf
  have HCK := Lib.hid (check_v Hn.out)
  rcases chk_cases n with ⟨h1, hv⟩ | ⟨h1, hv⟩
  case inr =>
    rw [h1] at HCK
    clear h1 hv
    obtain ⟨xn0, xn1⟩ := Hn.out.cells
    go_wp2_with fail
    refine HCK.out.mono ?_
    rintro e w1 ⟨rfl, hb1⟩
    have HB1 := Lib.hid (HBZ.out.trans (hb1.mono HBZ.out.size))
    clear xn0 xn1 hb1
    go_wp2_with fail
    go_ret
    exact ⟨rfl, HB1.out⟩
  rw [h1] at HCK
  have HV := Lib.hid hv
  clear h1 hv
  obtain ⟨xn0, xn1⟩ := Hn.out.cells
  go_wp2_with fail
  refine (HCK.out).mono ?_
  rintro e wc ⟨rfl, hbc⟩
  clear xn0 xn1
  have Hn := Lib.hid (Hn.out.up hbc)
  have HBZ := Lib.hid (HBZ.out.trans (hbc.mono HBZ.out.size))
  clear hbc
  obtain ⟨xn0, xn1⟩ := Hn.out.cells
  by_cases h0 : lqn = 0
  case pos =>
    have hd : ((lqn : Int) == 0) = true := by simp [h0]
    clear h0
    go_wp2_with fail
    go_ret
    exact ⟨rfl, HBZ.out⟩
  have hd : ((lqn : Int) == 0) = false := by simp [h0]
  have hpos : 0 < lqn := by omega
  clear h0
  obtain ⟨i, hi⟩ : ∃ i, a % lqn = i := ⟨_, rfl⟩
  have hil : i < lqn := by rw [← hi]; exact Nat.mod_lt _ hpos
  have HI := Lib.hid hi
  have hmod : ((a : Int) % (lqn : Int)) = (i : Int) := by rw [← hi]; omega
  clear hi
  have HPL := Lib.hid (lost_plain HF.out HV.out (by rw [HLQ.out.1]; exact hil))
  go_upto_region 6 with fail
  clear xn0 xn1 hmod
  have HDL := Lib.hid (by have := deliver_v Hn.out (i : Int); rw [HPL.out.2.1, HPL.out.2.2.1] at this; exact this)
  obtain ⟨xn0, xn1⟩ := Hn.out.cells
  go_wp2_with fail
  refine (HDL.out).mono ?_
  rintro e w1 ⟨Dp0, dp0, mp0, Aa, ca, Ba, ka, lqa, laa, rfl, ⟨hmp0, hsp0⟩, ⟨hqa, haa⟩, hna, hba⟩
  have hya := hba.trans ((alloc_lt w1 (.cells #[.int .i64 (dlp n (i : Int)).fr, .int .i64 (dlp n (i : Int)).to, .slice Dp0 mp0 dp0] 28)).mono hba.size)
  have hza := hya.trans ((alloc_lt (w1.alloc (.cells #[.int .i64 (dlp n (i : Int)).fr, .int .i64 (dlp n (i : Int)).to, .slice Dp0 mp0 dp0] 28)) (.cells #[.slice Aa lqa ca, .slice Ba laa ka] 25)).mono hya.size)
  clear xn0 xn1
  have Hn := Lib.hid (Hn.out.up hza)
  have HBZ := Lib.hid (HBZ.out.trans (hza.mono HBZ.out.size))
  have Hp0 := Lib.hid (PV.up (PV.new hsp0 hmp0) (alloc_lt _ (.cells #[.slice Aa lqa ca, .slice Ba laa ka] 25)))
  have Ha := Lib.hid (NV.new (hna.up (alloc_lt w1 (.cells #[.int .i64 (dlp n (i : Int)).fr, .int .i64 (dlp n (i : Int)).to, .slice Dp0 mp0 dp0] 28))) hqa haa)
  rw [World.size_alloc] at Ha
  have HLa := Lib.hid (And.intro hqa haa)
  clear hya hza hba hna hqa haa hmp0 hsp0
  go_upto_region 7 with fail
  generalize (w1.alloc (.cells #[.int .i64 (dlp n (i : Int)).fr, .int .i64 (dlp n (i : Int)).to, .slice Dp0 mp0 dp0] 28)).alloc (.cells #[.slice Aa lqa ca, .slice Ba laa ka] 25) = W1 at *
  have HLO := Lib.hid (by have := lose_v Hn.out (i : Int); rw [HPL.out.2.1, HPL.out.2.2.1] at this; exact this)
  obtain ⟨xn0, xn1⟩ := Hn.out.cells
  go_wp2_with fail
  refine (HLO.out).mono ?_
  rintro e w2 ⟨Ab, cb, Bb, kb, lqb, lab, rfl, ⟨hqb, hab⟩, hnb, hbb⟩
  have hzb := hbb.trans ((alloc_lt w2 (.cells #[.slice Ab lqb cb, .slice Bb lab kb] 25)).mono hbb.size)
  clear xn0 xn1
  have Hn := Lib.hid (Hn.out.up hzb)
  have Hp0 := Lib.hid (Hp0.out.up hzb)
  have Ha := Lib.hid (Ha.out.up hzb)
  have HBZ := Lib.hid (HBZ.out.trans (hzb.mono HBZ.out.size))
  have Hb := Lib.hid (NV.new hnb hqb hab)
  have HLb := Lib.hid (And.intro hqb hab)
  clear hzb hbb hnb hqb hab
  go_upto_region 8 with fail
  generalize w2.alloc _ = W2 at *
  have HRP := Lib.hid (by have := repeat_v Hn.out (i : Int); rw [HPL.out.2.2.2.1, HPL.out.2.2.2.2.1] at this; exact this)
  obtain ⟨xn0, xn1⟩ := Hn.out.cells
  go_wp2_with fail
  refine (HRP.out).mono ?_
  rintro e w3 ⟨Ac, cc, Bc, kc, lqc, lac, rfl, ⟨hqc, hac⟩, hnc, hbc⟩
  have hzc := hbc.trans ((alloc_lt w3 (.cells #[.slice Ac lqc cc, .slice Bc lac kc] 25)).mono hbc.size)
  clear xn0 xn1
  have Hn := Lib.hid (Hn.out.up hzc)
  have Hp0 := Lib.hid (Hp0.out.up hzc)
  have Ha := Lib.hid (Ha.out.up hzc)
  have Hb := Lib.hid (Hb.out.up hzc)
  have HBZ := Lib.hid (HBZ.out.trans (hzc.mono HBZ.out.size))
  have Hc := Lib.hid (NV.new hnc hqc hac)
  have HLc := Lib.hid (And.intro hqc hac)
  clear hzc hbc hnc hqc hac
  go_upto_region 9 with fail
  generalize w3.alloc _ = W3 at *
  have HLC := Lib.hid (by have := lose_v Hc.out (i : Int); rw [HPL.out.2.2.2.2.2.1, HPL.out.2.2.2.2.2.2.1] at this; exact this)
  obtain ⟨xc0, xc1⟩ := Hc.out.cells
  go_wp2_with fail
  refine (HLC.out).mono ?_
  rintro e w4 ⟨Ad, cd, Bd, kd, lqd, lad, rfl, ⟨hqd, had⟩, hnd, hbd⟩
  have hzd := hbd.trans ((alloc_lt w4 (.cells #[.slice Ad lqd cd, .slice Bd lad kd] 25)).mono hbd.size)
  clear xc0 xc1
  have Hn := Lib.hid (Hn.out.up hzd)
  have Hp0 := Lib.hid (Hp0.out.up hzd)
  have Ha := Lib.hid (Ha.out.up hzd)
  have Hb := Lib.hid (Hb.out.up hzd)
  have Hc := Lib.hid (Hc.out.up hzd)
  have HBZ := Lib.hid (HBZ.out.trans (hzd.mono HBZ.out.size))
  have Hd := Lib.hid (NV.new hnd hqd had)
  have HLd := Lib.hid (And.intro hqd had)
  clear hzd hbd hnd hqd had
  go_upto_region 10 with fail
  generalize w4.alloc _ = W4 at *
  obtain ⟨bA, oA, D, dD, hA, hbA, q0, q1, q2, q3⟩ := Hn.out.inn.1.at_ (ati_mem (by rw [HLQ.out.1]; exact hil))
  subst hA
  obtain ⟨p, hp⟩ : ∃ p, ati n (i : Int) = p := ⟨_, rfl⟩
  rw [hp] at q0 q1 q2 q3 HPL Hc Hd
  obtain ⟨m, hm⟩ : ∃ m, p.da.length = m := ⟨_, rfl⟩
  rw [hm] at q2
  have HPP := Lib.hid (And.intro hp hm)
  have HSD := Lib.hid (fun V (hb : Below W4.heap.size W4 V) => show Calls Try.prog 11 #[.agg #[.slice Ab lqb cb, .slice Bb lab kb], .agg #[.int .i64 p.fr, .int .i64 p.to, .slice D m dD]] V (NtP (wi (wo n i) p) 0 V) from by
    have := send_s (Hb.out.up hb) (q3.up hb) hm
    rw [HPL.out.2.2.2.2.2.2.2.1, HPL.out.2.2.2.2.2.2.2.2] at this
    exact this)
  clear hp hm q3
  obtain ⟨xb0, xb1⟩ := Hb.out.cells
  obtain ⟨xn0, xn1⟩ := Hn.out.cells
  have lb0 := World.block_lt_of_cell? _ _ xb0
  have ln0 := World.block_lt_of_cell? _ _ xn0
  have HK := Lib.hid (fun V (hb : Below W4.heap.size W4 V) => show V.cell? ⟨w2.heap.size, 0, none⟩ = some (.slice Ab lqb cb) ∧ V.cell? ⟨w2.heap.size, 1, none⟩ = some (.slice Bb lab kb) ∧ V.cell? ⟨w.heap.size, 0, none⟩ = some (.slice (some ⟨bA, oA, none⟩) lqn c) ∧ V.cell? ⟨bA, oA + i * 3, none⟩ = some (.int .i64 p.fr) ∧ V.cell? ⟨bA, oA + i * 3 + 1, none⟩ = some (.int .i64 p.to) ∧ V.cell? ⟨bA, oA + i * 3 + 2, none⟩ = some (.slice D m dD) from
    ⟨(hb.cell (p := ⟨w2.heap.size, 0, none⟩) lb0).trans xb0, (hb.cell (p := ⟨w2.heap.size, 1, none⟩) lb0).trans xb1, (hb.cell (p := ⟨w.heap.size, 0, none⟩) ln0).trans xn0, (hb.cell (p := ⟨bA, oA + i * 3, none⟩) hbA).trans q0, (hb.cell (p := ⟨bA, oA + i * 3 + 1, none⟩) hbA).trans q1, (hb.cell (p := ⟨bA, oA + i * 3 + 2, none⟩) hbA).trans q2⟩)
  have HB0 := Lib.hid (show Below W4.heap.size W4 W4.drew from (Below.refl _ _).drew)
  have HB1 := Lib.hid (show Below W4.heap.size W4 (W4.alloc (.cells #[.slice none 0 0, .slice none 0 0] 25)).drew from (alloc_lt _ _).drew)
  clear xb0 xb1 xn0 xn1 q0 q1 q2
  go_region_held3 (fun w' => w'.cell? ⟨w2.heap.size, 0, none⟩ = some (.slice Ab lqb cb) ∧ w'.cell? ⟨w2.heap.size, 1, none⟩ = some (.slice Bb lab kb) ∧ w'.cell? ⟨w.heap.size, 0, none⟩ = some (.slice (some ⟨bA, oA, none⟩) lqn c) ∧ w'.cell? ⟨bA, oA + i * 3, none⟩ = some (.int .i64 p.fr) ∧ w'.cell? ⟨bA, oA + i * 3 + 1, none⟩ = some (.int .i64 p.to) ∧ w'.cell? ⟨bA, oA + i * 3 + 2, none⟩ = some (.slice D m dD))
    (with_reducible first | exact HK.out _ HB0.out | exact HK.out _ HB1.out | exact HK.out _ B3.out | exact HK.out _ B4.out | exact HK.out _ B5.out | fail)
    (first
      | (go_at_call 11; ((with_reducible refine (HSD.out _ HB0.out).mono ?_); rintro e w5 ⟨Ax, cx, Bx, kx, lqx, lax, rfl, ⟨hqx, hax⟩, hnx, hbx⟩; have B3 := Lib.hid (show Below W4.heap.size W4 w5 from HB0.out.trans hbx); have B4 := Lib.hid (B3.out.trans ((alloc_lt w5 (.cells #[.slice none 0 0, .slice none 0 0] 25)).mono B3.out.size)); have B5 := Lib.hid (B3.out.trans ((alloc_lt w5 (.cells #[.slice Ax lqx cx, .slice Bx lax kx] 25)).mono B3.out.size)); have Hx := Lib.hid (NV.new hnx hqx hax); have HLx := Lib.hid (And.intro hqx hax); clear hnx hqx hax hbx))
      | (go_at_call 11; ((with_reducible refine (HSD.out _ HB1.out).mono ?_); rintro e w5 ⟨Ax, cx, Bx, kx, lqx, lax, rfl, ⟨hqx, hax⟩, hnx, hbx⟩; have B3 := Lib.hid (show Below W4.heap.size W4 w5 from HB1.out.trans (hbx.mono HB1.out.size)); have X5 := Lib.hid ((Box.new W4 #[.slice none 0 0, .slice none 0 0] 25).drew.below hbx); obtain ⟨zx0, zx1, fx0, fx1⟩ := And.intro (X5.out.cell 0) (And.intro (X5.out.cell 1) (And.intro (X5.out.frozen 0) (X5.out.frozen 1))); have B5 := Lib.hid ((B3.out.setCell (p := ⟨W4.heap.size, 0, none⟩) (Nat.le_refl _) (.slice Ax lqx cx)).setCell (p := ⟨W4.heap.size, 1, none⟩) (Nat.le_refl _) (.slice Bx lax kx)); have Hx := Lib.hid (nv_set X5.out hnx hqx hax); have HLx := Lib.hid (And.intro hqx hax); clear hnx hqx hax hbx))
      | fail)
  all_goals
    clear HK HSD lb0 ln0 hbA HB0 HB1
    first
      | (clear zx0 zx1 fx0 fx1; generalize World.setCell (World.setCell w5 _ _) _ _ = W5 at *)
      | (generalize w5.alloc (.cells #[.slice Ax lqx cx, .slice Bx lax kx] 25) = W5 at *)
      | fail
    have Hn := Lib.hid (Hn.out.up B5.out)
    have Ha := Lib.hid (Ha.out.up B5.out)
    have Hb := Lib.hid (Hb.out.up B5.out)
    have Hc := Lib.hid (Hc.out.up B5.out)
    have Hd := Lib.hid (Hd.out.up B5.out)
    have HBZ := Lib.hid (HBZ.out.trans (B5.out.mono HBZ.out.size))
    have HS1 := Lib.hid (by have := same_v Ha.out Hb.out; rw [smn_refl] at this; exact this)
    obtain ⟨xa0, xa1⟩ := Ha.out.cells
    obtain ⟨xb0, xb1⟩ := Hb.out.cells
    go_wp2_with fail
    refine (HS1.out).mono ?_
    rintro e ws1 ⟨rfl, hbs1⟩
    clear xa0 xa1 xb0 xb1
    have Hn := Lib.hid (Hn.out.up hbs1)
    have Ha := Lib.hid (Ha.out.up hbs1)
    have Hb := Lib.hid (Hb.out.up hbs1)
    have Hc := Lib.hid (Hc.out.up hbs1)
    have Hd := Lib.hid (Hd.out.up hbs1)
    have Hx := Lib.hid (Hx.out.up hbs1)
    have HBZ := Lib.hid (HBZ.out.trans (hbs1.mono HBZ.out.size))
    clear hbs1
    have HS2 := Lib.hid (by have := same_v Hd.out Hx.out; rw [smn_refl] at this; exact this)
    obtain ⟨xd0, xd1⟩ := Hd.out.cells
    obtain ⟨xx0, xx1⟩ := Hx.out.cells
    go_wp2_with fail
    refine (HS2.out).mono ?_
    rintro e ws2 ⟨rfl, hbs2⟩
    clear xd0 xd1 xx0 xx1
    have Hn := Lib.hid (Hn.out.up hbs2)
    have Ha := Lib.hid (Ha.out.up hbs2)
    have Hb := Lib.hid (Hb.out.up hbs2)
    have Hc := Lib.hid (Hc.out.up hbs2)
    have Hd := Lib.hid (Hd.out.up hbs2)
    have Hx := Lib.hid (Hx.out.up hbs2)
    have HBZ := Lib.hid (HBZ.out.trans (hbs2.mono HBZ.out.size))
    clear hbs2
    have hlc : lqc = lqn + 1 := by have h1 := HLc.out.1; have h2 := HLQ.out.1; rw [wi_len] at h1; omega
    subst hlc
    have hin1 : lqn ≤ 40 := by have := (few_le HF.out).1; have := HLQ.out.1; omega
    obtain ⟨xc0, xc1⟩ := Hc.out.cells
    obtain ⟨xn0, xn1⟩ := Hn.out.cells
    go_wp2_with fail
    go_ret
    exact ⟨rfl, HBZ.out⟩
end Go.Proofs.Ytljbofniglcheaa
