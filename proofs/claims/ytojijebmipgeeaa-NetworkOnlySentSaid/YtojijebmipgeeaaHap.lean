/- A move. -/
import Derived.Test.YtojijebmipgeeaaVa
import Derived.Test.YtojijebmipgeeaaRDl
import Derived.Test.YtojijebmipgeeaaPlN
import Derived.Test.YtojijebmipgeeaaPlC
import Derived.IntWalk
import Derived.BigQuiet
import Derived.Deep.Cut
import Derived.Deep.CutRange
namespace Go.Proofs.Ytojijebmipgeeaa
open Go.RowKit Go.Sort
set_option linter.unusedVariables false

/-- A move: its kind, a place, two numbers, a byte. -/
structure Mv where
  k : UInt8
  t : UInt8
  a : UInt8
  b : UInt8
  d : UInt8
def mat (n : Nt) (m : Mv) : Nat := if 0 < n.q.length then m.t.toNat % n.q.length else 0
def mpk (m : Mv) : Pk := ⟨((m.a.toNat % 16 : Nat) : Int), ((m.b.toNat % 16 : Nat) : Int), [m.d]⟩
/-- What a move leaves: links, a packet, an error. -/
def hx (n : Nt) (m : Mv) : Nt := match m.k.toNat % 6 with
  | 0 => sn n (mpk m)
  | 1 => los n (mat n m : Int)
  | 2 => los n (mat n m : Int)
  | 3 => rp n (mat n m : Int)
  | 4 => ct n (mpk m).fr (mpk m).to true
  | _ => ct n (mpk m).fr (mpk m).to false
def hp (n : Nt) (m : Mv) : Pk := match m.k.toNat % 6 with
  | 1 => dlp n (mat n m : Int)
  | _ => pk0
def he (n : Nt) (m : Mv) : Int := match m.k.toNat % 6 with
  | 0 => sne n (mpk m)
  | 1 => hle n (mat n m : Int)
  | 2 => hle n (mat n m : Int)
  | 3 => rpe n (mat n m : Int)
  | 4 => cte n (mpk m).fr (mpk m).to
  | _ => cte n (mpk m).fr (mpk m).to
theorem vld_nt0 : vld nt0 = true := by rfl
theorem vld_los {n : Nt} (h : vld n = true) (i : Int) : vld (los n i) = true := by
  unfold los
  split
  · exact vld_wo h _
  · exact vld_nt0
def mvc (m : Mv) : Array Value := #[bv m.k, bv m.t, bv m.a, bv m.b, bv m.d]
/-- The boxes at the start. -/
structure Hb (w W : World) (m : Mv) : Prop where
  below : Below w.heap.size w W
  mv : Box W (w.heap.size + 1) (mvc m) 49
  res : Box W (w.heap.size + 1 + 1) #[.slice none 0 0, .slice none 0 0] 25
  pk : Box W (w.heap.size + 1 + 1 + 1) #[.int .i64 0, .int .i64 0, .slice none 0 0] 28
theorem hb_new (w : World) (m : Mv) (o : Obj) : Hb w ((((w.alloc o).alloc (.cells (mvc m) 49)).alloc (.cells #[.slice none 0 0, .slice none 0 0] 25)).alloc (.cells #[.int .i64 0, .int .i64 0, .slice none 0 0] 28)) m := by
  refine ⟨(alloc3 w _ _ _).alloc (by simp; omega) _, ?_, ?_, ?_⟩
  · have := Box.alloc (Box.alloc (Box.new (w.alloc o) (mvc m) 49) (.cells #[.slice none 0 0, .slice none 0 0] 25)) (.cells #[.int .i64 0, .int .i64 0, .slice none 0 0] 28)
    rw [World.size_alloc] at this
    exact this
  · have := Box.alloc (Box.new ((w.alloc o).alloc (.cells (mvc m) 49)) #[.slice none 0 0, .slice none 0 0] 25) (.cells #[.int .i64 0, .int .i64 0, .slice none 0 0] 28)
    rw [World.size_alloc, World.size_alloc] at this
    exact this
  · have := Box.new (((w.alloc o).alloc (.cells (mvc m) 49)).alloc (.cells #[.slice none 0 0, .slice none 0 0] 25)) #[.int .i64 0, .int .i64 0, .slice none 0 0] 28
    rw [World.size_alloc, World.size_alloc, World.size_alloc] at this
    exact this
theorem hap_ret {fn : Func} {p q u : Tmp} (h : fn.results = #[.cell p 25, .cell q 28, .tmp u]) {v0 v1 p0 p1 p2 : Value} {tmps : Array Value} {w : World} {g g2 : Nat} (hp : tmps.getD p undef = .pointer (some ⟨g, 0, none⟩)) (hb : Box w g #[v0, v1] 25)
    (hq : tmps.getD q undef = .pointer (some ⟨g2, 0, none⟩)) (hb2 : Box w g2 #[p0, p1, p2] 28) :
    (results fn tmps).run Try.prog w = .ok (.tuple #[.agg #[v0, v1], .agg #[p0, p1, p2], tmps.getD u undef]) w :=
  results_row_row_tmp h tmps w g g2 _ _ _ _ hp hb hq hb2 Try.underlying25 rfl (nt_size _ _) Try.underlying28 rfl (pk_size _ _ _)
theorem same2 {w : World} {b : Nat} {t : TypeId} {v0 v1 : Value} (h : Box w b #[v0, v1] t) : (w.setCell ⟨b, 0, none⟩ v0).setCell ⟨b, 1, none⟩ v1 = w := by
  have h0 : w.setCell ⟨b, 0, none⟩ v0 = w := set_same (i := 0) h rfl
  have h1 : w.setCell ⟨b, 1, none⟩ v1 = w := set_same (i := 1) h rfl
  rw [h0, h1]
def HapP (x : Nt) (p : Pk) (er : Int) (w : World) (e : Ending) (w' : World) : Prop := ∃ A c B k lq la D d m, e = .returned (.tuple #[.agg #[.slice A lq c, .slice B la k], .agg #[.int .i64 p.fr, .int .i64 p.to, .slice D m d], .int .i64 er]) ∧ (x.q.length = lq ∧ x.ap.length = la) ∧ NtIn w' x A c B k ∧ (p.da.length = m ∧ Sl w' D p.da d) ∧ Below w.heap.size w w'
theorem sl_byte (w : World) (x : UInt8) : Sl (w.alloc (.cells #[bv x] 5)) (some ⟨w.heap.size, 0, none⟩) [x] 1 := by
  have hx := Box.new w #[bv x] 5
  refine ⟨fun _ => ⟨w.heap.size, 0, rfl, hx.lt, fun j u hj => ?_⟩, by simp, by unfold maxLen; omega, fun e => by cases e⟩
  rw [Nat.zero_add, hx.cell j]
  match j, hj with
  | 0, hj => cases hj; rfl
theorem bv_int (x : UInt8) : bv x = .int .u8 (x.toNat : Int) := rfl

set_option maxHeartbeats 16000000 in
set_option maxRecDepth 100000 in
theorem happens_any (n : Nt) (A B : Option Addr) (c k : Nat) (m : Mv) (w : World) (hS : NtIn w n A c B k) (hv : vld n = true) :
    Calls Try.prog 27 #[ntv n A c B k, .agg (mvc m)] w (HapP (hx n m) (hp n m) (he n m) w) := by
  obtain ⟨lq, hlq⟩ : ∃ lq, n.q.length = lq := ⟨_, rfl⟩
  obtain ⟨la, hla⟩ : ∃ la, n.ap.length = la := ⟨_, rfl⟩
  have hl9 := (nt_len hS).1
  have hval : ntv n A c B k = .agg #[.slice A lq c, .slice B la k] := by unfold ntv ntc; rw [hlq, hla]
  rw [hval]
  have HB := Lib.hid (hb_new w m (.cells #[.slice A lq c, .slice B la k] 25))
  have hn1 := (NV.new hS hlq hla).up (alloc3 _ (.cells (mvc m) 49) (.cells #[.slice none 0 0, .slice none 0 0] 25) (.cells #[.int .i64 0, .int .i64 0, .slice none 0 0] 28))
  have Hn := Lib.hid hn1
  obtain ⟨kn, hkn⟩ : ∃ kn, m.k.toNat = kn := ⟨_, rfl⟩
  obtain ⟨tn, htn⟩ : ∃ tn, m.t.toNat = tn := ⟨_, rfl⟩
  obtain ⟨an, han⟩ : ∃ an, m.a.toNat = an := ⟨_, rfl⟩
  obtain ⟨bn, hbn⟩ : ∃ bn, m.b.toNat = bn := ⟨_, rfl⟩
  have hk8 : kn < 256 := by rw [← hkn]; exact m.k.toNat_lt
  have ht8 : tn < 256 := by rw [← htn]; exact m.t.toNat_lt
  have ha8 : an < 256 := by rw [← han]; exact m.a.toNat_lt
  have hb8 : bn < 256 := by rw [← hbn]; exact m.b.toNat_lt
  obtain ⟨dn, hdn⟩ : ∃ dn, m.d.toNat = dn := ⟨_, rfl⟩
  have hmc : mvc m = #[.int .u8 (kn : Int), .int .u8 (tn : Int), .int .u8 (an : Int), .int .u8 (bn : Int), .int .u8 (dn : Int)] := by unfold mvc bv; rw [hkn, htn, han, hbn, hdn]
  have HBM := Lib.hid (fun V (hb : Box V (w.heap.size + 1) (mvc m) 49) => show Box V (w.heap.size + 1) #[.int .u8 (kn : Int), .int .u8 (tn : Int), .int .u8 (an : Int), .int .u8 (bn : Int), .int .u8 (dn : Int)] 49 from hmc ▸ hb)
  rw [hmc] at hn1 Hn ⊢
  obtain ⟨ai, hai⟩ : ∃ ai, (if 0 < lq then tn % lq else 0) = ai := ⟨_, rfl⟩
  obtain ⟨a16, ha16⟩ : ∃ a16, an % 16 = a16 := ⟨_, rfl⟩
  obtain ⟨b16, hb16⟩ : ∃ b16, bn % 16 = b16 := ⟨_, rfl⟩
  obtain ⟨r, hr⟩ : ∃ r, kn % 6 = r := ⟨_, rfl⟩
  have hr6 : r < 6 := by rw [← hr]; exact Nat.mod_lt _ (by decide)
  have HV := Lib.hid hv
  have HMT := Lib.hid (show mat n m = ai by unfold mat; rw [hlq, htn]; exact hai)
  have HMP := Lib.hid (show mpk m = ⟨(a16 : Int), (b16 : Int), [m.d]⟩ by unfold mpk; rw [han, hbn, ha16, hb16])
  have HMK := Lib.hid (show m.k.toNat % 6 = r by rw [hkn]; exact hr)
  have HDV := Lib.hid (show bv m.d = .int .u8 (dn : Int) by unfold bv; rw [hdn])
  have HAI := Lib.hid hai
  rw [hmc] at HB
  clear hval hS hv hlq hla hn1 hkn htn han hbn hdn hmc hai
  unfold HapP
  go_enter Try.func27, Try.ntmps27
  go_upto_region 1 with fail
  generalize World.alloc _ _ = W at *
  obtain ⟨xn0, xn1⟩ := Hn.out.cells
  obtain ⟨xm0, xm1, xm2, xm3, xm4⟩ := And.intro ((HBM.out _ HB.out.mv).cell 0) (And.intro ((HBM.out _ HB.out.mv).cell 1) (And.intro ((HBM.out _ HB.out.mv).cell 2) (And.intro ((HBM.out _ HB.out.mv).cell 3) ((HBM.out _ HB.out.mv).cell 4))))
  simp only [List.getElem?_toArray, List.getElem?_cons_zero, List.getElem?_cons_succ] at xm0 xm1 xm2 xm3 xm4
  go_upto_if 13 with fail
  go_cut [7] from 14 to 20 (fun t wx => t = .int .i64 (ai : Int) ∧ W = wx)
  case first =>
    by_cases h0 : 0 < lq
    · have hi := HAI.out
      rw [if_pos h0] at hi
      have hd0 : decide ((0 : Int) < (lq : Int)) = true := decide_eq_true (by omega)
      have h0I : (0 : Int) < (lq : Int) := by omega
      have hmod : ((tn : Int) % (lq : Int)) = (ai : Int) := by rw [← hi]; omega
      have hmodt : ((tn : Int).tmod (lq : Int)) = (ai : Int) := by rw [Int.tmod_eq_emod_of_nonneg (by omega)]; exact hmod
      clear hi
      go_wp2_with fail
      go_meet
      first
        | exact ⟨rfl, rfl⟩
        | exact ⟨by rw [hmodt], rfl⟩
        | exact ⟨by rw [hmod], rfl⟩
    · have hi := HAI.out
      rw [if_neg h0] at hi
      subst hi
      have hd0 : decide ((0 : Int) < (lq : Int)) = false := decide_eq_false (by omega)
      go_wp2_with fail
      go_meet
      exact ⟨rfl, rfl⟩
  obtain ⟨rfl, rfl⟩ := hcut
  have hm1 : ((an : Int) % 16) = (a16 : Int) := by rw [← ha16]; omega
  have hm2 : ((bn : Int) % 16) = (b16 : Int) := by rw [← hb16]; omega
  have hm3 : ((an : Int).tmod 16) = (a16 : Int) := by rw [Int.tmod_eq_emod_of_nonneg (by omega)]; exact hm1
  have hm4 : ((bn : Int).tmod 16) = (b16 : Int) := by rw [Int.tmod_eq_emod_of_nonneg (by omega)]; exact hm2
  go_upto_region 4 with fail
  go_quiet (fail)
  have HBN := Lib.hid (below_drewN W nq)
  generalize W.drewN nq = V at *
  have Hn := Lib.hid (Hn.out.up HBN.out)
  clear xn0 xn1 xm0 xm1 xm2 xm3 xm4
  have HM := Lib.hid ((HBM.out _ HB.out.mv).below HBN.out)
  have HR := Lib.hid (HB.out.res.below HBN.out)
  have HP := Lib.hid (HB.out.pk.below HBN.out)
  have HBW := Lib.hid (HB.out.below.trans (HBN.out.mono HB.out.below.size))
  clear HB HBN HBM
  obtain ⟨xn0, xn1⟩ := Hn.out.cells
  obtain ⟨xm0, xm4⟩ := And.intro (HM.out.cell 0) (HM.out.cell 4)
  simp only [List.getElem?_toArray, List.getElem?_cons_zero, List.getElem?_cons_succ] at xm0 xm4
  obtain ⟨z0, z1, f0, f1⟩ := cells2 HR.out
  obtain ⟨y0, y1, y2, g0, g1, g2⟩ := cells3 HP.out
  have hk1 : ((kn : Int) % 6) = (r : Int) := by rw [← hr]; omega
  have hk2 : ((kn : Int).tmod 6) = (r : Int) := by rw [Int.tmod_eq_emod_of_nonneg (by omega)]; exact hk1
  clear hr hm1 hm2 hm3 hm4
  rcases (show r = 0 ∨ r = 1 ∨ r = 2 ∨ r = 3 ∨ r = 4 ∨ r = 5 by omega) with rfl | rfl | rfl | rfl | rfl | rfl
  · have HXX := Lib.hid (show hx n m = sn n (mpk m) ∧ hp n m = pk0 ∧ he n m = sne n (mpk m) by unfold hx hp he; rw [HMK.out]; exact ⟨rfl, rfl, rfl⟩)
    obtain ⟨er, her⟩ : ∃ er, sne n (mpk m) = er := ⟨_, rfl⟩
    obtain ⟨xr, hxr⟩ : ∃ xr, sn n (mpk m) = xr := ⟨_, rfl⟩
    have HAL := Lib.hid (alloc_lt V (.cells #[.int .u8 (dn : Int)] 5))
    have HSB := Lib.hid (show Sl (V.alloc (.cells #[.int .u8 (dn : Int)] 5)) (some ⟨V.heap.size, 0, none⟩) (mpk m).da 1 from by rw [← HDV.out]; exact sl_byte V m.d)
    have HC := Lib.hid (by have := send_s (p := mpk m) (Hn.out.up HAL.out) HSB.out (show (mpk m).da.length = 1 from rfl); rw [hxr, her, show (mpk m).fr = (a16 : Int) by rw [HMP.out], show (mpk m).to = (b16 : Int) by rw [HMP.out]] at this; exact this)
    rw [hxr, her] at HXX
    clear her hxr
    go_upto_region 7 with fail
    go_wp2_with fail
    refine HC.out.mono ?_
    rintro e w3 ⟨Ax, cx, Bx, kx, lqx, lax, rfl, ⟨hqx, hax⟩, hnx, hbx⟩
    have hbv := HAL.out.trans (hbx.mono HAL.out.size)
    clear z0 z1 f0 f1 y0 y1 y2 g0 g1 g2 xn0 xn1 xm0 xm4
    have HR := Lib.hid (HR.out.below hbv)
    have HP := Lib.hid (HP.out.below hbv)
    have HBW := Lib.hid (HBW.out.trans (hbv.mono HBW.out.size))
    obtain ⟨z0, z1, f0, f1⟩ := cells2 HR.out
    have HF := Lib.hid (fin2 (r := w.heap.size + 1 + 1) (by omega) HR.out HBW.out hnx hqx hax)
    have HFP := Lib.hid (box_other (b := w.heap.size + 1 + 1) (i := 1) (v := .slice Bx lax kx) (box_other (b := w.heap.size + 1 + 1) (i := 0) (v := .slice Ax lqx cx) HP.out (by omega)) (by omega))
    have HLX := Lib.hid (And.intro hqx hax)
    clear hbv hbx hnx hqx hax
    go_upto_region 18 with fail
    clear z0 z1 f0 f1
    generalize World.setCell (World.setCell w3 _ _) _ _ = G at *
    have HFR := Lib.hid HF.out.1
    have HFN := Lib.hid HF.out.2.1
    have HFB := Lib.hid HF.out.2.2
    have HFS := Lib.hid (And.intro (show pk0.da.length = 0 from rfl) (show Sl G none pk0.da 0 from sl_none G))
    clear HF HR HP HBW Hn HM

    obtain ⟨z0, z1, f0, f1⟩ := cells2 HFR.out
    obtain ⟨y0, y1, y2, g0, g1, g2⟩ := cells3 HFP.out
    have HDW := Lib.hid (show (fun w' => w'.cell? ⟨w.heap.size + 1 + 1, 0, none⟩ = some (.slice Ax lqx cx) ∧ w'.cell? ⟨w.heap.size + 1 + 1, 1, none⟩ = some (.slice Bx lax kx) ∧ w'.cell? ⟨w.heap.size + 1 + 1 + 1, 0, none⟩ = some (.int .i64 0) ∧ w'.cell? ⟨w.heap.size + 1 + 1 + 1, 1, none⟩ = some (.int .i64 0) ∧ w'.cell? ⟨w.heap.size + 1 + 1 + 1, 2, none⟩ = some (.slice none 0 0)) G.drew from ⟨z0, z1, y0, y1, y2⟩)
    have HGR := Lib.hid (show Box G.drew (w.heap.size + 1 + 1) #[.slice Ax lqx cx, .slice Bx lax kx] 25 from HFR.out.drew)
    have HGP := Lib.hid (show Box G.drew (w.heap.size + 1 + 1 + 1) #[.int .i64 0, .int .i64 0, .slice none 0 0] 28 from HFP.out.drew)
    refine wp_region_later 5 (fun w' => w'.cell? ⟨w.heap.size + 1 + 1, 0, none⟩ = some (.slice Ax lqx cx) ∧ w'.cell? ⟨w.heap.size + 1 + 1, 1, none⟩ = some (.slice Bx lax kx) ∧ w'.cell? ⟨w.heap.size + 1 + 1 + 1, 0, none⟩ = some (.int .i64 0) ∧ w'.cell? ⟨w.heap.size + 1 + 1 + 1, 1, none⟩ = some (.int .i64 0) ∧ w'.cell? ⟨w.heap.size + 1 + 1 + 1, 2, none⟩ = some (.slice none 0 0)) (by kernel_rfl) ?_
    refine takeL (d := some 88) (i := 0) (v := ?v0t0) rfl rfl (by kernel_rfl) (by kernel_rfl) (by kernel_rfl) (fun _ _ _ h => h) rfl (by kernel_rfl) (Or.inl ⟨by rfl, ?y0t0⟩) HDW.out ?r0t0
    case y0t0 =>
      intro w hSw
      try dsimp only at hSw
      go_simp
      all_goals with_reducible rfl
    try simp only [Act.put, List.setIfInBounds_toArray, List.set_cons_zero, List.set_cons_succ]
    refine takeL (d := some 89) (i := 1) (v := ?v1t0) rfl rfl (by kernel_rfl) (by kernel_rfl) (by kernel_rfl) (fun _ _ _ h => h) rfl (by kernel_rfl) (Or.inl ⟨by rfl, ?y1t0⟩) HDW.out ?r1t0
    case y1t0 =>
      intro w hSw
      try dsimp only at hSw
      go_simp
      all_goals with_reducible rfl
    try simp only [Act.put, List.setIfInBounds_toArray, List.set_cons_zero, List.set_cons_succ]
    refine takeL (d := some 90) (i := 2) (v := ?v2t0) rfl rfl (by kernel_rfl) (by kernel_rfl) (by kernel_rfl) (fun _ _ _ h => h) rfl (by kernel_rfl) (Or.inl ⟨by rfl, ?y2t0⟩) HDW.out ?r2t0
    case y2t0 =>
      intro w hSw
      try dsimp only at hSw
      go_simp
      all_goals with_reducible rfl
    try simp only [Act.put, List.setIfInBounds_toArray, List.set_cons_zero, List.set_cons_succ]
    clear z0 z1 f0 f1 y0 y1 y2 g0 g1 g2
    obtain ⟨z0, z1, f0, f1⟩ := cells2 HFR.out
    obtain ⟨y0, y1, y2, g0, g1, g2⟩ := cells3 HFP.out
    refine oneL (i := 3) (by kernel_rfl) rfl (fun K' hK => ?_)
    go_simp
    rw [same2 HFR.out]
    refine hK.out _ _ (fun _ => HDW.out) ?_
    clear hK
    refine oneL (i := 4) (by kernel_rfl) rfl (fun K' hK => ?_)
    go_simp
    rw [same3 HFP.out]
    refine hK.out _ _ (fun _ => HDW.out) ?_
    clear hK
    refine oneL (i := 5) (by kernel_rfl) rfl (fun K' hK => ?_)
    go_simp
    refine hK.out _ _ (fun e => by simp at e) ?_
    clear hK
    refine doneL (by kernel_rfl) ?_ _
    go_wp2_with fail
    refine bodyPost_ret (hap_ret Try.results27 rfl HGR.out rfl HGP.out) rfl ⟨Ax, cx, Bx, kx, lqx, lax, none, 0, 0, ?_, ?_, ?_, ⟨?_, ?_⟩, HFB.out.drew⟩
    · rw [HXX.out.2.1, HXX.out.2.2]; rfl
    · rw [HXX.out.1]; exact HLX.out
    · rw [HXX.out.1]; exact HFN.out.up (Below.refl _ G).drew
    · rw [HXX.out.2.1]; exact HFS.out.1
    · rw [HXX.out.2.1]; exact HFS.out.2.up (Below.refl _ G).drew
  · have HXX := Lib.hid (show hx n m = los n (mat n m : Int) ∧ hp n m = dlp n (mat n m : Int) ∧ he n m = hle n (mat n m : Int) by unfold hx hp he; rw [HMK.out]; exact ⟨rfl, rfl, rfl⟩)
    obtain ⟨er, her⟩ : ∃ er, hle n (mat n m : Int) = er := ⟨_, rfl⟩
    obtain ⟨xr, hxr⟩ : ∃ xr, los n (mat n m : Int) = xr := ⟨_, rfl⟩
    obtain ⟨pr, hpr⟩ : ∃ pr, dlp n (mat n m : Int) = pr := ⟨_, rfl⟩
    have HVX := Lib.hid (show vld xr = true by rw [← hxr]; exact vld_los HV.out _)
    have HC := Lib.hid (by have := deliver_v Hn.out (mat n m : Int); rw [hxr, her, hpr, HMT.out] at this; exact this)
    rw [hxr, her, hpr] at HXX
    clear her hxr hpr
    go_upto_region 9 with fail
    go_wp2_with fail
    refine HC.out.mono ?_
    rintro e w3 ⟨Dp, dp, mp, Ax, cx, Bx, kx, lqx, lax, rfl, ⟨hmp, hsp⟩, ⟨hqx, hax⟩, hnx, hbv⟩
    clear z0 z1 f0 f1 y0 y1 y2 g0 g1 g2 xn0 xn1 xm0 xm4
    have HR := Lib.hid (HR.out.below hbv)
    have HP := Lib.hid (HP.out.below hbv)
    have HBW := Lib.hid (HBW.out.trans (hbv.mono HBW.out.size))
    have HG := Lib.hid (grown3 w3 (w.heap.size + 1 + 1 + 1) (.int .i64 pr.fr) (.int .i64 pr.to) (.slice Dp mp dp))
    have HRB := Lib.hid (other3 (.int .i64 pr.fr) (.int .i64 pr.to) (.slice Dp mp dp) (b := w.heap.size + 1 + 1 + 1) HR.out (by omega))
    have HF := Lib.hid (fin2 (r := w.heap.size + 1 + 1) (by omega) HRB.out (below3 (.int .i64 pr.fr) (.int .i64 pr.to) (.slice Dp mp dp) (b := w.heap.size + 1 + 1 + 1) HBW.out (by omega)) (hnx.offz HVX.out HP.out HG.out) hqx hax)
    have HFP := Lib.hid (box_other (b := w.heap.size + 1 + 1) (i := 1) (v := .slice Bx lax kx) (box_other (b := w.heap.size + 1 + 1) (i := 0) (v := .slice Ax lqx cx) (box3 (.int .i64 pr.fr) (.int .i64 pr.to) (.slice Dp mp dp) HP.out) (by omega)) (by omega))
    have HFS := Lib.hid (And.intro hmp (((hsp.offz HP.out HG.out).off HRB.out (onlyS2 _ _ _ _ _ _) 0 (.slice Ax lqx cx)).off (HRB.out.set (i := 0) (v := .slice Ax lqx cx)) (OnlyS.set (onlyS2 _ _ _ _ _ _) 0 _ _ _) 1 (.slice Bx lax kx)))
    obtain ⟨y0, y1, y2, g0, g1, g2⟩ := cells3 HP.out
    obtain ⟨z0, z1, f0, f1⟩ := cells2 HRB.out
    have HLX := Lib.hid (And.intro hqx hax)
    clear hbv hnx hqx hax hmp hsp
    go_upto_region 18 with fail
    clear z0 z1 f0 f1 y0 y1 y2 g0 g1 g2
    generalize World.setCell (World.setCell (World.setCell (World.setCell (World.setCell w3 _ _) _ _) _ _) _ _) _ _ = G at *
    have HFR := Lib.hid HF.out.1
    have HFN := Lib.hid HF.out.2.1
    have HFB := Lib.hid HF.out.2.2
    clear HF HR HP HBW Hn HM HRB HG

    obtain ⟨z0, z1, f0, f1⟩ := cells2 HFR.out
    obtain ⟨y0, y1, y2, g0, g1, g2⟩ := cells3 HFP.out
    have HDW := Lib.hid (show (fun w' => w'.cell? ⟨w.heap.size + 1 + 1, 0, none⟩ = some (.slice Ax lqx cx) ∧ w'.cell? ⟨w.heap.size + 1 + 1, 1, none⟩ = some (.slice Bx lax kx) ∧ w'.cell? ⟨w.heap.size + 1 + 1 + 1, 0, none⟩ = some (.int .i64 pr.fr) ∧ w'.cell? ⟨w.heap.size + 1 + 1 + 1, 1, none⟩ = some (.int .i64 pr.to) ∧ w'.cell? ⟨w.heap.size + 1 + 1 + 1, 2, none⟩ = some (.slice Dp mp dp)) G.drew from ⟨z0, z1, y0, y1, y2⟩)
    have HGR := Lib.hid (show Box G.drew (w.heap.size + 1 + 1) #[.slice Ax lqx cx, .slice Bx lax kx] 25 from HFR.out.drew)
    have HGP := Lib.hid (show Box G.drew (w.heap.size + 1 + 1 + 1) #[.int .i64 pr.fr, .int .i64 pr.to, .slice Dp mp dp] 28 from HFP.out.drew)
    refine wp_region_later 5 (fun w' => w'.cell? ⟨w.heap.size + 1 + 1, 0, none⟩ = some (.slice Ax lqx cx) ∧ w'.cell? ⟨w.heap.size + 1 + 1, 1, none⟩ = some (.slice Bx lax kx) ∧ w'.cell? ⟨w.heap.size + 1 + 1 + 1, 0, none⟩ = some (.int .i64 pr.fr) ∧ w'.cell? ⟨w.heap.size + 1 + 1 + 1, 1, none⟩ = some (.int .i64 pr.to) ∧ w'.cell? ⟨w.heap.size + 1 + 1 + 1, 2, none⟩ = some (.slice Dp mp dp)) (by kernel_rfl) ?_
    refine takeL (d := some 88) (i := 0) (v := ?v0t1) rfl rfl (by kernel_rfl) (by kernel_rfl) (by kernel_rfl) (fun _ _ _ h => h) rfl (by kernel_rfl) (Or.inl ⟨by rfl, ?y0t1⟩) HDW.out ?r0t1
    case y0t1 =>
      intro w hSw
      try dsimp only at hSw
      go_simp
      all_goals with_reducible rfl
    try simp only [Act.put, List.setIfInBounds_toArray, List.set_cons_zero, List.set_cons_succ]
    refine takeL (d := some 89) (i := 1) (v := ?v1t1) rfl rfl (by kernel_rfl) (by kernel_rfl) (by kernel_rfl) (fun _ _ _ h => h) rfl (by kernel_rfl) (Or.inl ⟨by rfl, ?y1t1⟩) HDW.out ?r1t1
    case y1t1 =>
      intro w hSw
      try dsimp only at hSw
      go_simp
      all_goals with_reducible rfl
    try simp only [Act.put, List.setIfInBounds_toArray, List.set_cons_zero, List.set_cons_succ]
    refine takeL (d := some 90) (i := 2) (v := ?v2t1) rfl rfl (by kernel_rfl) (by kernel_rfl) (by kernel_rfl) (fun _ _ _ h => h) rfl (by kernel_rfl) (Or.inl ⟨by rfl, ?y2t1⟩) HDW.out ?r2t1
    case y2t1 =>
      intro w hSw
      try dsimp only at hSw
      go_simp
      all_goals with_reducible rfl
    try simp only [Act.put, List.setIfInBounds_toArray, List.set_cons_zero, List.set_cons_succ]
    clear z0 z1 f0 f1 y0 y1 y2 g0 g1 g2
    obtain ⟨z0, z1, f0, f1⟩ := cells2 HFR.out
    obtain ⟨y0, y1, y2, g0, g1, g2⟩ := cells3 HFP.out
    refine oneL (i := 3) (by kernel_rfl) rfl (fun K' hK => ?_)
    go_simp
    rw [same2 HFR.out]
    refine hK.out _ _ (fun _ => HDW.out) ?_
    clear hK
    refine oneL (i := 4) (by kernel_rfl) rfl (fun K' hK => ?_)
    go_simp
    rw [same3 HFP.out]
    refine hK.out _ _ (fun _ => HDW.out) ?_
    clear hK
    refine oneL (i := 5) (by kernel_rfl) rfl (fun K' hK => ?_)
    go_simp
    refine hK.out _ _ (fun e => by simp at e) ?_
    clear hK
    refine doneL (by kernel_rfl) ?_ _
    go_wp2_with fail
    refine bodyPost_ret (hap_ret Try.results27 rfl HGR.out rfl HGP.out) rfl ⟨Ax, cx, Bx, kx, lqx, lax, Dp, dp, mp, ?_, ?_, ?_, ⟨?_, ?_⟩, HFB.out.drew⟩
    · rw [HXX.out.2.1, HXX.out.2.2]; rfl
    · rw [HXX.out.1]; exact HLX.out
    · rw [HXX.out.1]; exact HFN.out.up (Below.refl _ G).drew
    · rw [HXX.out.2.1]; exact HFS.out.1
    · rw [HXX.out.2.1]; exact HFS.out.2.up (Below.refl _ G).drew
  · have HXX := Lib.hid (show hx n m = los n (mat n m : Int) ∧ hp n m = pk0 ∧ he n m = hle n (mat n m : Int) by unfold hx hp he; rw [HMK.out]; exact ⟨rfl, rfl, rfl⟩)
    obtain ⟨er, her⟩ : ∃ er, hle n (mat n m : Int) = er := ⟨_, rfl⟩
    obtain ⟨xr, hxr⟩ : ∃ xr, los n (mat n m : Int) = xr := ⟨_, rfl⟩
    have HC := Lib.hid (by have := lose_v Hn.out (mat n m : Int); rw [hxr, her, HMT.out] at this; exact this)
    rw [hxr, her] at HXX
    clear her hxr
    go_upto_region 11 with fail
    go_wp2_with fail
    refine HC.out.mono ?_
    rintro e w3 ⟨Ax, cx, Bx, kx, lqx, lax, rfl, ⟨hqx, hax⟩, hnx, hbx⟩
    have hbv := hbx
    clear z0 z1 f0 f1 y0 y1 y2 g0 g1 g2 xn0 xn1 xm0 xm4
    have HR := Lib.hid (HR.out.below hbv)
    have HP := Lib.hid (HP.out.below hbv)
    have HBW := Lib.hid (HBW.out.trans (hbv.mono HBW.out.size))
    obtain ⟨z0, z1, f0, f1⟩ := cells2 HR.out
    have HF := Lib.hid (fin2 (r := w.heap.size + 1 + 1) (by omega) HR.out HBW.out hnx hqx hax)
    have HFP := Lib.hid (box_other (b := w.heap.size + 1 + 1) (i := 1) (v := .slice Bx lax kx) (box_other (b := w.heap.size + 1 + 1) (i := 0) (v := .slice Ax lqx cx) HP.out (by omega)) (by omega))
    have HLX := Lib.hid (And.intro hqx hax)
    clear hbv hbx hnx hqx hax
    go_upto_region 18 with fail
    clear z0 z1 f0 f1
    generalize World.setCell (World.setCell w3 _ _) _ _ = G at *
    have HFR := Lib.hid HF.out.1
    have HFN := Lib.hid HF.out.2.1
    have HFB := Lib.hid HF.out.2.2
    have HFS := Lib.hid (And.intro (show pk0.da.length = 0 from rfl) (show Sl G none pk0.da 0 from sl_none G))
    clear HF HR HP HBW Hn HM

    obtain ⟨z0, z1, f0, f1⟩ := cells2 HFR.out
    obtain ⟨y0, y1, y2, g0, g1, g2⟩ := cells3 HFP.out
    have HDW := Lib.hid (show (fun w' => w'.cell? ⟨w.heap.size + 1 + 1, 0, none⟩ = some (.slice Ax lqx cx) ∧ w'.cell? ⟨w.heap.size + 1 + 1, 1, none⟩ = some (.slice Bx lax kx) ∧ w'.cell? ⟨w.heap.size + 1 + 1 + 1, 0, none⟩ = some (.int .i64 0) ∧ w'.cell? ⟨w.heap.size + 1 + 1 + 1, 1, none⟩ = some (.int .i64 0) ∧ w'.cell? ⟨w.heap.size + 1 + 1 + 1, 2, none⟩ = some (.slice none 0 0)) G.drew from ⟨z0, z1, y0, y1, y2⟩)
    have HGR := Lib.hid (show Box G.drew (w.heap.size + 1 + 1) #[.slice Ax lqx cx, .slice Bx lax kx] 25 from HFR.out.drew)
    have HGP := Lib.hid (show Box G.drew (w.heap.size + 1 + 1 + 1) #[.int .i64 0, .int .i64 0, .slice none 0 0] 28 from HFP.out.drew)
    refine wp_region_later 5 (fun w' => w'.cell? ⟨w.heap.size + 1 + 1, 0, none⟩ = some (.slice Ax lqx cx) ∧ w'.cell? ⟨w.heap.size + 1 + 1, 1, none⟩ = some (.slice Bx lax kx) ∧ w'.cell? ⟨w.heap.size + 1 + 1 + 1, 0, none⟩ = some (.int .i64 0) ∧ w'.cell? ⟨w.heap.size + 1 + 1 + 1, 1, none⟩ = some (.int .i64 0) ∧ w'.cell? ⟨w.heap.size + 1 + 1 + 1, 2, none⟩ = some (.slice none 0 0)) (by kernel_rfl) ?_
    refine takeL (d := some 88) (i := 0) (v := ?v0t2) rfl rfl (by kernel_rfl) (by kernel_rfl) (by kernel_rfl) (fun _ _ _ h => h) rfl (by kernel_rfl) (Or.inl ⟨by rfl, ?y0t2⟩) HDW.out ?r0t2
    case y0t2 =>
      intro w hSw
      try dsimp only at hSw
      go_simp
      all_goals with_reducible rfl
    try simp only [Act.put, List.setIfInBounds_toArray, List.set_cons_zero, List.set_cons_succ]
    refine takeL (d := some 89) (i := 1) (v := ?v1t2) rfl rfl (by kernel_rfl) (by kernel_rfl) (by kernel_rfl) (fun _ _ _ h => h) rfl (by kernel_rfl) (Or.inl ⟨by rfl, ?y1t2⟩) HDW.out ?r1t2
    case y1t2 =>
      intro w hSw
      try dsimp only at hSw
      go_simp
      all_goals with_reducible rfl
    try simp only [Act.put, List.setIfInBounds_toArray, List.set_cons_zero, List.set_cons_succ]
    refine takeL (d := some 90) (i := 2) (v := ?v2t2) rfl rfl (by kernel_rfl) (by kernel_rfl) (by kernel_rfl) (fun _ _ _ h => h) rfl (by kernel_rfl) (Or.inl ⟨by rfl, ?y2t2⟩) HDW.out ?r2t2
    case y2t2 =>
      intro w hSw
      try dsimp only at hSw
      go_simp
      all_goals with_reducible rfl
    try simp only [Act.put, List.setIfInBounds_toArray, List.set_cons_zero, List.set_cons_succ]
    clear z0 z1 f0 f1 y0 y1 y2 g0 g1 g2
    obtain ⟨z0, z1, f0, f1⟩ := cells2 HFR.out
    obtain ⟨y0, y1, y2, g0, g1, g2⟩ := cells3 HFP.out
    refine oneL (i := 3) (by kernel_rfl) rfl (fun K' hK => ?_)
    go_simp
    rw [same2 HFR.out]
    refine hK.out _ _ (fun _ => HDW.out) ?_
    clear hK
    refine oneL (i := 4) (by kernel_rfl) rfl (fun K' hK => ?_)
    go_simp
    rw [same3 HFP.out]
    refine hK.out _ _ (fun _ => HDW.out) ?_
    clear hK
    refine oneL (i := 5) (by kernel_rfl) rfl (fun K' hK => ?_)
    go_simp
    refine hK.out _ _ (fun e => by simp at e) ?_
    clear hK
    refine doneL (by kernel_rfl) ?_ _
    go_wp2_with fail
    refine bodyPost_ret (hap_ret Try.results27 rfl HGR.out rfl HGP.out) rfl ⟨Ax, cx, Bx, kx, lqx, lax, none, 0, 0, ?_, ?_, ?_, ⟨?_, ?_⟩, HFB.out.drew⟩
    · rw [HXX.out.2.1, HXX.out.2.2]; rfl
    · rw [HXX.out.1]; exact HLX.out
    · rw [HXX.out.1]; exact HFN.out.up (Below.refl _ G).drew
    · rw [HXX.out.2.1]; exact HFS.out.1
    · rw [HXX.out.2.1]; exact HFS.out.2.up (Below.refl _ G).drew
  · have HXX := Lib.hid (show hx n m = rp n (mat n m : Int) ∧ hp n m = pk0 ∧ he n m = rpe n (mat n m : Int) by unfold hx hp he; rw [HMK.out]; exact ⟨rfl, rfl, rfl⟩)
    obtain ⟨er, her⟩ : ∃ er, rpe n (mat n m : Int) = er := ⟨_, rfl⟩
    obtain ⟨xr, hxr⟩ : ∃ xr, rp n (mat n m : Int) = xr := ⟨_, rfl⟩
    have HC := Lib.hid (by have := repeat_v Hn.out (mat n m : Int); rw [hxr, her, HMT.out] at this; exact this)
    rw [hxr, her] at HXX
    clear her hxr
    go_upto_region 13 with fail
    go_wp2_with fail
    refine HC.out.mono ?_
    rintro e w3 ⟨Ax, cx, Bx, kx, lqx, lax, rfl, ⟨hqx, hax⟩, hnx, hbx⟩
    have hbv := hbx
    clear z0 z1 f0 f1 y0 y1 y2 g0 g1 g2 xn0 xn1 xm0 xm4
    have HR := Lib.hid (HR.out.below hbv)
    have HP := Lib.hid (HP.out.below hbv)
    have HBW := Lib.hid (HBW.out.trans (hbv.mono HBW.out.size))
    obtain ⟨z0, z1, f0, f1⟩ := cells2 HR.out
    have HF := Lib.hid (fin2 (r := w.heap.size + 1 + 1) (by omega) HR.out HBW.out hnx hqx hax)
    have HFP := Lib.hid (box_other (b := w.heap.size + 1 + 1) (i := 1) (v := .slice Bx lax kx) (box_other (b := w.heap.size + 1 + 1) (i := 0) (v := .slice Ax lqx cx) HP.out (by omega)) (by omega))
    have HLX := Lib.hid (And.intro hqx hax)
    clear hbv hbx hnx hqx hax
    go_upto_region 18 with fail
    clear z0 z1 f0 f1
    generalize World.setCell (World.setCell w3 _ _) _ _ = G at *
    have HFR := Lib.hid HF.out.1
    have HFN := Lib.hid HF.out.2.1
    have HFB := Lib.hid HF.out.2.2
    have HFS := Lib.hid (And.intro (show pk0.da.length = 0 from rfl) (show Sl G none pk0.da 0 from sl_none G))
    clear HF HR HP HBW Hn HM

    obtain ⟨z0, z1, f0, f1⟩ := cells2 HFR.out
    obtain ⟨y0, y1, y2, g0, g1, g2⟩ := cells3 HFP.out
    have HDW := Lib.hid (show (fun w' => w'.cell? ⟨w.heap.size + 1 + 1, 0, none⟩ = some (.slice Ax lqx cx) ∧ w'.cell? ⟨w.heap.size + 1 + 1, 1, none⟩ = some (.slice Bx lax kx) ∧ w'.cell? ⟨w.heap.size + 1 + 1 + 1, 0, none⟩ = some (.int .i64 0) ∧ w'.cell? ⟨w.heap.size + 1 + 1 + 1, 1, none⟩ = some (.int .i64 0) ∧ w'.cell? ⟨w.heap.size + 1 + 1 + 1, 2, none⟩ = some (.slice none 0 0)) G.drew from ⟨z0, z1, y0, y1, y2⟩)
    have HGR := Lib.hid (show Box G.drew (w.heap.size + 1 + 1) #[.slice Ax lqx cx, .slice Bx lax kx] 25 from HFR.out.drew)
    have HGP := Lib.hid (show Box G.drew (w.heap.size + 1 + 1 + 1) #[.int .i64 0, .int .i64 0, .slice none 0 0] 28 from HFP.out.drew)
    refine wp_region_later 5 (fun w' => w'.cell? ⟨w.heap.size + 1 + 1, 0, none⟩ = some (.slice Ax lqx cx) ∧ w'.cell? ⟨w.heap.size + 1 + 1, 1, none⟩ = some (.slice Bx lax kx) ∧ w'.cell? ⟨w.heap.size + 1 + 1 + 1, 0, none⟩ = some (.int .i64 0) ∧ w'.cell? ⟨w.heap.size + 1 + 1 + 1, 1, none⟩ = some (.int .i64 0) ∧ w'.cell? ⟨w.heap.size + 1 + 1 + 1, 2, none⟩ = some (.slice none 0 0)) (by kernel_rfl) ?_
    refine takeL (d := some 88) (i := 0) (v := ?v0t3) rfl rfl (by kernel_rfl) (by kernel_rfl) (by kernel_rfl) (fun _ _ _ h => h) rfl (by kernel_rfl) (Or.inl ⟨by rfl, ?y0t3⟩) HDW.out ?r0t3
    case y0t3 =>
      intro w hSw
      try dsimp only at hSw
      go_simp
      all_goals with_reducible rfl
    try simp only [Act.put, List.setIfInBounds_toArray, List.set_cons_zero, List.set_cons_succ]
    refine takeL (d := some 89) (i := 1) (v := ?v1t3) rfl rfl (by kernel_rfl) (by kernel_rfl) (by kernel_rfl) (fun _ _ _ h => h) rfl (by kernel_rfl) (Or.inl ⟨by rfl, ?y1t3⟩) HDW.out ?r1t3
    case y1t3 =>
      intro w hSw
      try dsimp only at hSw
      go_simp
      all_goals with_reducible rfl
    try simp only [Act.put, List.setIfInBounds_toArray, List.set_cons_zero, List.set_cons_succ]
    refine takeL (d := some 90) (i := 2) (v := ?v2t3) rfl rfl (by kernel_rfl) (by kernel_rfl) (by kernel_rfl) (fun _ _ _ h => h) rfl (by kernel_rfl) (Or.inl ⟨by rfl, ?y2t3⟩) HDW.out ?r2t3
    case y2t3 =>
      intro w hSw
      try dsimp only at hSw
      go_simp
      all_goals with_reducible rfl
    try simp only [Act.put, List.setIfInBounds_toArray, List.set_cons_zero, List.set_cons_succ]
    clear z0 z1 f0 f1 y0 y1 y2 g0 g1 g2
    obtain ⟨z0, z1, f0, f1⟩ := cells2 HFR.out
    obtain ⟨y0, y1, y2, g0, g1, g2⟩ := cells3 HFP.out
    refine oneL (i := 3) (by kernel_rfl) rfl (fun K' hK => ?_)
    go_simp
    rw [same2 HFR.out]
    refine hK.out _ _ (fun _ => HDW.out) ?_
    clear hK
    refine oneL (i := 4) (by kernel_rfl) rfl (fun K' hK => ?_)
    go_simp
    rw [same3 HFP.out]
    refine hK.out _ _ (fun _ => HDW.out) ?_
    clear hK
    refine oneL (i := 5) (by kernel_rfl) rfl (fun K' hK => ?_)
    go_simp
    refine hK.out _ _ (fun e => by simp at e) ?_
    clear hK
    refine doneL (by kernel_rfl) ?_ _
    go_wp2_with fail
    refine bodyPost_ret (hap_ret Try.results27 rfl HGR.out rfl HGP.out) rfl ⟨Ax, cx, Bx, kx, lqx, lax, none, 0, 0, ?_, ?_, ?_, ⟨?_, ?_⟩, HFB.out.drew⟩
    · rw [HXX.out.2.1, HXX.out.2.2]; rfl
    · rw [HXX.out.1]; exact HLX.out
    · rw [HXX.out.1]; exact HFN.out.up (Below.refl _ G).drew
    · rw [HXX.out.2.1]; exact HFS.out.1
    · rw [HXX.out.2.1]; exact HFS.out.2.up (Below.refl _ G).drew
  · have HXX := Lib.hid (show hx n m = ct n (mpk m).fr (mpk m).to true ∧ hp n m = pk0 ∧ he n m = cte n (mpk m).fr (mpk m).to by unfold hx hp he; rw [HMK.out]; exact ⟨rfl, rfl, rfl⟩)
    obtain ⟨er, her⟩ : ∃ er, cte n (mpk m).fr (mpk m).to = er := ⟨_, rfl⟩
    obtain ⟨xr, hxr⟩ : ∃ xr, ct n (mpk m).fr (mpk m).to true = xr := ⟨_, rfl⟩
    have HC := Lib.hid (by have := cut_v Hn.out (mpk m).fr (mpk m).to true; rw [hxr, her, show (mpk m).fr = (a16 : Int) by rw [HMP.out], show (mpk m).to = (b16 : Int) by rw [HMP.out]] at this; exact this)
    rw [hxr, her] at HXX
    clear her hxr
    go_upto_region 15 with fail
    go_wp2_with fail
    refine HC.out.mono ?_
    rintro e w3 ⟨Ax, cx, Bx, kx, lqx, lax, rfl, ⟨hqx, hax⟩, hnx, hbx⟩
    have hbv := hbx
    clear z0 z1 f0 f1 y0 y1 y2 g0 g1 g2 xn0 xn1 xm0 xm4
    have HR := Lib.hid (HR.out.below hbv)
    have HP := Lib.hid (HP.out.below hbv)
    have HBW := Lib.hid (HBW.out.trans (hbv.mono HBW.out.size))
    obtain ⟨z0, z1, f0, f1⟩ := cells2 HR.out
    have HF := Lib.hid (fin2 (r := w.heap.size + 1 + 1) (by omega) HR.out HBW.out hnx hqx hax)
    have HFP := Lib.hid (box_other (b := w.heap.size + 1 + 1) (i := 1) (v := .slice Bx lax kx) (box_other (b := w.heap.size + 1 + 1) (i := 0) (v := .slice Ax lqx cx) HP.out (by omega)) (by omega))
    have HLX := Lib.hid (And.intro hqx hax)
    clear hbv hbx hnx hqx hax
    go_upto_region 18 with fail
    clear z0 z1 f0 f1
    generalize World.setCell (World.setCell w3 _ _) _ _ = G at *
    have HFR := Lib.hid HF.out.1
    have HFN := Lib.hid HF.out.2.1
    have HFB := Lib.hid HF.out.2.2
    have HFS := Lib.hid (And.intro (show pk0.da.length = 0 from rfl) (show Sl G none pk0.da 0 from sl_none G))
    clear HF HR HP HBW Hn HM

    obtain ⟨z0, z1, f0, f1⟩ := cells2 HFR.out
    obtain ⟨y0, y1, y2, g0, g1, g2⟩ := cells3 HFP.out
    have HDW := Lib.hid (show (fun w' => w'.cell? ⟨w.heap.size + 1 + 1, 0, none⟩ = some (.slice Ax lqx cx) ∧ w'.cell? ⟨w.heap.size + 1 + 1, 1, none⟩ = some (.slice Bx lax kx) ∧ w'.cell? ⟨w.heap.size + 1 + 1 + 1, 0, none⟩ = some (.int .i64 0) ∧ w'.cell? ⟨w.heap.size + 1 + 1 + 1, 1, none⟩ = some (.int .i64 0) ∧ w'.cell? ⟨w.heap.size + 1 + 1 + 1, 2, none⟩ = some (.slice none 0 0)) G.drew from ⟨z0, z1, y0, y1, y2⟩)
    have HGR := Lib.hid (show Box G.drew (w.heap.size + 1 + 1) #[.slice Ax lqx cx, .slice Bx lax kx] 25 from HFR.out.drew)
    have HGP := Lib.hid (show Box G.drew (w.heap.size + 1 + 1 + 1) #[.int .i64 0, .int .i64 0, .slice none 0 0] 28 from HFP.out.drew)
    refine wp_region_later 5 (fun w' => w'.cell? ⟨w.heap.size + 1 + 1, 0, none⟩ = some (.slice Ax lqx cx) ∧ w'.cell? ⟨w.heap.size + 1 + 1, 1, none⟩ = some (.slice Bx lax kx) ∧ w'.cell? ⟨w.heap.size + 1 + 1 + 1, 0, none⟩ = some (.int .i64 0) ∧ w'.cell? ⟨w.heap.size + 1 + 1 + 1, 1, none⟩ = some (.int .i64 0) ∧ w'.cell? ⟨w.heap.size + 1 + 1 + 1, 2, none⟩ = some (.slice none 0 0)) (by kernel_rfl) ?_
    refine takeL (d := some 88) (i := 0) (v := ?v0t4) rfl rfl (by kernel_rfl) (by kernel_rfl) (by kernel_rfl) (fun _ _ _ h => h) rfl (by kernel_rfl) (Or.inl ⟨by rfl, ?y0t4⟩) HDW.out ?r0t4
    case y0t4 =>
      intro w hSw
      try dsimp only at hSw
      go_simp
      all_goals with_reducible rfl
    try simp only [Act.put, List.setIfInBounds_toArray, List.set_cons_zero, List.set_cons_succ]
    refine takeL (d := some 89) (i := 1) (v := ?v1t4) rfl rfl (by kernel_rfl) (by kernel_rfl) (by kernel_rfl) (fun _ _ _ h => h) rfl (by kernel_rfl) (Or.inl ⟨by rfl, ?y1t4⟩) HDW.out ?r1t4
    case y1t4 =>
      intro w hSw
      try dsimp only at hSw
      go_simp
      all_goals with_reducible rfl
    try simp only [Act.put, List.setIfInBounds_toArray, List.set_cons_zero, List.set_cons_succ]
    refine takeL (d := some 90) (i := 2) (v := ?v2t4) rfl rfl (by kernel_rfl) (by kernel_rfl) (by kernel_rfl) (fun _ _ _ h => h) rfl (by kernel_rfl) (Or.inl ⟨by rfl, ?y2t4⟩) HDW.out ?r2t4
    case y2t4 =>
      intro w hSw
      try dsimp only at hSw
      go_simp
      all_goals with_reducible rfl
    try simp only [Act.put, List.setIfInBounds_toArray, List.set_cons_zero, List.set_cons_succ]
    clear z0 z1 f0 f1 y0 y1 y2 g0 g1 g2
    obtain ⟨z0, z1, f0, f1⟩ := cells2 HFR.out
    obtain ⟨y0, y1, y2, g0, g1, g2⟩ := cells3 HFP.out
    refine oneL (i := 3) (by kernel_rfl) rfl (fun K' hK => ?_)
    go_simp
    rw [same2 HFR.out]
    refine hK.out _ _ (fun _ => HDW.out) ?_
    clear hK
    refine oneL (i := 4) (by kernel_rfl) rfl (fun K' hK => ?_)
    go_simp
    rw [same3 HFP.out]
    refine hK.out _ _ (fun _ => HDW.out) ?_
    clear hK
    refine oneL (i := 5) (by kernel_rfl) rfl (fun K' hK => ?_)
    go_simp
    refine hK.out _ _ (fun e => by simp at e) ?_
    clear hK
    refine doneL (by kernel_rfl) ?_ _
    go_wp2_with fail
    refine bodyPost_ret (hap_ret Try.results27 rfl HGR.out rfl HGP.out) rfl ⟨Ax, cx, Bx, kx, lqx, lax, none, 0, 0, ?_, ?_, ?_, ⟨?_, ?_⟩, HFB.out.drew⟩
    · rw [HXX.out.2.1, HXX.out.2.2]; rfl
    · rw [HXX.out.1]; exact HLX.out
    · rw [HXX.out.1]; exact HFN.out.up (Below.refl _ G).drew
    · rw [HXX.out.2.1]; exact HFS.out.1
    · rw [HXX.out.2.1]; exact HFS.out.2.up (Below.refl _ G).drew
  · have HXX := Lib.hid (show hx n m = ct n (mpk m).fr (mpk m).to false ∧ hp n m = pk0 ∧ he n m = cte n (mpk m).fr (mpk m).to by unfold hx hp he; rw [HMK.out]; exact ⟨rfl, rfl, rfl⟩)
    obtain ⟨er, her⟩ : ∃ er, cte n (mpk m).fr (mpk m).to = er := ⟨_, rfl⟩
    obtain ⟨xr, hxr⟩ : ∃ xr, ct n (mpk m).fr (mpk m).to false = xr := ⟨_, rfl⟩
    have HC := Lib.hid (by have := cut_v Hn.out (mpk m).fr (mpk m).to false; rw [hxr, her, show (mpk m).fr = (a16 : Int) by rw [HMP.out], show (mpk m).to = (b16 : Int) by rw [HMP.out]] at this; exact this)
    rw [hxr, her] at HXX
    clear her hxr
    go_upto_region 17 with fail
    go_wp2_with fail
    refine HC.out.mono ?_
    rintro e w3 ⟨Ax, cx, Bx, kx, lqx, lax, rfl, ⟨hqx, hax⟩, hnx, hbx⟩
    have hbv := hbx
    clear z0 z1 f0 f1 y0 y1 y2 g0 g1 g2 xn0 xn1 xm0 xm4
    have HR := Lib.hid (HR.out.below hbv)
    have HP := Lib.hid (HP.out.below hbv)
    have HBW := Lib.hid (HBW.out.trans (hbv.mono HBW.out.size))
    obtain ⟨z0, z1, f0, f1⟩ := cells2 HR.out
    have HF := Lib.hid (fin2 (r := w.heap.size + 1 + 1) (by omega) HR.out HBW.out hnx hqx hax)
    have HFP := Lib.hid (box_other (b := w.heap.size + 1 + 1) (i := 1) (v := .slice Bx lax kx) (box_other (b := w.heap.size + 1 + 1) (i := 0) (v := .slice Ax lqx cx) HP.out (by omega)) (by omega))
    have HLX := Lib.hid (And.intro hqx hax)
    clear hbv hbx hnx hqx hax
    go_upto_region 18 with fail
    clear z0 z1 f0 f1
    generalize World.setCell (World.setCell w3 _ _) _ _ = G at *
    have HFR := Lib.hid HF.out.1
    have HFN := Lib.hid HF.out.2.1
    have HFB := Lib.hid HF.out.2.2
    have HFS := Lib.hid (And.intro (show pk0.da.length = 0 from rfl) (show Sl G none pk0.da 0 from sl_none G))
    clear HF HR HP HBW Hn HM

    obtain ⟨z0, z1, f0, f1⟩ := cells2 HFR.out
    obtain ⟨y0, y1, y2, g0, g1, g2⟩ := cells3 HFP.out
    have HDW := Lib.hid (show (fun w' => w'.cell? ⟨w.heap.size + 1 + 1, 0, none⟩ = some (.slice Ax lqx cx) ∧ w'.cell? ⟨w.heap.size + 1 + 1, 1, none⟩ = some (.slice Bx lax kx) ∧ w'.cell? ⟨w.heap.size + 1 + 1 + 1, 0, none⟩ = some (.int .i64 0) ∧ w'.cell? ⟨w.heap.size + 1 + 1 + 1, 1, none⟩ = some (.int .i64 0) ∧ w'.cell? ⟨w.heap.size + 1 + 1 + 1, 2, none⟩ = some (.slice none 0 0)) G.drew from ⟨z0, z1, y0, y1, y2⟩)
    have HGR := Lib.hid (show Box G.drew (w.heap.size + 1 + 1) #[.slice Ax lqx cx, .slice Bx lax kx] 25 from HFR.out.drew)
    have HGP := Lib.hid (show Box G.drew (w.heap.size + 1 + 1 + 1) #[.int .i64 0, .int .i64 0, .slice none 0 0] 28 from HFP.out.drew)
    refine wp_region_later 5 (fun w' => w'.cell? ⟨w.heap.size + 1 + 1, 0, none⟩ = some (.slice Ax lqx cx) ∧ w'.cell? ⟨w.heap.size + 1 + 1, 1, none⟩ = some (.slice Bx lax kx) ∧ w'.cell? ⟨w.heap.size + 1 + 1 + 1, 0, none⟩ = some (.int .i64 0) ∧ w'.cell? ⟨w.heap.size + 1 + 1 + 1, 1, none⟩ = some (.int .i64 0) ∧ w'.cell? ⟨w.heap.size + 1 + 1 + 1, 2, none⟩ = some (.slice none 0 0)) (by kernel_rfl) ?_
    refine takeL (d := some 88) (i := 0) (v := ?v0t5) rfl rfl (by kernel_rfl) (by kernel_rfl) (by kernel_rfl) (fun _ _ _ h => h) rfl (by kernel_rfl) (Or.inl ⟨by rfl, ?y0t5⟩) HDW.out ?r0t5
    case y0t5 =>
      intro w hSw
      try dsimp only at hSw
      go_simp
      all_goals with_reducible rfl
    try simp only [Act.put, List.setIfInBounds_toArray, List.set_cons_zero, List.set_cons_succ]
    refine takeL (d := some 89) (i := 1) (v := ?v1t5) rfl rfl (by kernel_rfl) (by kernel_rfl) (by kernel_rfl) (fun _ _ _ h => h) rfl (by kernel_rfl) (Or.inl ⟨by rfl, ?y1t5⟩) HDW.out ?r1t5
    case y1t5 =>
      intro w hSw
      try dsimp only at hSw
      go_simp
      all_goals with_reducible rfl
    try simp only [Act.put, List.setIfInBounds_toArray, List.set_cons_zero, List.set_cons_succ]
    refine takeL (d := some 90) (i := 2) (v := ?v2t5) rfl rfl (by kernel_rfl) (by kernel_rfl) (by kernel_rfl) (fun _ _ _ h => h) rfl (by kernel_rfl) (Or.inl ⟨by rfl, ?y2t5⟩) HDW.out ?r2t5
    case y2t5 =>
      intro w hSw
      try dsimp only at hSw
      go_simp
      all_goals with_reducible rfl
    try simp only [Act.put, List.setIfInBounds_toArray, List.set_cons_zero, List.set_cons_succ]
    clear z0 z1 f0 f1 y0 y1 y2 g0 g1 g2
    obtain ⟨z0, z1, f0, f1⟩ := cells2 HFR.out
    obtain ⟨y0, y1, y2, g0, g1, g2⟩ := cells3 HFP.out
    refine oneL (i := 3) (by kernel_rfl) rfl (fun K' hK => ?_)
    go_simp
    rw [same2 HFR.out]
    refine hK.out _ _ (fun _ => HDW.out) ?_
    clear hK
    refine oneL (i := 4) (by kernel_rfl) rfl (fun K' hK => ?_)
    go_simp
    rw [same3 HFP.out]
    refine hK.out _ _ (fun _ => HDW.out) ?_
    clear hK
    refine oneL (i := 5) (by kernel_rfl) rfl (fun K' hK => ?_)
    go_simp
    refine hK.out _ _ (fun e => by simp at e) ?_
    clear hK
    refine doneL (by kernel_rfl) ?_ _
    go_wp2_with fail
    refine bodyPost_ret (hap_ret Try.results27 rfl HGR.out rfl HGP.out) rfl ⟨Ax, cx, Bx, kx, lqx, lax, none, 0, 0, ?_, ?_, ?_, ⟨?_, ?_⟩, HFB.out.drew⟩
    · rw [HXX.out.2.1, HXX.out.2.2]; rfl
    · rw [HXX.out.1]; exact HLX.out
    · rw [HXX.out.1]; exact HFN.out.up (Below.refl _ G).drew
    · rw [HXX.out.2.1]; exact HFS.out.1
    · rw [HXX.out.2.1]; exact HFS.out.2.up (Below.refl _ G).drew
end Go.Proofs.Ytojijebmipgeeaa
