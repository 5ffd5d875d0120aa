/- NetworkMoveSpec. -/
import Derived.Test.YtljbofniglcheaaPlN
import Derived.Test.YtljbofniglcheaaRRp
import Derived.Test.YtljbofniglcheaaRDl
import Derived.Test.YtljbofniglcheaaRCt
import Derived.Test.YtljbofniglcheaaSane
import Derived.IntWalk
import Derived.Deep.Cut
import Derived.Deep.CutRange
namespace Go.Proofs.Ytljbofniglcheaa
open Go.RowKit Go.Sort
set_option linter.unusedVariables false

theorem bool2m (b : Bool) : b = true ∨ b = false := by cases b <;> simp
def iv (z : Int) : Value := .int .i64 z
theorem i64_info : (Try.prog.info? 3).map (fun i => (i.zero, i.size, i.bytes)) = some (some (.int .i64 0), 1, 8) := by kernel_rfl
theorem wpList_append_int {base : Nat} {w : World} {ops : Array Oper} {rest : List Oper} {o : Oper} {a : Act} {Q : Exit → Act → World → Prop} (hgd : o.guard = none) (s x : Operand)
    (ho : o.op = .call { callee := .builtin .append, args := #[s, x], argTypes := #[39, 39] })
    (v : Value) (n : Nat) (l : List Int) (hs : a.eval s = v) (hown : w.ownsRow base 3 1 v n (l.map iv)) (q : Nat) (y : Int) (hx : a.eval x = .slice (some ⟨q, 0, none⟩) 1 1) (hq : Box w q #[.int .i64 y] 3) (hn : n ≤ 900000) (hbase : base ≤ w.heap.size)
    (h : ∀ g c' w', w'.ownsRow base 3 1 (.slice (some ⟨g, 0, none⟩) (n + 1) c') (n + 1) ((l ++ [y]).map iv) → w.grownBy w' v.ownBlock → wpList Try.prog ops Q rest (a.put o.dst (.slice (some ⟨g, 0, none⟩) (n + 1) c')) w') : wpList Try.prog ops Q (o :: rest) a w := by
  obtain ⟨i0, hi0, hz0, hz1, hz2⟩ := info_parts i64_info
  refine wpList_plain hgd fun K hK => ?_
  refine wp_append_own w s x 39 ho base 3 i0 (.int .i64 0) 1 8 Try.underlying39 hi0 hz0 hz1 hz2 rfl (by decide) v n (l.map iv) hs hown ⟨q, 0, none⟩ 1 1 [.int .i64 y] hx rfl (World.news_of_block hq) (by intro v hv; simp at hv; rw [hv]; rfl) (le_maxLen (by omega)) (by omega) hbase ?_
  intro v' w' ho' hg' _
  obtain ⟨g, c', rfl⟩ := ownsRow_succ ho'
  refine hK _ _ (h g c' w' ?_ hg')
  rw [List.map_append]
  exact ho'
section
variable {w W : World} {b bp : Nat} {n : Nt} {A : Option Addr} {c : Nat} {B : Option Addr} {k lq la : Nat} {p : Pk} {D : Option Addr} {d m : Nat}
theorem rcut_v (h : NV W b n A c B k lq la) (x y : Int) (on : Bool) : Calls Try.prog 19 #[.agg #[.slice A lq c, .slice B la k], .int .i64 x, .int .i64 y, .bool on] W (NtP (ct n x y on) (cte n x y) W) := by
  have := rcut_any n A B c k x y on W h.inn
  rw [h.val] at this
  exact this.mono fun e w' h => h.ex
theorem rdeliver_v (h : NV W b n A c B k lq la) (i : Int) : Calls Try.prog 21 #[.agg #[.slice A lq c, .slice B la k], .int .i64 i] W (DlP (dlp n i) (los n i) (hle n i) W) := by
  have := rdeliver_any n A B c k i W h.inn
  rw [h.val] at this
  exact this.mono fun e w' h => h.ex
theorem rlose_v (h : NV W b n A c B k lq la) (i : Int) : Calls Try.prog 24 #[.agg #[.slice A lq c, .slice B la k], .int .i64 i] W (NtP (los n i) (hle n i) W) := by
  have := rlose_any n A B c k i W h.inn
  rw [h.val] at this
  exact this.mono fun e w' h => h.ex
theorem rrepeat_v (h : NV W b n A c B k lq la) (i : Int) : Calls Try.prog 26 #[.agg #[.slice A lq c, .slice B la k], .int .i64 i] W (NtP (rp n i) (rpe n i) W) := by
  have := rrepeat_any n A B c k i W h.inn
  rw [h.val] at this
  exact this.mono fun e w' h => h.ex
/-- A variable of links is stored anew. -/
theorem NV.put {n2 : Nt} {A2 B2 : Option Addr} {c2 k2 lq2 la2 : Nat} (hx : NV W b n A c B k lq la) (h : NtIn W n2 A2 c2 B2 k2) (hq : n2.q.length = lq2) (ha : n2.ap.length = la2) : NV ((W.setCell ⟨b, 0, none⟩ (.slice A2 lq2 c2)).setCell ⟨b, 1, none⟩ (.slice B2 la2 k2)) b n2 A2 c2 B2 k2 lq2 la2 :=
  ⟨box2 _ _ hx.box, (h.off hx.box (onlyS2 _ _ _ _ _ _) 0 _).off (hx.box.set (i := 0) (v := .slice A2 lq2 c2)) (OnlyS.set (onlyS2 _ _ _ _ _ _) 0 _ _ _) 1 _, hq, ha⟩
theorem NV.keep {b2 : Nat} {n2 : Nt} {A2 B2 A3 B3 : Option Addr} {c2 k2 lq2 la2 c3 k3 lq3 la3 : Nat} (h : NV W b2 n2 A2 c2 B2 k2 lq2 la2) (hx : NV W b n A c B k lq la) (hne : b2 ≠ b) : NV ((W.setCell ⟨b, 0, none⟩ (.slice A3 lq3 c3)).setCell ⟨b, 1, none⟩ (.slice B3 la3 k3)) b2 n2 A2 c2 B2 k2 lq2 la2 :=
  ⟨box_other (box_other h.box hne) hne, (h.inn.off hx.box (onlyS2 _ _ _ _ _ _) 0 _).off (hx.box.set (i := 0) (v := .slice A3 lq3 c3)) (OnlyS.set (onlyS2 _ _ _ _ _ _) 0 _ _ _) 1 _, h.hq, h.ha⟩
end

set_option maxHeartbeats 16000000 in
set_option maxRecDepth 100000 in
theorem lawMove_any (n : Nt) (A B : Option Addr) (c k : Nat) (i0 a b : Int) (on : Bool) (w : World) (hS : NtIn w n A c B k) :
    Calls Try.prog 4 #[ntv n A c B k, .int .i64 i0, .int .i64 a, .int .i64 b, .bool on] w (BoolPost true w) := by
  obtain ⟨lqn, hlq⟩ : ∃ lq, n.q.length = lq := ⟨_, rfl⟩
  obtain ⟨lan, hla⟩ : ∃ la, n.ap.length = la := ⟨_, rfl⟩
  have hnl := nt_len hS
  have Hn := Lib.hid (NV.new hS hlq hla)
  have hval : ntv n A c B k = .agg #[.slice A lqn c, .slice B lan k] := by unfold ntv ntc; rw [hlq, hla]
  rw [hval]
  have HBZ := Lib.hid (alloc_lt w (.cells #[.slice A lqn c, .slice B lan k] 25))
  rw [hlq] at hnl
  have HLQ := Lib.hid (And.intro hlq hla)
  have HSN := Lib.hid sane_any
  unfold BoolPost at HSN ⊢
  clear hval hS hlq hla
  have hnl1 := hnl.1
  clear hnl
  go_enter Try.func4, Try.ntmps4
  go_wp2_with fail
  generalize w.alloc (.cells #[.slice A lqn c, .slice B lan k] 25) = W0 at *
  refine (HSN.out _).mono ?_
  rintro e ws ⟨rfl, hbs⟩
  have Hn := Lib.hid (Hn.out.up hbs)
  have HBZ := Lib.hid (HBZ.out.trans (hbs.mono HBZ.out.size))
  clear hbs
  have HFW := Lib.hid (few_v Hn.out)
  rcases bool2m (few n) with hf | hf
  case inr =>
    rw [hf] at HFW
    clear hf
    obtain ⟨xn0, xn1⟩ := Hn.out.cells
    go_wp2_with fail
    refine HFW.out.mono ?_
    rintro e w1 ⟨rfl, hb1⟩
    have HB1 := Lib.hid (HBZ.out.trans (hb1.mono HBZ.out.size))
    clear xn0 xn1 hb1
    go_wp2_with fail
    go_ret
    exact ⟨rfl, HB1.out⟩
  rw [hf] at HFW
  clear hf
  obtain ⟨xn0, xn1⟩ := Hn.out.cells
  go_wp2_with fail
  refine (HFW.out).mono ?_
  rintro e wf ⟨rfl, hbf⟩
  clear xn0 xn1
  have Hn := Lib.hid (Hn.out.up hbf)
  have HBZ := Lib.hid (HBZ.out.trans (hbf.mono HBZ.out.size))
  clear hbf
  obtain ⟨er, her⟩ : ∃ er, cte n a b = er := ⟨_, rfl⟩
  have HSD := Lib.hid (by have := cut_v Hn.out a b on; rw [her] at this; exact this)
  obtain ⟨xn0, xn1⟩ := Hn.out.cells
  go_wp2_with fail
  refine (HSD.out).mono ?_
  rintro e w1 ⟨Ax, cx, Bx, kx, lqx, lax, rfl, ⟨hqx, hax⟩, hnx, hbx⟩
  have hzx := hbx.trans ((alloc_lt w1 (.cells #[.slice Ax lqx cx, .slice Bx lax kx] 25)).mono hbx.size)
  clear xn0 xn1
  have Hn := Lib.hid (Hn.out.up hzx)
  have HBZ := Lib.hid (HBZ.out.trans (hzx.mono HBZ.out.size))
  have Hx := Lib.hid (NV.new hnx hqx hax)
  have HLx := Lib.hid (And.intro hqx hax)
  clear hzx hbx hnx hqx hax
  go_upto_region 6 with fail
  generalize w1.alloc _ = W1 at *
  have HRS := Lib.hid (by have := rcut_v Hn.out a b on; rw [her] at this; exact this)
  clear her
  obtain ⟨xn0, xn1⟩ := Hn.out.cells
  go_wp2_with fail
  refine (HRS.out).mono ?_
  rintro e w2 ⟨Ay, cy, By, ky, lqy, lay, rfl, ⟨hqy, hay⟩, hny, hby⟩
  have hzy := hby.trans ((alloc_lt w2 (.cells #[.slice Ay lqy cy, .slice By lay ky] 25)).mono hby.size)
  clear xn0 xn1
  have Hn := Lib.hid (Hn.out.up hzy)
  have Hx := Lib.hid (Hx.out.up hzy)
  have HBZ := Lib.hid (HBZ.out.trans (hzy.mono HBZ.out.size))
  have Hy := Lib.hid (NV.new hny hqy hay)
  have HLy := Lib.hid (And.intro hqy hay)
  clear hzy hby hny hqy hay
  go_upto_region 7 with fail
  generalize w2.alloc _ = W2 at *
  have HS1 := Lib.hid (by have := same_v Hx.out Hy.out; rw [smn_refl] at this; exact this)
  obtain ⟨xx0, xx1⟩ := Hx.out.cells
  obtain ⟨xy0, xy1⟩ := Hy.out.cells
  go_wp2_with fail
  refine (HS1.out).mono ?_
  rintro e ws1 ⟨rfl, hbs1⟩
  clear xx0 xx1 xy0 xy1
  have Hn := Lib.hid (Hn.out.up hbs1)
  have Hx := Lib.hid (Hx.out.up hbs1)
  have Hy := Lib.hid (Hy.out.up hbs1)
  have HBZ := Lib.hid (HBZ.out.trans (hbs1.mono HBZ.out.size))
  clear hbs1
  clear Hx Hy HLx HLy HFW HSD HRS HS1 HSN
  go_upto_region 9 with fail
  obtain ⟨WB, hWB⟩ : ∃ WB, ws1.heap.size = WB := ⟨_, rfl⟩
  have HWB := Lib.hid hWB
  have HIN := Lib.hid (show (ws1.alloc (.cells #[.int .i64 i0] 3)).ownsRow ws1.heap.size 3 1 (.slice (some ⟨ws1.heap.size, 0, none⟩) 1 1) 1 ([i0].map iv) from World.ownsRow_lit ws1 #[.int .i64 i0] 1 (Nat.le_refl _) (by unfold maxLen; omega) rfl)
  clear hWB
  go_wp2_with fail
  go_loopw [15, 16] (fun v i wr => ∃ j : Nat, j ≤ 3 ∧ i = .int .i64 (j : Int) ∧ (∃ (g c : Nat) (zs : List Int), v = .slice (some ⟨g, 0, none⟩) (j + 1) c ∧ wr.ownsRow ws1.heap.size 3 1 (.slice (some ⟨g, 0, none⟩) (j + 1) c) (j + 1) (zs.map iv) ∧ zs.length = j + 1) ∧ Below ws1.heap.size ws1 wr) (fun _ i _ => 3 - (intOf i).toNat)
  case atStart => exact ⟨0, by omega, rfl, ⟨_, _, [i0], rfl, HIN.out, rfl⟩, alloc_lt _ _⟩
  case round =>
    obtain ⟨j, hj, rfl, ⟨g1, c1, zs, rfl, hr1, hz1⟩, hb⟩ := hrel
    have HR1 := Lib.hid hr1
    have HZ1 := Lib.hid hz1
    have HB1 := Lib.hid hb
    have HnO := Hn
    have Hn := Lib.hid (HnO.out.up hb)
    obtain ⟨xn0, xn1⟩ := Hn.out.cells
    clear hr1 hz1 hb
    by_cases hgo : j < lqn ∧ j < 3
    · have hlt1 := hgo.1
      have hlt2 := hgo.2
      have hd1 : decide ((j : Int) < (lqn : Int)) = true := decide_eq_true (by omega)
      have hd2 : decide ((j : Int) < 3) = true := decide_eq_true (by omega)
      have hj900 : j + 1 ≤ 900000 := by omega
      clear hgo
      go_upto_region 13 with fail
      have HBN := Lib.hid (Box.new wr #[.int .i64 (j : Int)] 3)
      go_wp2_with (refine wpList_append_int (base := ws1.heap.size) rfl (.tmp 68) (.tmp 70) rfl (.slice (some ⟨g1, 0, none⟩) (j + 1) c1) (j + 1) zs rfl (HR1.out.alloc _) wr.heap.size (j : Int) rfl HBN.out hj900 (by rw [World.size_alloc]; have := HB1.out.size; omega) ?_; intro g c6 w6 hr6 hg6; have HR6 := Lib.hid hr6; have HB6 := Lib.hid ((HB1.out.alloc HB1.out.size _).grown hg6 (Nat.le_trans HB1.out.size (by simp)) (fun i hi => (HR1.out.lt i hi).1)); clear hr6 hg6 xn0 xn1)
      go_roundw
      case rel => exact ⟨j + 1, by omega, by go_num, ⟨g, c6, zs ++ [(j : Int)], rfl, HR6.out, by rw [List.length_append, HZ1.out]; rfl⟩, HB6.out⟩
      case measure => simp [intOf]; omega
    · obtain ⟨m, hm⟩ : ∃ m, j + 1 = m := ⟨_, rfl⟩
      go_upto_region 11 with fail
      go_cut [65] from 57 to 65 (fun t wx => t = .bool false ∧ wr = wx)
      case first =>
        rcases (show ¬ j < lqn ∨ (j < lqn ∧ ¬ j < 3) by omega) with h1 | ⟨h1, h2⟩
        all_goals
          clear hgo
          go_wp2_with fail
          go_meet
          first
            | exact ⟨rfl, rfl⟩
            | exact ⟨by rw [decide_eq_false (by omega)], rfl⟩
      obtain ⟨rfl, rfl⟩ := hcut
      go_upto_region 14 with fail
      clear xn0 xn1
      obtain ⟨WL, rfl⟩ : ∃ WL, WL = wr := ⟨_, rfl⟩
      rw [hm] at HR1 HZ1 ⊢
      have HCZ := Lib.hid (fun V (hb : Below WL.heap.size WL V) (h : Nat) (z : Int) (hz : zs[h]? = some z) => show V.cell? ⟨g1, h, none⟩ = some (.int .i64 z) from by
        have hl : h < m := by have h3 := (List.getElem?_eq_some_iff.1 hz).1; have h4 := HZ1.out; omega
        have h1 := HR1.out.cellAt h (by omega)
        rw [List.getElem?_map, hz] at h1
        exact (hb.cell (p := ⟨g1, h, none⟩) (HR1.out.lt g1 rfl).2).trans h1)
      have HBO := Lib.hid (HBZ.out.trans (HB1.out.mono HBZ.out.size))
      have hm4 : m ≤ 4 := by omega
      have HnR := Hn
      clear HBZ HnO HB1 HR1 hm Hn
      go_wp2_with fail
      go_loopw [74] (fun i wl => ∃ h : Nat, h ≤ m ∧ i = .int .i64 (h : Int) ∧ Below WL.heap.size WL wl) (fun i _ => m - (intOf i).toNat)
      case atStart => exact ⟨0, Nat.zero_le _, rfl, Below.refl _ _⟩
      case round =>
        obtain ⟨h, hh, rfl, hb⟩ := hrel
        have HBZ := Lib.hid hb
        have Hn := Lib.hid (HnR.out.up hb)
        by_cases hlt : h < m
        case neg =>
          obtain rfl : h = m := by omega
          have HBF := Lib.hid (HBO.out.trans (hb.mono HBO.out.size))
          clear hb
          go_wp2_with fail
          go_ret
          exact ⟨rfl, HBF.out⟩
        obtain ⟨z, hz⟩ : ∃ z, zs[h]? = some z := ⟨_, List.getElem?_eq_getElem (by have := HZ1.out; omega)⟩
        have hcz := HCZ.out _ hb h z hz
        obtain ⟨P, hP⟩ : ∃ P, dlp n z = P := ⟨_, rfl⟩
        obtain ⟨LO, hLO⟩ : ∃ LO, los n z = LO := ⟨_, rfl⟩
        obtain ⟨eh, heh⟩ : ∃ eh, hle n z = eh := ⟨_, rfl⟩
        obtain ⟨RO, hRO⟩ : ∃ RO, rp n z = RO := ⟨_, rfl⟩
        obtain ⟨re, hre⟩ : ∃ re, rpe n z = re := ⟨_, rfl⟩
        have HEQ := Lib.hid (And.intro hP (And.intro hLO (And.intro heh (And.intro hRO hre))))
        have hhm : (h : Int) < (m : Int) := by omega
        have hh0 : (0 : Int) ≤ (h : Int) := by omega
        clear hb hz hP hLO heh hRO hre
        go_upto_region 17 with fail
        clear hcz
        have HD1 := Lib.hid (by have := deliver_v Hn.out z; rw [HEQ.out.1, HEQ.out.2.1, HEQ.out.2.2.1] at this; exact this)
        obtain ⟨xn0, xn1⟩ := Hn.out.cells
        go_wp2_with fail
        refine (HD1.out).mono ?_
        rintro e w3 ⟨Dp, dp, mp, Ar, cr, Br, kr, lqr, lar, rfl, ⟨hmp, hsp⟩, ⟨hqr, har⟩, hnr, hbr⟩
        have HSr := Lib.hid (show w.heap.size < w3.heap.size + 1 ∧ WL.heap.size ≤ w3.heap.size + 1 from by have h1 := Hn.out.box.lt; have h2 := hbr.size; have h3 := HBZ.out.size; omega)
        have hyr := hbr.trans ((alloc_lt w3 (.cells #[.int .i64 P.fr, .int .i64 P.to, .slice Dp mp dp] 28)).mono hbr.size)
        have hzr := hyr.trans ((alloc_lt (w3.alloc (.cells #[.int .i64 P.fr, .int .i64 P.to, .slice Dp mp dp] 28)) (.cells #[.slice Ar lqr cr, .slice Br lar kr] 25)).mono hyr.size)
        clear xn0 xn1
        have Hn := Lib.hid (Hn.out.up hzr)
        have HBZ := Lib.hid (HBZ.out.trans (hzr.mono HBZ.out.size))
        have Hp := Lib.hid (PV.up (PV.new hsp hmp) (alloc_lt _ (.cells #[.slice Ar lqr cr, .slice Br lar kr] 25)))
        have Hr := Lib.hid (NV.new (hnr.up (alloc_lt w3 (.cells #[.int .i64 P.fr, .int .i64 P.to, .slice Dp mp dp] 28))) hqr har)
        rw [World.size_alloc] at Hr
        have HLr := Lib.hid (And.intro hqr har)
        clear hyr hzr hbr hnr hqr har hmp hsp
        go_upto_region 18 with fail
        generalize (w3.alloc (.cells #[.int .i64 P.fr, .int .i64 P.to, .slice Dp mp dp] 28)).alloc (.cells #[.slice Ar lqr cr, .slice Br lar kr] 25) = W3 at *
        have HD2 := Lib.hid (by have := rdeliver_v Hn.out z; rw [HEQ.out.1, HEQ.out.2.1, HEQ.out.2.2.1] at this; exact this)
        obtain ⟨xn0, xn1⟩ := Hn.out.cells
        go_wp2_with fail
        refine (HD2.out).mono ?_
        rintro e w4 ⟨Dq, dq, mq, As, cs, Bs, ks, lqs, las, rfl, ⟨hmq, hsq⟩, ⟨hqs, has⟩, hns, hbs⟩
        have HSs := Lib.hid (show w.heap.size < w4.heap.size + 1 ∧ WL.heap.size ≤ w4.heap.size + 1 ∧ w3.heap.size + 1 < w4.heap.size + 1 from by have h1 := Hn.out.box.lt; have h2 := hbs.size; have h3 := HBZ.out.size; have h4 := Hr.out.box.lt; omega)
        have hys := hbs.trans ((alloc_lt w4 (.cells #[.int .i64 P.fr, .int .i64 P.to, .slice Dq mq dq] 28)).mono hbs.size)
        have hzs := hys.trans ((alloc_lt (w4.alloc (.cells #[.int .i64 P.fr, .int .i64 P.to, .slice Dq mq dq] 28)) (.cells #[.slice As lqs cs, .slice Bs las ks] 25)).mono hys.size)
        clear xn0 xn1
        have Hn := Lib.hid (Hn.out.up hzs)
        have Hp := Lib.hid (Hp.out.up hzs)
        have Hr := Lib.hid (Hr.out.up hzs)
        have HBZ := Lib.hid (HBZ.out.trans (hzs.mono HBZ.out.size))
        have Hq := Lib.hid (PV.up (PV.new hsq hmq) (alloc_lt _ (.cells #[.slice As lqs cs, .slice Bs las ks] 25)))
        have Hs := Lib.hid (NV.new (hns.up (alloc_lt w4 (.cells #[.int .i64 P.fr, .int .i64 P.to, .slice Dq mq dq] 28))) hqs has)
        rw [World.size_alloc] at Hs
        have HLs := Lib.hid (And.intro hqs has)
        clear hys hzs hbs hns hqs has hmq hsq
        go_upto_region 19 with fail
        generalize (w4.alloc (.cells #[.int .i64 P.fr, .int .i64 P.to, .slice Dq mq dq] 28)).alloc (.cells #[.slice As lqs cs, .slice Bs las ks] 25) = W4 at *
        have HS1 := Lib.hid (by have := samep_v Hp.out Hq.out; rw [spk_refl] at this; exact this)
        obtain ⟨xp0, xp1, xp2⟩ := Hp.out.cells
        obtain ⟨xq0, xq1, xq2⟩ := Hq.out.cells
        go_wp2_with fail
        refine (HS1.out).mono ?_
        rintro e wt1 ⟨rfl, hbt1⟩
        clear xp0 xp1 xp2 xq0 xq1 xq2
        have Hn := Lib.hid (Hn.out.up hbt1)
        have Hp := Lib.hid (Hp.out.up hbt1)
        have Hr := Lib.hid (Hr.out.up hbt1)
        have Hq := Lib.hid (Hq.out.up hbt1)
        have Hs := Lib.hid (Hs.out.up hbt1)
        have HBZ := Lib.hid (HBZ.out.trans (hbt1.mono HBZ.out.size))
        clear hbt1
        have HS2 := Lib.hid (by have := same_v Hr.out Hs.out; rw [smn_refl] at this; exact this)
        obtain ⟨xr0, xr1⟩ := Hr.out.cells
        obtain ⟨xs0, xs1⟩ := Hs.out.cells
        go_wp2_with fail
        refine (HS2.out).mono ?_
        rintro e wt2 ⟨rfl, hbt2⟩
        clear xr0 xr1 xs0 xs1
        have Hn := Lib.hid (Hn.out.up hbt2)
        have Hp := Lib.hid (Hp.out.up hbt2)
        have Hr := Lib.hid (Hr.out.up hbt2)
        have Hq := Lib.hid (Hq.out.up hbt2)
        have Hs := Lib.hid (Hs.out.up hbt2)
        have HBZ := Lib.hid (HBZ.out.trans (hbt2.mono HBZ.out.size))
        clear hbt2
        clear Hp Hq HD1 HD2 HS1 HS2 HLr HLs
        go_upto_region 21 with fail
        have HC1 := Lib.hid (by have := lose_v Hn.out z; rw [HEQ.out.2.1, HEQ.out.2.2.1] at this; exact this)
        obtain ⟨xn0, xn1⟩ := Hn.out.cells
        go_wp2_with fail
        refine (HC1.out).mono ?_
        rintro e w5 ⟨Av5, cv5, Bv5, kv5, lqv5, lav5, rfl, ⟨hqv5, hav5⟩, hnv5, hbv5⟩
        clear xn0 xn1
        have Hn := Lib.hid (Hn.out.up hbv5)
        have Hr := Lib.hid (Hr.out.up hbv5)
        have Hs := Lib.hid (Hs.out.up hbv5)
        have HBZ := Lib.hid (HBZ.out.trans (hbv5.mono HBZ.out.size))
        obtain ⟨co0, co1⟩ := Hr.out.cells
        obtain ⟨fo0, fo1⟩ := Hr.out.frozen
        have Hn := Lib.hid (NV.keep (A3 := Av5) (lq3 := lqv5) (c3 := cv5) (B3 := Bv5) (la3 := lav5) (k3 := kv5) Hn.out Hr.out (by have := HSr.out.1; omega))
        have Hs := Lib.hid (NV.keep (A3 := Av5) (lq3 := lqv5) (c3 := cv5) (B3 := Bv5) (la3 := lav5) (k3 := kv5) Hs.out Hr.out (by have := HSs.out.2.2; omega))
        have Hr := Lib.hid (NV.put Hr.out hnv5 hqv5 hav5)
        have HBZ := Lib.hid ((HBZ.out.setCell (p := ⟨w3.heap.size + 1, 0, none⟩) (HSr.out.2) (.slice Av5 lqv5 cv5)).setCell (p := ⟨w3.heap.size + 1, 1, none⟩) (HSr.out.2) (.slice Bv5 lav5 kv5))
        clear hbv5 hnv5 hqv5 hav5
        go_upto_region 22 with fail
        clear co0 co1 fo0 fo1
        generalize World.setCell (World.setCell w5 _ _) _ _ = W5 at *
        have HC2 := Lib.hid (by have := rlose_v Hn.out z; rw [HEQ.out.2.1, HEQ.out.2.2.1] at this; exact this)
        obtain ⟨xn0, xn1⟩ := Hn.out.cells
        go_wp2_with fail
        refine (HC2.out).mono ?_
        rintro e w6 ⟨Av6, cv6, Bv6, kv6, lqv6, lav6, rfl, ⟨hqv6, hav6⟩, hnv6, hbv6⟩
        clear xn0 xn1
        have Hn := Lib.hid (Hn.out.up hbv6)
        have Hr := Lib.hid (Hr.out.up hbv6)
        have Hs := Lib.hid (Hs.out.up hbv6)
        have HBZ := Lib.hid (HBZ.out.trans (hbv6.mono HBZ.out.size))
        obtain ⟨co0, co1⟩ := Hs.out.cells
        obtain ⟨fo0, fo1⟩ := Hs.out.frozen
        have Hn := Lib.hid (NV.keep (A3 := Av6) (lq3 := lqv6) (c3 := cv6) (B3 := Bv6) (la3 := lav6) (k3 := kv6) Hn.out Hs.out (by have := HSs.out.1; omega))
        have Hr := Lib.hid (NV.keep (A3 := Av6) (lq3 := lqv6) (c3 := cv6) (B3 := Bv6) (la3 := lav6) (k3 := kv6) Hr.out Hs.out (by have := HSs.out.2.2; omega))
        have Hs := Lib.hid (NV.put Hs.out hnv6 hqv6 hav6)
        have HBZ := Lib.hid ((HBZ.out.setCell (p := ⟨w4.heap.size + 1, 0, none⟩) (HSs.out.2.1) (.slice Av6 lqv6 cv6)).setCell (p := ⟨w4.heap.size + 1, 1, none⟩) (HSs.out.2.1) (.slice Bv6 lav6 kv6))
        clear hbv6 hnv6 hqv6 hav6
        go_upto_region 23 with fail
        clear co0 co1 fo0 fo1
        generalize World.setCell (World.setCell w6 _ _) _ _ = W6 at *
        have HS2 := Lib.hid (by have := same_v Hr.out Hs.out; rw [smn_refl] at this; exact this)
        obtain ⟨xr0, xr1⟩ := Hr.out.cells
        obtain ⟨xs0, xs1⟩ := Hs.out.cells
        go_wp2_with fail
        refine (HS2.out).mono ?_
        rintro e wtL ⟨rfl, hbtL⟩
        clear xr0 xr1 xs0 xs1
        have Hn := Lib.hid (Hn.out.up hbtL)
        have Hr := Lib.hid (Hr.out.up hbtL)
        have Hs := Lib.hid (Hs.out.up hbtL)
        have HBZ := Lib.hid (HBZ.out.trans (hbtL.mono HBZ.out.size))
        clear hbtL
        clear HC1 HC2 HS2
        go_upto_region 25 with fail
        have HC1 := Lib.hid (by have := repeat_v Hn.out z; rw [HEQ.out.2.2.2.1, HEQ.out.2.2.2.2] at this; exact this)
        obtain ⟨xn0, xn1⟩ := Hn.out.cells
        go_wp2_with fail
        refine (HC1.out).mono ?_
        rintro e w7 ⟨Av7, cv7, Bv7, kv7, lqv7, lav7, rfl, ⟨hqv7, hav7⟩, hnv7, hbv7⟩
        clear xn0 xn1
        have Hn := Lib.hid (Hn.out.up hbv7)
        have Hr := Lib.hid (Hr.out.up hbv7)
        have Hs := Lib.hid (Hs.out.up hbv7)
        have HBZ := Lib.hid (HBZ.out.trans (hbv7.mono HBZ.out.size))
        obtain ⟨co0, co1⟩ := Hr.out.cells
        obtain ⟨fo0, fo1⟩ := Hr.out.frozen
        have Hn := Lib.hid (NV.keep (A3 := Av7) (lq3 := lqv7) (c3 := cv7) (B3 := Bv7) (la3 := lav7) (k3 := kv7) Hn.out Hr.out (by have := HSr.out.1; omega))
        have Hs := Lib.hid (NV.keep (A3 := Av7) (lq3 := lqv7) (c3 := cv7) (B3 := Bv7) (la3 := lav7) (k3 := kv7) Hs.out Hr.out (by have := HSs.out.2.2; omega))
        have Hr := Lib.hid (NV.put Hr.out hnv7 hqv7 hav7)
        have HBZ := Lib.hid ((HBZ.out.setCell (p := ⟨w3.heap.size + 1, 0, none⟩) (HSr.out.2) (.slice Av7 lqv7 cv7)).setCell (p := ⟨w3.heap.size + 1, 1, none⟩) (HSr.out.2) (.slice Bv7 lav7 kv7))
        clear hbv7 hnv7 hqv7 hav7
        go_upto_region 26 with fail
        clear co0 co1 fo0 fo1
        generalize World.setCell (World.setCell w7 _ _) _ _ = W7 at *
        have HC2 := Lib.hid (by have := rrepeat_v Hn.out z; rw [HEQ.out.2.2.2.1, HEQ.out.2.2.2.2] at this; exact this)
        obtain ⟨xn0, xn1⟩ := Hn.out.cells
        go_wp2_with fail
        refine (HC2.out).mono ?_
        rintro e w8 ⟨Av8, cv8, Bv8, kv8, lqv8, lav8, rfl, ⟨hqv8, hav8⟩, hnv8, hbv8⟩
        clear xn0 xn1
        have Hn := Lib.hid (Hn.out.up hbv8)
        have Hr := Lib.hid (Hr.out.up hbv8)
        have Hs := Lib.hid (Hs.out.up hbv8)
        have HBZ := Lib.hid (HBZ.out.trans (hbv8.mono HBZ.out.size))
        obtain ⟨co0, co1⟩ := Hs.out.cells
        obtain ⟨fo0, fo1⟩ := Hs.out.frozen
        have Hn := Lib.hid (NV.keep (A3 := Av8) (lq3 := lqv8) (c3 := cv8) (B3 := Bv8) (la3 := lav8) (k3 := kv8) Hn.out Hs.out (by have := HSs.out.1; omega))
        have Hr := Lib.hid (NV.keep (A3 := Av8) (lq3 := lqv8) (c3 := cv8) (B3 := Bv8) (la3 := lav8) (k3 := kv8) Hr.out Hs.out (by have := HSs.out.2.2; omega))
        have Hs := Lib.hid (NV.put Hs.out hnv8 hqv8 hav8)
        have HBZ := Lib.hid ((HBZ.out.setCell (p := ⟨w4.heap.size + 1, 0, none⟩) (HSs.out.2.1) (.slice Av8 lqv8 cv8)).setCell (p := ⟨w4.heap.size + 1, 1, none⟩) (HSs.out.2.1) (.slice Bv8 lav8 kv8))
        clear hbv8 hnv8 hqv8 hav8
        go_upto_region 27 with fail
        clear co0 co1 fo0 fo1
        generalize World.setCell (World.setCell w8 _ _) _ _ = W8 at *
        have HS2 := Lib.hid (by have := same_v Hr.out Hs.out; rw [smn_refl] at this; exact this)
        obtain ⟨xr0, xr1⟩ := Hr.out.cells
        obtain ⟨xs0, xs1⟩ := Hs.out.cells
        go_wp2_with fail
        refine (HS2.out).mono ?_
        rintro e wtR ⟨rfl, hbtR⟩
        clear xr0 xr1 xs0 xs1
        have Hn := Lib.hid (Hn.out.up hbtR)
        have Hr := Lib.hid (Hr.out.up hbtR)
        have Hs := Lib.hid (Hs.out.up hbtR)
        have HBZ := Lib.hid (HBZ.out.trans (hbtR.mono HBZ.out.size))
        clear hbtR
        clear HC1 HC2 HS2
        go_wp2_with fail
        go_roundw
        case rel => exact ⟨h + 1, by omega, by go_num, HBZ.out⟩
        case measure => simp [intOf]; omega
end Go.Proofs.Ytljbofniglcheaa
