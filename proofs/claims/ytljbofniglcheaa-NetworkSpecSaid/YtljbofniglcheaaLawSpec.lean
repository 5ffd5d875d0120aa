/- NetworkSpec. -/
import Derived.Test.YtljbofniglcheaaPlN
import Derived.Test.YtljbofniglcheaaRSe
import Derived.Test.YtljbofniglcheaaSane
import Derived.Deep.RegionHeld3
namespace Go.Proofs.Ytljbofniglcheaa
open Go.RowKit Go.Sort
set_option linter.unusedVariables false

theorem bool2p (b : Bool) : b = true ∨ b = false := by cases b <;> simp
section
variable {w W : World} {b bp : Nat} {n : Nt} {A : Option Addr} {c : Nat} {B : Option Addr} {k lq la : Nat} {p : Pk} {D : Option Addr} {d m : Nat}
theorem rsend_v (h : NV W b n A c B k lq la) (hp : PV W bp p D d m) : Calls Try.prog 12 #[.agg #[.slice A lq c, .slice B la k], .agg #[.int .i64 p.fr, .int .i64 p.to, .slice D m d]] W (NtP (sn n p) (sne n p) W) := by
  have := rsend_any n A B D c k d p W h.inn hp.sl
  rw [h.val, hp.val] at this
  exact this.mono fun e w' h => h.ex
theorem rcheck_v (h : NV W b n A c B k lq la) : Calls Try.prog 14 #[.agg #[.slice A lq c, .slice B la k]] W (IntPost (chk n) W) := h.val ▸ rcheck_any n A B c k W h.inn
/-- Fresh links. -/
def NtN (w : World) (e : Ending) (w' : World) : Prop := ∃ A c B k, e = .returned (.agg #[.slice A 0 c, .slice B 0 k]) ∧ NtIn w' nt0 A c B k ∧ Below w.heap.size w w'
theorem new_n (w : World) : Calls Try.prog 16 #[] w (NtN w) := (new_any w).mono fun e w' h => by
  obtain ⟨A, c, B, k, h1, h2, h3⟩ := h
  exact ⟨A, c, B, k, h1, h2, h3⟩
theorem rnew_n (w : World) : Calls Try.prog 17 #[] w (NtN w) := (rnew_any w).mono fun e w' h => by
  obtain ⟨A, c, B, k, h1, h2, h3⟩ := h
  exact ⟨A, c, B, k, h1, h2, h3⟩
theorem same_n {A2 B2 : Option Addr} {c2 k2 : Nat} (h1 : NtIn W nt0 A c B k) (h2 : NtIn W nt0 A2 c2 B2 k2) : Calls Try.prog 15 #[.agg #[.slice A 0 c, .slice B 0 k], .agg #[.slice A2 0 c2, .slice B2 0 k2]] W (BoolPost true W) := by
  have := same_any nt0 nt0 A B A2 B2 c k c2 k2 W h1 h2
  rw [smn_refl] at this
  exact this
end
set_option maxHeartbeats 4000000 in
set_option maxRecDepth 100000 in
theorem lawSpec_any (n : Nt) (A B D : Option Addr) (c k d : Nat) (p : Pk) (w : World) (hS : NtIn w n A c B k) (hD : Sl w D p.da d) :
    Calls Try.prog 3 #[ntv n A c B k, pkv p D d] w (BoolPost true w) := by
  obtain ⟨lqn, hlq⟩ : ∃ lq, n.q.length = lq := ⟨_, rfl⟩
  obtain ⟨lan, hla⟩ : ∃ la, n.ap.length = la := ⟨_, rfl⟩
  obtain ⟨mp, hmp⟩ : ∃ m, p.da.length = m := ⟨_, rfl⟩
  have Hn := Lib.hid ((NV.new hS hlq hla).up (alloc_lt _ (.cells #[.int .i64 p.fr, .int .i64 p.to, .slice D mp d] 28)))
  have hPP := PV.new (hD.up (alloc_lt w (.cells #[.slice A lqn c, .slice B lan k] 25))) hmp
  rw [World.size_alloc] at hPP
  have Hp := Lib.hid hPP
  have hval : ntv n A c B k = .agg #[.slice A lqn c, .slice B lan k] := by unfold ntv ntc; rw [hlq, hla]
  have hvalp : pkv p D d = .agg #[.int .i64 p.fr, .int .i64 p.to, .slice D mp d] := by unfold pkv pkc; rw [hmp]
  rw [hval, hvalp]
  have HBZ := Lib.hid ((alloc_lt w (.cells #[.slice A lqn c, .slice B lan k] 25)).trans ((alloc_lt (w.alloc (.cells #[.slice A lqn c, .slice B lan k] 25)) (.cells #[.int .i64 p.fr, .int .i64 p.to, .slice D mp d] 28)).mono (alloc_lt w (.cells #[.slice A lqn c, .slice B lan k] 25)).size))
  have HSN := Lib.hid sane_any
  unfold BoolPost at HSN ⊢
  clear hval hvalp hS hD hPP hlq hla hmp
  obtain ⟨a, ha⟩ : ∃ a, p.fr = a := ⟨_, rfl⟩
  obtain ⟨b, hb⟩ : ∃ b, p.to = b := ⟨_, rfl⟩
  clear ha hb a b
  go_enter Try.func3, Try.ntmps3
  go_wp2_with fail
  generalize (w.alloc (.cells #[.slice A lqn c, .slice B lan k] 25)).alloc (.cells #[.int .i64 p.fr, .int .i64 p.to, .slice D mp d] 28) = W0 at *
  refine (HSN.out _).mono ?_
  rintro e ws ⟨rfl, hbs⟩
  have Hn := Lib.hid (Hn.out.up hbs)
  have Hp := Lib.hid (Hp.out.up hbs)
  have HBZ := Lib.hid (HBZ.out.trans (hbs.mono HBZ.out.size))
  clear hbs
  have HFW := Lib.hid (few_v Hn.out)
  rcases bool2p (few n) with hf | hf
  case inr =>
    rw [hf] at HFW
    clear hf
    obtain ⟨xn0, xn1⟩ := Hn.out.cells
    go_wp2_with fail
    refine HFW.out.mono ?_
    rintro e w1 ⟨rfl, hb1⟩
    have HB1 := Lib.hid (HBZ.out.trans (hb1.mono HBZ.out.size))
    clear xn0 xn1 hb1
    go_wp2_with fail
    go_ret
    exact ⟨rfl, HB1.out⟩
  rw [hf] at HFW
  clear hf
  obtain ⟨xn0, xn1⟩ := Hn.out.cells
  go_wp2_with fail
  refine (HFW.out).mono ?_
  rintro e wf ⟨rfl, hbf⟩
  clear xn0 xn1
  have Hn := Lib.hid (Hn.out.up hbf)
  have Hp := Lib.hid (Hp.out.up hbf)
  have HBZ := Lib.hid (HBZ.out.trans (hbf.mono HBZ.out.size))
  clear hbf
  obtain ⟨er, her⟩ : ∃ er, sne n p = er := ⟨_, rfl⟩
  have HSD := Lib.hid (by have := send_v Hn.out Hp.out; rw [her] at this; exact this)
  obtain ⟨xn0, xn1⟩ := Hn.out.cells
  obtain ⟨xp0, xp1, xp2⟩ := Hp.out.cells
  go_wp2_with fail
  refine (HSD.out).mono ?_
  rintro e w1 ⟨Ax, cx, Bx, kx, lqx, lax, rfl, ⟨hqx, hax⟩, hnx, hbx⟩
  have hzx := hbx.trans ((alloc_lt w1 (.cells #[.slice Ax lqx cx, .slice Bx lax kx] 25)).mono hbx.size)
  clear xn0 xn1 xp0 xp1 xp2
  have Hn := Lib.hid (Hn.out.up hzx)
  have Hp := Lib.hid (Hp.out.up hzx)
  have HBZ := Lib.hid (HBZ.out.trans (hzx.mono HBZ.out.size))
  have Hx := Lib.hid (NV.new hnx hqx hax)
  have HLx := Lib.hid (And.intro hqx hax)
  clear hzx hbx hnx hqx hax
  go_upto_region 6 with fail
  generalize w1.alloc _ = W1 at *
  have HRS := Lib.hid (by have := rsend_v Hn.out Hp.out; rw [her] at this; exact this)
  clear her
  obtain ⟨xn0, xn1⟩ := Hn.out.cells
  obtain ⟨xp0, xp1, xp2⟩ := Hp.out.cells
  go_wp2_with fail
  refine (HRS.out).mono ?_
  rintro e w2 ⟨Ay, cy, By, ky, lqy, lay, rfl, ⟨hqy, hay⟩, hny, hby⟩
  have hzy := hby.trans ((alloc_lt w2 (.cells #[.slice Ay lqy cy, .slice By lay ky] 25)).mono hby.size)
  clear xn0 xn1 xp0 xp1 xp2
  have Hn := Lib.hid (Hn.out.up hzy)
  have Hp := Lib.hid (Hp.out.up hzy)
  have Hx := Lib.hid (Hx.out.up hzy)
  have HBZ := Lib.hid (HBZ.out.trans (hzy.mono HBZ.out.size))
  have Hy := Lib.hid (NV.new hny hqy hay)
  have HLy := Lib.hid (And.intro hqy hay)
  clear hzy hby hny hqy hay
  go_upto_region 7 with fail
  generalize w2.alloc _ = W2 at *
  have HCK := Lib.hid (fun V (hb : Below W2.heap.size W2 V) => check_v (Hn.out.up hb))
  have HRC := Lib.hid (fun V (hb : Below W2.heap.size W2 V) => rcheck_v (Hn.out.up hb))
  have HSM := Lib.hid (fun V (hb : Below W2.heap.size W2 V) => by have := same_v (Hx.out.up hb) (Hy.out.up hb); rw [smn_refl] at this; exact this)
  unfold BoolPost IntPost at *
  obtain ⟨ck, hck⟩ : ∃ ck, chk n = ck := ⟨_, rfl⟩
  rw [hck] at HCK HRC
  clear hck
  obtain ⟨xn0, xn1⟩ := Hn.out.cells
  obtain ⟨xx0, xx1⟩ := Hx.out.cells
  obtain ⟨xy0, xy1⟩ := Hy.out.cells
  have HK := Lib.hid (fun V (hb : Below W2.heap.size W2 V) => show V.cell? ⟨w.heap.size, 0, none⟩ = some (.slice A lqn c) ∧ V.cell? ⟨w.heap.size, 1, none⟩ = some (.slice B lan k) ∧ V.cell? ⟨w1.heap.size, 0, none⟩ = some (.slice Ax lqx cx) ∧ V.cell? ⟨w1.heap.size, 1, none⟩ = some (.slice Bx lax kx) ∧ V.cell? ⟨w2.heap.size, 0, none⟩ = some (.slice Ay lqy cy) ∧ V.cell? ⟨w2.heap.size, 1, none⟩ = some (.slice By lay ky) from
    ⟨(hb.cell (p := ⟨w.heap.size, 0, none⟩) (World.block_lt_of_cell? _ _ xn0)).trans xn0, (hb.cell (p := ⟨w.heap.size, 1, none⟩) (World.block_lt_of_cell? _ _ xn1)).trans xn1, (hb.cell (p := ⟨w1.heap.size, 0, none⟩) (World.block_lt_of_cell? _ _ xx0)).trans xx0, (hb.cell (p := ⟨w1.heap.size, 1, none⟩) (World.block_lt_of_cell? _ _ xx1)).trans xx1, (hb.cell (p := ⟨w2.heap.size, 0, none⟩) (World.block_lt_of_cell? _ _ xy0)).trans xy0, (hb.cell (p := ⟨w2.heap.size, 1, none⟩) (World.block_lt_of_cell? _ _ xy1)).trans xy1⟩)
  have HB := Lib.hid (show Below W2.heap.size W2 W2.drew from (Below.refl _ _).drew)
  clear xn0 xn1 xx0 xx1 xy0 xy1
  go_region_held3 (fun w' => w'.cell? ⟨w.heap.size, 0, none⟩ = some (.slice A lqn c) ∧ w'.cell? ⟨w.heap.size, 1, none⟩ = some (.slice B lan k) ∧ w'.cell? ⟨w1.heap.size, 0, none⟩ = some (.slice Ax lqx cx) ∧ w'.cell? ⟨w1.heap.size, 1, none⟩ = some (.slice Bx lax kx) ∧ w'.cell? ⟨w2.heap.size, 0, none⟩ = some (.slice Ay lqy cy) ∧ w'.cell? ⟨w2.heap.size, 1, none⟩ = some (.slice By lay ky))
    (with_reducible first | exact HK.out _ HB.out | fail)
    (first
      | (go_at_call 13; ((with_reducible refine (HCK.out _ HB.out).mono ?_); rintro e wv ⟨rfl, hbv⟩; replace HB := Lib.hid (HB.out.trans (hbv.mono HB.out.size)); clear hbv))
      | (go_at_call 14; ((with_reducible refine (HRC.out _ HB.out).mono ?_); rintro e wv ⟨rfl, hbv⟩; replace HB := Lib.hid (HB.out.trans (hbv.mono HB.out.size)); clear hbv))
      | (go_at_call 16; ((with_reducible refine (new_n _).mono ?_); rintro e wv ⟨A1, c1, B1, k1, rfl, hn1, hbv⟩; (try (replace H2 := Lib.hid (H2.out.up hbv))); have H1 := Lib.hid hn1; clear hn1; replace HB := Lib.hid (HB.out.trans (hbv.mono HB.out.size)); clear hbv))
      | (go_at_call 17; ((with_reducible refine (rnew_n _).mono ?_); rintro e wv ⟨A2, c2, B2, k2, rfl, hn2, hbv⟩; (try (replace H1 := Lib.hid (H1.out.up hbv))); have H2 := Lib.hid hn2; clear hn2; replace HB := Lib.hid (HB.out.trans (hbv.mono HB.out.size)); clear hbv))
      | (go_at_call 15; ((with_reducible refine (HSM.out _ HB.out).mono ?_); rintro e wv ⟨rfl, hbv⟩; replace HB := Lib.hid (HB.out.trans (hbv.mono HB.out.size)); clear hbv))
      | (go_at_call 15; ((with_reducible refine (same_n H1.out H2.out).mono ?_); rintro e wv ⟨rfl, hbv⟩; replace HB := Lib.hid (HB.out.trans (hbv.mono HB.out.size)); clear hbv))
      | fail)
  all_goals
    have HBF := Lib.hid (HBZ.out.trans (HB.out.mono HBZ.out.size))
    clear HB HK
    go_wp2_with fail
    go_ret
    exact ⟨rfl, HBF.out⟩
end Go.Proofs.Ytljbofniglcheaa
