/- Coefficients. -/
import Derived.Test.YtjkojjimlebmjaaDoorApart
import Derived.Test.YtjkojjimlebmjaaDoorQl
import Derived.Test.YtjkojjimlebmjaaDoorEval
import Derived.Test.YtjkojjimlebmjaaDoorInv
import Derived.Test.YtjkojjimlebmjaaDoorPts2
namespace Go.Proofs.YtjkojjimlebmjaaDoor
open Go.RowKit
set_option linter.unusedVariables false

/-- What holds between two rounds. -/
def CR (w : World) (xs ys : List UInt8) (k : Nat) (x4 x6 : Value) (wr : World) : Prop := ∃ A c gv cv, x4 = .slice A k c ∧ x6 = .slice (some ⟨gv, 0, none⟩) (k + 1) cv ∧ wr.ownsRow w.heap.size 5 1 (.slice A k c) k ((lk xs ys k).map bv) ∧
  Own8 w.heap.size wr gv cv (vk xs k) ∧ (Value.slice A k c).ownBlock ≠ some gv ∧ Below w.heap.size w wr
/-- The answer. -/
def co (xs ys : List UInt8) : List UInt8 := if xs.length = ys.length ∧ xs.Nodup then lk xs ys xs.length else []
def coe (xs ys : List UInt8) : Int := if xs.length = ys.length ∧ xs.Nodup then 0 else 1
def CoPost (xs ys : List UInt8) (w : World) (e : Ending) (w' : World) : Prop := ∃ A c, e = .returned (.tuple #[.slice A (co xs ys).length c, .int .i64 (coe xs ys)]) ∧ w'.ownsRow w.heap.size 5 1 (.slice A (co xs ys).length c) (co xs ys).length ((co xs ys).map bv) ∧ Below w.heap.size w w'

theorem own_base {B B' : Nat} {w : World} {v : Value} {n : Nat} {e : TypeId} {size : Nat} {xs : List Value} (h : w.ownsRow B e size v n xs) (hB : B' ≤ B) : w.ownsRow B' e size v n xs := by
  refine ⟨h.1, ?_⟩
  rcases h.2 with h1 | ⟨g, cap, cur, hv, hb, rest⟩
  · exact .inl h1
  · exact .inr ⟨g, cap, cur, hv, Nat.le_trans hB hb, rest⟩
theorem getD_cell {l : List UInt8} {k : Nat} (h : k < l.length) : l[k]? = some (l.getD k 0) := by
  rw [List.getD_eq_getElem?_getD, List.getElem?_eq_getElem h]
  rfl

set_option maxHeartbeats 2000000 in
set_option maxRecDepth 100000 in
theorem coef_any (A : Option Addr) (c : Nat) (xs : List UInt8) (A2 : Option Addr) (c2 : Nat) (ys : List UInt8) (w : World) (hK : KT w) (hS : Sl w A xs c) (hS2 : Sl w A2 ys c2) (hl : xs.length ≤ 1000) (hl2 : ys.length ≤ 1000) :
    Calls Tryd.prog 19 #[.slice A xs.length c, .slice A2 ys.length c2] w (CoPost xs ys w) := by
  have HP := Lib.hid (points_any A c xs A2 c2 ys w hS (by omega) (by omega))
  have HK := Lib.hid hK
  have HX := Lib.hid hS
  have HY := Lib.hid hS2
  clear hK hS hS2
  by_cases hp : xs.length = ys.length ∧ xs.Nodup
  · have hco : co xs ys = lk xs ys xs.length := if_pos hp
    have hce : coe xs ys = 0 := if_pos hp
    have HCO := Lib.hid (And.intro hco hce)
    clear hco hce
    rw [decide_eq_true hp] at HP
    have hnd := Lib.hid hp.2
    obtain ⟨n, hn⟩ : ∃ n, xs.length = n := ⟨_, rfl⟩
    have hyn : ys.length = n := hp.1.symm.trans hn
    have HN := Lib.hid (And.intro hn hyn)
    rw [hn] at hl HP ⊢
    rw [hyn] at HP ⊢
    clear hp hn hyn hl2
    go_enter Tryd.func19, Tryd.ntmps19
    go_wp2_with fail
    refine HP.out.mono ?_
    rintro e w0 ⟨rfl, hb0⟩
    have hb1 := hb0.alloc hb0.size (.cells #[.int .u8 1] 5)
    have hown : Own8 w.heap.size (w0.alloc (.cells #[.int .u8 1] 5)) w0.heap.size 1 (vk xs 0) := World.ownsRow_lit w0 #[.int .u8 1] 1 hb0.size (by unfold maxLen; omega) rfl
    have hcr : CR w xs ys 0 (.slice none 0 0) (.slice (some ⟨w0.heap.size, 0, none⟩) 1 1) (w0.alloc (.cells #[.int .u8 1] 5)) := ⟨none, 0, w0.heap.size, 1, rfl, rfl, World.ownsRow_nil _ _ _ _, hown, by simp [Value.ownBlock], hb1⟩
    have HCR := Lib.hid hcr
    clear hcr hown hb1 hb0 HP
    go_wp2_with fail
    go_loopw [4, 6, 18] (fun x4 x6 i wr => ∃ k : Nat, k ≤ n ∧ i = .int .i64 k ∧ CR w xs ys k x4 x6 wr) (fun _ _ i _ => n - (intOf i).toNat)
    case atStart => exact ⟨0, Nat.zero_le _, rfl, HCR.out⟩
    case round =>
      clear HCR
      obtain ⟨k, hk, rfl, A4, c4, gv, cv, rfl, rfl, ho4, ho6, hdis, hbw⟩ := hrel
      by_cases hlt : k < n
      · obtain ⟨b, off, rfl, hbl, hcl⟩ := HX.out.1 (by rw [HN.out.1]; omega)
        obtain ⟨b2, off2, rfl, hbl2, hcl2⟩ := HY.out.1 (by rw [HN.out.2]; omega)
        have hx := (hbw.cell (p := ⟨b, off + k, none⟩) hbl).trans (hcl k _ (getD_cell (by rw [HN.out.1]; exact hlt)))
        have hyw : ∀ W, Below w.heap.size w W → W.cell? ⟨b2, off2 + k, none⟩ = some (bv (ys.getD k 0)) := fun W hb => (hb.cell (p := ⟨b2, off2 + k, none⟩) hbl2).trans (hcl2 k _ (getD_cell (by rw [HN.out.2]; exact hlt)))
        have HYW := Lib.hid hyw
        have hV := vk_ne xs (xs.getD k 0) k (fun i hi => getD_ne hnd.out hi (by rw [HN.out.1]; exact hlt))
        have hl1 : lk xs ys (k + 1) = am (lk xs ys k ++ [0]) (vk xs k) (gm (ys.getD k 0 ^^^ hv (lk xs ys k ++ [0]) (xs.getD k 0)) (ginv (hv (vk xs k) (xs.getD k 0)))) := rfl
        have hv1 : vk xs (k + 1) = tf (vk xs k) (xs.getD k 0) := rfl
        have HS1 := Lib.hid (And.intro hl1 hv1)
        clear hl1 hv1 hcl hcl2 hyw
        have hll := lk_length xs ys k
        have hvl := vk_length xs k
        generalize xs.getD k 0 = x at *
        generalize ys.getD k 0 = y at *
        generalize lk xs ys k = L at *
        generalize vk xs k = V at *
        have he1 := eval_any (some ⟨gv, 0, none⟩) cv V x wr (HK.out.below hbw) ho6.sl (by omega)
        have hi1 : ∀ W, Below w.heap.size w W → Calls Tryd.prog 47 #[bv (hv V x)] W fun e w' => e = .returned (.tuple #[bv (ginv (hv V x)), .int .i64 0]) ∧ W = w' := fun W hb => by
          have := inv_any (hv V x) W (HK.out.below hb)
          rwa [if_neg hV, if_neg hV] at this
        rw [hvl] at he1
        have HE1 := Lib.hid he1
        have HI1 := Lib.hid hi1
        have HO4 := Lib.hid ho4
        have HO6 := Lib.hid ho6
        have HV := Lib.hid hV
        have HLL := Lib.hid (And.intro hll hvl)
        clear he1 hi1 ho4 ho6 hV hll hvl
        go_wp2_with fail
        refine HE1.out.mono ?_
        rintro e w1 ⟨rfl, hb1⟩
        have hbw1 := hbw.trans (hb1.mono hbw.size)
        have HI2 := Lib.hid (HI1.out w1 hbw1)
        have ho41 := own_below HO4.out hb1
        have ho61 := HO6.out.below hb1
        have hgv := HO6.out.lt
        have ho42 := ho41.alloc (.cells #[.int .u8 0] 5)
        have hbw2 := hbw1.alloc hbw1.size (.cells #[.int .u8 0] 5)
        have ho62 := ho61.below ((Below.refl _ w1).alloc (Nat.le_refl _) (.cells #[.int .u8 0] 5))
        have hz0 := (Box.new w1 #[.int .u8 0] 5).cell 0
        have h4g := World.ownsRow.lt ho41
        have HF2 := Lib.hid (And.intro ho42 (And.intro hbw2 (And.intro ho62 (And.intro hz0 (And.intro hgv (And.intro hb1.size h4g))))))
        clear hbw1 ho41 ho61 ho42 hbw2 ho62 hz0 hgv HE1 HI1 HO4 HO6 hb1 hbw h4g
        go_wp2_with fail
        refine HI2.out.mono ?_
        rintro e w1 ⟨rfl, rfl⟩
        clear HI2
        go_wp2_with (refine wpList_append_one rfl (.tmp 30) (.tmp 31) rfl _ k _ rfl HF2.out.1 ⟨w1.heap.size, 0, none⟩ 1 (.int .u8 0) rfl HF2.out.2.2.2.1 rfl (by omega) HF2.out.2.1.size ?_; intro A5 c5 w3 ho5 hg5 hd5)
        have hg : (w1.alloc (.cells #[.int .u8 0] 5)).grownBy w3 (Value.slice A4 k c4).ownBlock := hg5
        have hd : (Value.slice A5 (k + 1) c5).ownBlock = (Value.slice A4 k c4).ownBlock ∨ (Value.slice A5 (k + 1) c5).ownBlock = some (w1.alloc (.cells #[.int .u8 0] 5)).heap.size := hd5
        clear hg5 hd5
        obtain ⟨_, hbw2, ho62, _, hgv, hsz1, h4g⟩ := HF2.out
        have hbw3 := hbw2.grown hg hbw2.size (fun j e => (h4g j e).1)
        have ho63 : Own8 w.heap.size w3 gv cv V := World.ownsRow.kept ho62 hg (.inr (fun e => hdis e.symm))
        obtain ⟨g1, rfl⟩ : ∃ g, A5 = some ⟨g, 0, none⟩ := by
          rcases ho5.2 with ⟨_, h0⟩ | ⟨g, cap, cur, hv, _⟩
          · omega
          · injection hv with hv
            exact ⟨g, hv⟩
        have hne : gv ≠ g1 := by
          rintro rfl
          rcases hd with h | h
          · exact hdis h.symm
          · have h2 : some gv = some (w1.alloc (.cells #[.int .u8 0] 5)).heap.size := h
            injection h2 with h2
            rw [World.size_alloc] at h2
            omega
        have hlen5 : (L ++ [0]).length = k + 1 := by rw [List.length_append, HLL.out.1]; rfl
        have ho53 : Own8 w.heap.size w3 g1 c5 (L ++ [0]) := by
          unfold Own8
          rw [hlen5, List.map_append]
          exact ho5
        clear hg hd hdis hbw2 ho62 hsz1 h4g ho5 HF2
        have hyc : w3.cell? ⟨b2, off2 + k, none⟩ = some (.int .u8 (y.toNat : Int)) := HYW.out w3 hbw3
        have hyg : ∀ n os, (Go.Sort.grow (redrawn w3 n) os).cell? ⟨b2, off2 + k, none⟩ = some (.int .u8 (y.toNat : Int)) := fun n os => cell_regrown hyc n os
        have hev : ∀ W, Below w3.heap.size w3 W → Calls Tryd.prog 37 #[.slice (some ⟨g1, 0, none⟩) (k + 1) c5, bv x] W fun e w' => e = .returned (.int .u8 ((hv (L ++ [0]) x).toNat : Int)) ∧ Below W.heap.size W w' := fun W hb => by
          have := eval_any (some ⟨g1, 0, none⟩) c5 (L ++ [0]) x W (HK.out.below (hbw3.trans (hb.mono hbw3.size))) (ho53.below hb).sl (by rw [hlen5]; omega)
          rw [hlen5] at this
          exact this
        have hml : ∀ (a g : UInt8) W, Below w3.heap.size w3 W → Calls Tryd.prog 49 #[.int .u8 (a.toNat : Int), bv g] W fun e w' => e = .returned (bv (gm a g)) ∧ Below W.heap.size W w' := fun a g W hb =>
          (mul_any a g W (HK.out.below (hbw3.trans (hb.mono hbw3.size)))).mono fun e w' hh => ⟨hh.1, hh.2 ▸ Below.refl _ _⟩
        have hxor := xor_u8 y (hv (L ++ [0]) x)
        have HEV := Lib.hid hev
        have HML := Lib.hid (hml (y ^^^ hv (L ++ [0]) x) (ginv (hv V x)))
        have H53 := Lib.hid ho53
        have H63 := Lib.hid ho63
        have HB3 := Lib.hid hbw3
        have H5L := Lib.hid hlen5
        clear hev hml ho53 ho63 hbw3 hlen5
        generalize hE : hv (L ++ [0]) x = E at *
        generalize hG : ginv (hv V x) = G at *
        refine region_tail_below 12 (by kernel_rfl) (by kernel_rfl) ?_
        simp only [List.take_succ_cons, List.take_zero, List.drop_succ_cons, List.drop_zero]
        repeat (quiet_step (first
          | (go_at_call 37; exact Calls.regrownAll HEV.out _ _)
          | (go_at_call 49; exact Calls.regrownAll HML.out _ _)))
        refine wpQuiet_nil ?_
        intro w4 hw'
        have hb34 : Below w3.heap.size w3 w4 := by
          obtain ⟨p, rfl⟩ := hw'
          exact below_regrown w3 p.d p.os
        clear hw'
        have hbw4 := HB3.out.trans (hb34.mono HB3.out.size)
        have ho54 := H53.out.below hb34
        have ho64 := H63.out.below hb34
        have h54 := ho54.lt
        have hadd := add_any w.heap.size g1 c5 (L ++ [0]) (some ⟨gv, 0, none⟩) cv V (gm (y ^^^ E) G) w4 (HK.out.below hbw4) (by have := HK.out.1; omega) ho54 ho64.sl (fun _ b off e => by injection e with e; injection e with e; omega) (by rw [H5L.out, HLL.out.2]; exact Nat.le_refl _) (by rw [H5L.out]; omega)
        rw [H5L.out, HLL.out.2] at hadd
        have HADD := Lib.hid hadd
        have HF4 := Lib.hid (And.intro hbw4 (And.intro ho64 h54))
        clear hadd hbw4 ho54 ho64 h54 hb34 HEV HML H53 H63 HB3 hxor hyc hyg
        go_wp2_with fail
        refine HADD.out.mono ?_
        rintro e w5 ⟨rfl, ho5, hg5⟩
        have hbw5 := HF4.out.1.grown hg5 HF4.out.1.size (fun j e => by cases e; exact HF4.out.2.2.1)
        have ho65 : Own8 w.heap.size w5 gv cv V := World.ownsRow.kept HF4.out.2.1 hg5 (.inr (fun e => hne (by injection e)))
        have hfac := fac_any (some ⟨gv, 0, none⟩) cv V x w5 (HK.out.below hbw5) ho65.sl (by rw [HLL.out.2]; omega)
        rw [HLL.out.2] at hfac
        have HFAC := Lib.hid hfac
        have HO5 := Lib.hid (And.intro ho5 (And.intro hbw5 (World.ownsRow.lt ho5 g1 rfl)))
        clear hfac ho5 hg5 hbw5 ho65 HADD HF4
        go_wp2_with fail
        refine HFAC.out.mono ?_
        rintro e w6 ⟨g2, c6, rfl, ho6, hb6⟩
        have hbw6 := HO5.out.2.1.trans (hb6.mono HO5.out.2.1.size)
        have hcr : CR w xs ys (k + 1) (.slice (some ⟨g1, 0, none⟩) (k + 1) c5) (.slice (some ⟨g2, 0, none⟩) (k + 1 + 1) c6) w6 := by
          refine ⟨some ⟨g1, 0, none⟩, c5, g2, c6, rfl, rfl, ?_, ?_, ?_, hbw6⟩
          · rw [HS1.out.1]
            exact own_below HO5.out.1 hb6
          · rw [HS1.out.2]
            exact own_base ho6 HO5.out.2.1.size
          · intro e
            have e2 : some g1 = some g2 := e
            injection e2 with e2
            have := ho6.lt
            have := HO5.out.2.2
            omega
        have HCR := Lib.hid hcr
        rw [tf_length, HLL.out.2]
        clear hcr ho6 hb6 hbw6 HFAC HO5 HS1
        go_wp2_with fail
        go_roundw
        case rel => exact ⟨k + 1, by omega, by go_num, HCR.out⟩
        case measure => simp [intOf]; omega
      · obtain rfl : k = n := by omega
        go_wp2_with fail
        go_ret2
        refine ⟨A4, c4, ?_, ?_, hbw⟩
        · rw [HCO.out.1, HCO.out.2, HN.out.1, lk_length]
          rfl
        · rw [HCO.out.1, HN.out.1, lk_length]
          exact ho4
  · have hco : co xs ys = [] := if_neg hp
    have hce : coe xs ys = 1 := if_neg hp
    rw [decide_eq_false hp] at HP
    have HCO := Lib.hid (And.intro hco hce)
    clear hco hce hp
    generalize xs.length = n at *
    generalize ys.length = m at *
    go_enter Tryd.func19, Tryd.ntmps19
    go_wp2_with fail
    refine HP.out.mono ?_
    rintro e w0 ⟨rfl, hb0⟩
    go_wp2_with fail
    go_ret2
    refine ⟨none, 0, ?_, ?_, hb0⟩
    · rw [HCO.out.1, HCO.out.2]
      rfl
    · rw [HCO.out.1]
      exact World.ownsRow_nil _ _ _ _
end Go.Proofs.YtjkojjimlebmjaaDoor
