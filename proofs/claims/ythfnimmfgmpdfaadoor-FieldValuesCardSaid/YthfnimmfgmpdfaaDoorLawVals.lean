/- FieldValues. -/
import Derived.Test.YthfnimmfgmpdfaaDoorLawUniq
import Derived.Deep.QuietTactic
import Derived.BigQuiet
namespace Go.Proofs.YthfnimmfgmpdfaaDoor
open Go.RowKit
set_option linter.unusedVariables false

theorem unique_hv {xs l m : List UInt8} (hl : l.length = xs.length) (hm : m.length ≤ xs.length) (hn : xs.Nodup) (h : ∀ x ∈ xs, hv l x = hv m x) (x : UInt8) : hv l x = hv m x := by
  have hz := zeros xs (am l m 1) (by rw [am_length]; omega) hn (fun x hx => by rw [am_hv x 1 l m (by omega), one_gm, h x hx, UInt8.xor_self])
  have h1 := az_hv _ x hz
  rw [am_hv x 1 l m (by omega), one_gm] at h1
  exact x_eq.1 h1
theorem val_points {l xs : List UInt8} (hn : xs.Nodup) : isP xs (vals l xs xs.length) := ⟨(vals_length (Nat.le_refl _)).symm, hn⟩
theorem val_no {l xs : List UInt8} (hn : ¬ xs.Nodup) : ¬ isP xs (vals l xs xs.length) := fun h => hn h.2
theorem val_same {l xs : List UInt8} (hn : xs.Nodup) : ∀ x ∈ xs, hv (co xs (vals l xs xs.length)) x = hv l x := by
  intro x hx
  obtain ⟨j, hj, rfl⟩ := List.mem_iff_getElem.1 hx
  have e : xs[j] = xs.getD j 0 := by rw [List.getD_eq_getElem?_getD, List.getElem?_eq_getElem hj]; rfl
  rw [e, co_at (val_points hn) j hj, vals_at hj]
theorem val_hv {l xs : List UInt8} (hn : xs.Nodup) (hl : l.length ≤ xs.length) (x : UInt8) : hv (co xs (vals l xs xs.length)) x = hv l x :=
  unique_hv (co_len (val_points hn)) hl hn (val_same hn) x
theorem val_get {l xs : List UInt8} (hn : xs.Nodup) (hl : l.length ≤ xs.length) (i : Nat) (hi : i < xs.length) : (co xs (vals l xs xs.length)).getD i 0 = l.getD i 0 :=
  unique (co_len (val_points hn)) hl hn (val_same hn) i (by rw [co_len (val_points hn)]; exact hi)

set_option maxHeartbeats 1000000 in
set_option maxRecDepth 100000 in
theorem vals_big (A0 A1 : Option Addr) (q n c0 c1 : Nat) (at_ : UInt8) (w : World) (hK : KT w) (hq : q ≤ maxLen) (hn : n ≤ maxLen) (h : 12 < n ∨ n < q) :
    Calls Tryd.prog 7 #[.slice A0 q c0, .slice A1 n c1, bv at_] w fun e w' => e = .returned (.bool true) ∧ Below w.heap.size w w' := by
  have HS := Lib.hid (sane_any w hK)
  unfold maxLen at hn hq
  by_cases h1 : 12 < n
  · go_enter Tryd.func7, Tryd.ntmps7
    go_wp2_with fail
    refine HS.out.mono ?_
    rintro e w1 ⟨rfl, hb1⟩
    go_wp2_with fail
    go_ret
    exact ⟨rfl, hb1⟩
  have h2 : n < q := by omega
  go_enter Tryd.func7, Tryd.ntmps7
  go_wp2_with fail
  refine HS.out.mono ?_
  rintro e w1 ⟨rfl, hb1⟩
  go_wp2_with fail
  go_ret
  exact ⟨rfl, hb1⟩

set_option maxHeartbeats 1600000 in
set_option maxRecDepth 100000 in
theorem vals_small (A0 A1 : Option Addr) (l xs : List UInt8) (q n c0 c1 : Nat) (at_ : UInt8) (w : World) (hK : KT w) (hL : Sl w A0 l c0) (hX : Sl w A1 xs c1) (hq : l.length = q) (hn : xs.length = n) (h1 : n ≤ 12) (h2 : q ≤ n) :
    Calls Tryd.prog 7 #[.slice A0 q c0, .slice A1 n c1, bv at_] w fun e w' => e = .returned (.bool true) ∧ Below w.heap.size w w' := by
  have HS := Lib.hid (sane_any w hK)
  have HX := Lib.hid (And.intro hK (And.intro hL hX))
  have HN := Lib.hid (And.intro hq hn)
  clear hK hL hX hq hn
  have d1 : decide ((12 : Int) < (n : Int)) = false := decide_eq_false (by omega)
  have d2 : decide ((n : Int) < (q : Int)) = false := decide_eq_false (by omega)
  have d3 : decide (n < q) = false := decide_eq_false (by omega)
  go_enter Tryd.func7, Tryd.ntmps7
  go_wp2_with fail
  refine HS.out.mono ?_
  rintro e w1 ⟨rfl, hb1⟩
  have HE0 := Lib.hid (And.intro (own_base (own_empty (base := w1.heap.size) w1 (Nat.le_refl _)) hb1.size) (hb1.alloc hb1.size (.cells #[] 5)))
  clear hb1
  go_wp2_with fail
  go_loopw [7, 8] (fun s i wr => ∃ (k : Nat) (A : Option Addr) (c : Nat), k ≤ n ∧ i = .int .i64 k ∧ s = .slice A k c ∧ wr.ownsRow w.heap.size 5 1 (.slice A k c) k ((vals l xs k).map bv) ∧ Below w.heap.size w wr) (fun _ i _ => n - (intOf i).toNat)
  case atStart => exact ⟨0, _, 0, Nat.zero_le _, rfl, rfl, HE0.out.1, HE0.out.2⟩
  case round =>
    obtain ⟨k, A, c, hk, rfl, rfl, hown, hbw⟩ := hrel
    by_cases hlt : k < n
    · obtain ⟨b, off, rfl, hcx⟩ := sl_cell HX.out.2.2 (k := k) (by rw [HN.out.2]; exact hlt)
      have hxw := hcx wr hbw
      have hvs : vals l xs (k + 1) = vals l xs k ++ [hv l (xs.getD k 0)] := vals_succ (by rw [HN.out.2]; exact hlt)
      generalize xs.getD k 0 = x at *
      obtain ⟨v, hv0⟩ : ∃ v, hv l x = v := ⟨_, rfl⟩
      rw [hv0] at hvs
      have HEV := Lib.hid (ev_at (HX.out.1.below hbw) (HX.out.2.1.up hbw) HN.out.1 (by omega) x v hv0)
      have HVS := Lib.hid hvs
      have HOW := Lib.hid (And.intro hown hbw)
      clear hvs hown hbw hcx hv0
      go_wp2_with fail
      refine HEV.out.mono ?_
      rintro e w5 ⟨rfl, hb5⟩
      have ho5 := (own_below HOW.out.1 hb5).alloc (.cells #[.int .u8 (v.toNat : Int)] 5)
      have hbw5 := HOW.out.2.trans (hb5.mono HOW.out.2.size)
      have hbw6 := hbw5.alloc hbw5.size (.cells #[.int .u8 (v.toNat : Int)] 5)
      have hz := (Box.new w5 #[.int .u8 (v.toNat : Int)] 5).cell 0
      have H5 := Lib.hid (And.intro ho5 (And.intro hbw6 hz))
      clear hb5 ho5 hbw5 hbw6 hz HOW HEV
      go_wp2_with (refine wpList_append_one rfl (.tmp 33) (.tmp 40) rfl _ k _ rfl H5.out.1 ⟨w5.heap.size, 0, none⟩ 1 (.int .u8 (v.toNat : Int)) rfl H5.out.2.2 rfl (by omega) H5.out.2.1.size ?_; intro A5 c5 w7 ho7 hg7 hd7)
      have hg : (w5.alloc (.cells #[.int .u8 (v.toNat : Int)] 5)).grownBy w7 (Value.slice A k c).ownBlock := hg7
      have hbw7 := H5.out.2.1.grown hg H5.out.2.1.size (fun j e => (World.ownsRow.lt H5.out.1 j e).1)
      have H7 := Lib.hid (And.intro ho7 hbw7)
      clear hg7 hd7 hg ho7 hbw7 H5
      go_wp2_with fail
      go_roundw
      case rel =>
        refine ⟨k + 1, A5, c5, by omega, by go_num, rfl, ?_, H7.out.2⟩
        rw [HVS.out, List.map_append]
        exact H7.out.1
      case measure => simp [intOf]; omega
    · obtain rfl : k = n := by omega
      have hs := Sl.of_own' hown (by rw [vals_length (by rw [HN.out.2]; exact Nat.le_refl _)])
      have hvl : (vals l xs k).length = k := vals_length (by rw [HN.out.2]; exact Nat.le_refl _)
      have hX' := HX.out.2.2.up hbw
      have hL' := HX.out.2.1.up hbw
      have HF := Lib.hid (And.intro (HX.out.1.below hbw) (And.intro hL' (And.intro hX' (And.intro hs (And.intro hvl hbw)))))
      have hve : vals l xs k = vals l xs xs.length := by rw [HN.out.2]
      clear hown hbw hs hvl hX' hL' HE0
      by_cases hnd : xs.Nodup
      · have hp := val_points (l := l) hnd
        have hlen := co_len hp
        have hce := (co_ok hp).2
        have hvv := val_hv (l := l) hnd (by rw [HN.out.1, HN.out.2]; exact h2) at_
        have hget := val_get (l := l) hnd (by rw [HN.out.1, HN.out.2]; exact h2)
        rw [← hve] at hlen hce hvv hget
        rw [HN.out.2] at hlen
        obtain ⟨C, hC⟩ : ∃ C, co xs (vals l xs k) = C := ⟨_, rfl⟩
        rw [hC] at hlen hvv hget
        obtain ⟨V, hV⟩ : ∃ V, hv l at_ = V := ⟨_, rfl⟩
        have HC := Lib.hid (And.intro hC (And.intro hlen (And.intro hce (And.intro (hvv.trans hV) hV))))
        have HG := Lib.hid (fun j (hj : j < k) => hget j (by rw [HN.out.2]; exact hj))
        clear hp hlen hce hvv hget hC hV hnd hve
        go_wp2_with fail
        refine (th_at HF.out.1 HF.out.2.2.1 HF.out.2.2.2.1 HN.out.2 HF.out.2.2.2.2.1 (by omega) (by omega) at_ V 0 (by rw [HC.out.1]; exact HC.out.2.2.2.1) HC.out.2.2.1).mono ?_
        rintro e w3 ⟨rfl, hb3⟩
        have hb13 := HF.out.2.2.2.2.2.trans (hb3.mono HF.out.2.2.2.2.2.size)
        have H3 := Lib.hid (And.intro (HF.out.1.below hb3) (And.intro (HF.out.2.1.up hb3) (And.intro (HF.out.2.2.1.up hb3) (And.intro (HF.out.2.2.2.1.up hb3) hb13))))
        clear hb3 hb13
        go_wp2_with fail
        refine (co_at_call (k := k) H3.out.1 H3.out.2.2.1 H3.out.2.2.2.1 HN.out.2 HF.out.2.2.2.2.1 (by omega) (by omega) 0 HC.out.1 HC.out.2.1 HC.out.2.2.1).mono ?_
        rintro e w4 ⟨A3, c3, rfl, hl3, hb4⟩
        have hb14 := H3.out.2.2.2.2.trans (hb4.mono H3.out.2.2.2.2.size)
        have H4 := Lib.hid (And.intro (H3.out.1.below hb4) (And.intro (H3.out.2.1.up hb4) (And.intro hl3 hb14)))
        clear hb4 hb14 hl3 H3
        go_wp2_with fail
        refine (ev_at H4.out.1 H4.out.2.1 HN.out.1 (by omega) at_ V HC.out.2.2.2.2).mono ?_
        rintro e u ⟨rfl, hb5⟩
        have HU := Lib.hid (And.intro (H4.out.2.1.up hb5) (And.intro (H4.out.2.2.1.up hb5) (H4.out.2.2.2.trans (hb5.mono H4.out.2.2.2.size))))
        clear hb5 H4 HF HX
        go_wp2_with fail
        go_loopw [13] (fun i wr => ∃ j : Nat, j ≤ k ∧ i = .int .i64 j ∧ Below u.heap.size u wr) (fun i _ => k - (intOf i).toNat)
        case atStart => exact ⟨0, Nat.zero_le _, rfl, Below.refl _ _⟩
        case round =>
          obtain ⟨j, hj, rfl, hbu⟩ := hrel
          by_cases hlt2 : j < k
          · obtain ⟨b, off, rfl, hcl⟩ := sl_cell HU.out.2.1 (k := j) (by rw [HC.out.2.1]; exact hlt2)
            have hlw := hcl _ hbu
            rw [HG.out j hlt2] at hlw
            have b1 : (0 : Int) ≤ (j : Int) ∧ (j : Int) < (k : Int) := by omega
            have HBU := Lib.hid hbu
            by_cases hq : j < q
            · obtain ⟨b2, off2, rfl, hcm⟩ := sl_cell HU.out.1 (k := j) (by rw [HN.out.1]; exact hq)
              have hmw := hcm _ hbu
              have b2' : (0 : Int) ≤ (j : Int) ∧ (j : Int) < (q : Int) := by omega
              have hd1 : decide ((q : Int) ≤ (j : Int)) = false := decide_eq_false (by omega)
              have hd2 : decide (q ≤ j) = false := decide_eq_false (by omega)
              have hd3 : decide ((j : Int) < (q : Int)) = true := decide_eq_true (by omega)
              have hd4 : decide (j < q) = true := decide_eq_true (by omega)
              clear hcl hcm hbu
              generalize l.getD j 0 = v at *
              unfold bv at hlw hmw
              go_wp2_with fail
              go_quiet (fail)
              go_wp2_with fail
              go_roundw
              case rel => exact ⟨j + 1, by omega, by go_num, HBU.out.trans ((below_drewN _ _).mono HBU.out.size)⟩
              case measure => simp [intOf]; omega
            · have hz : l.getD j 0 = 0 := by
                rw [List.getD_eq_getElem?_getD, List.getElem?_eq_none (by rw [HN.out.1]; omega)]
                rfl
              rw [hz] at hlw
              have hlw2 : _ = some (Value.int .u8 0) := hlw
              have hd1 : decide ((j : Int) < (q : Int)) = false := decide_eq_false (by omega)
              have hd2 : decide ((q : Int) ≤ (j : Int)) = true := decide_eq_true (by omega)
              have hd3 : decide (q ≤ j) = true := decide_eq_true (by omega)
              have hd4 : decide (j < q) = false := decide_eq_false (by omega)
              clear hcl hbu hz hlw
              go_wp2_with fail
              go_quiet (fail)
              go_wp2_with fail
              go_roundw
              case rel => exact ⟨j + 1, by omega, by go_num, HBU.out.trans ((below_drewN _ _).mono HBU.out.size)⟩
              case measure => simp [intOf]; omega
          · obtain rfl : j = k := by omega
            have hfin := HU.out.2.2.trans (hbu.mono HU.out.2.2.size)
            go_wp2_with fail
            go_ret
            exact ⟨rfl, hfin⟩
      · have hcn := co_no (val_no (l := l) hnd)
        rw [← hve] at hcn
        have HC := Lib.hid hcn
        clear hcn hve hnd
        go_wp2_with fail
        refine (th_at HF.out.1 HF.out.2.2.1 HF.out.2.2.2.1 HN.out.2 HF.out.2.2.2.2.1 (by omega) (by omega) at_ 0 1 (by rw [HC.out.1]; rfl) HC.out.2).mono ?_
        rintro e w3 ⟨rfl, hb3⟩
        have hb13 := HF.out.2.2.2.2.2.trans (hb3.mono HF.out.2.2.2.2.2.size)
        go_wp2_with fail
        refine (co_at_call (k := 0) (HF.out.1.below hb3) (HF.out.2.2.1.up hb3) (HF.out.2.2.2.1.up hb3) HN.out.2 HF.out.2.2.2.2.1 (by omega) (by omega) 1 HC.out.1 rfl HC.out.2).mono ?_
        rintro e w4 ⟨A3, c3, rfl, hl3, hb4⟩
        have hb14 := hb13.trans (hb4.mono hb13.size)
        clear hb3 hb4 hb13 hl3
        go_wp2_with fail
        go_ret
        exact ⟨rfl, hb14⟩

theorem vals_any (A0 : Option Addr) (c0 : Nat) (l : List UInt8) (A1 : Option Addr) (c1 : Nat) (xs : List UInt8) (at_ : UInt8) (w : World) (hK : KT w) (hL : Sl w A0 l c0) (hX : Sl w A1 xs c1) :
    Calls Tryd.prog 7 #[.slice A0 l.length c0, .slice A1 xs.length c1, bv at_] w fun e w' => e = .returned (.bool true) ∧ Below w.heap.size w w' := by
  by_cases h : 12 < xs.length ∨ xs.length < l.length
  · exact vals_big A0 A1 _ _ c0 c1 at_ w hK (Nat.le_trans hL.2.1 hL.2.2.1) (Nat.le_trans hX.2.1 hX.2.2.1) h
  · exact vals_small A0 A1 l xs _ _ c0 c1 at_ w hK hL hX rfl rfl (by omega) (by omega)
end Go.Proofs.YthfnimmfgmpdfaaDoor
