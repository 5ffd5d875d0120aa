/- The reference's reader: numbers. -/
import Derived.Test.YtkihimafeonibaaRRead
namespace Go.Proofs.Ytkihimafeonibaa
open Go.RowKit
set_option linter.unusedVariables false

def RNPost (h : Nat) (A : Option Addr) (c : Nat) (L : List UInt8) (w : World) (o : Option (Nat × List UInt8)) (e : Ending) (w' : World) : Prop :=
  match o with
  | none => e = .returned (.int .u64 0) ∧ (∃ q, RR h w' A c L q true) ∧ w.grownBy w' (some h)
  | some x => e = .returned (.int .u64 x.1) ∧ (∃ q, x.2 = L.drop q ∧ RR h w' A c L q false) ∧ w.grownBy w' (some h)

set_option maxHeartbeats 1000000 in
set_option maxRecDepth 100000 in
theorem rrnum_any (h : Nat) (A : Option Addr) (c : Nat) (L : List UInt8) (p : Nat) (w : World) (hR : RR h w A c L p false) :
    Calls Try.prog 51 #[.pointer (some ⟨h, 0, none⟩)] w (RNPost h A c L w (pn 0 0 (L.drop p))) := by
  generalize hO : pn 0 0 (L.drop p) = O
  have HO := Lib.hid hO
  clear hO
  go_enter Try.func51, Try.ntmps51
  go_wp2_with fail
  go_loopw [3, 4] (fun x s wr => ∃ (i u q : Nat), x = .int .u64 u ∧ s = .int .i64 i ∧ i ≤ 9 ∧ u < 2 ^ (7 * i) ∧ O = pn i u (L.drop q) ∧ RR h wr A c L q false ∧ w.grownBy wr (some h)) (fun _ s _ => 70 - (intOf s).toNat)
  case atStart => exact ⟨0, 0, p, rfl, rfl, by omega, by simp, HO.out.symm, hR, World.grownBy.refl w _⟩
  case round =>
    clear HO hR
    obtain ⟨i, u, q, rfl, rfl, hi, hu, hO, hR, hg⟩ := hrel
    have HO := Lib.hid hO
    have HU := Lib.hid hu
    clear hO hu
    obtain ⟨_, _, c2⟩ := hR.cells
    have hlt := hR.lt
    by_cases hq : L.length ≤ q
    · have hx : O = none := by rw [HO.out, List.drop_eq_nil_of_le hq]; rfl
      have HX := Lib.hid hx
      have HC := Lib.hid (rnext_end h A c L q false wr hR hq)
      clear hx HO hR hq
      go_wp2_with fail
      refine HC.out.mono ?_
      rintro e w1 ⟨rfl, hR1, hg1⟩
      have hgg := grown_trans hg hg1
      have f2 := hR1.frozen 2
      obtain ⟨_, _, d2⟩ := hR1.cells
      have hlt1 := hR1.lt
      have HF := Lib.hid hR1.bad
      have HF1 := Lib.hid hR1
      have hg2 := grown_trans hgg (set_grown_at w1 h 2 (.bool true))
      clear HC hR1 c2
      by_cases hi0 : i = 0
      · subst hi0
        have hu0 : u = 0 := by have := HU.out; simp at this; exact this
        subst hu0
        go_wp2_with fail
        go_ret
        rw [HX.out]
        exact ⟨rfl, ⟨_, HF1.out⟩, hgg⟩
      · have i1 : (0 : Int) < (i : Int) := by omega
        by_cases h9 : i = 9
        · have t9 : ((i : Int) == 9) = true := by simp; omega
          clear h9
          go_wp2_with fail
          go_ret
          rw [HX.out]
          exact ⟨rfl, ⟨_, HF.out⟩, hg2⟩
        · have t9 : ((i : Int) == 9) = false := by simp; omega
          clear h9
          go_wp2_with fail
          go_ret
          rw [HX.out]
          exact ⟨rfl, ⟨_, HF.out⟩, hg2⟩
    · obtain ⟨d, hd⟩ : ∃ d, L[q]? = some d := ⟨_, List.getElem?_eq_getElem (by omega)⟩
      have hdr : L.drop q = d :: L.drop (q + 1) := by
        have hq' : q < L.length := by omega
        rw [List.drop_eq_getElem_cons hq']
        rw [List.getElem?_eq_getElem hq'] at hd
        injection hd with hd
        rw [hd]
      have hO := HO.out
      rw [hdr] at hO
      have HO := Lib.hid hO
      have HC := Lib.hid (rnext_good h A c L q false d wr hR hd)
      clear hO hR hd hq hdr
      have hd : (d.toNat : Int) < 256 := by have := d.toNat_lt; omega
      go_wp2_with fail
      refine HC.out.mono ?_
      rintro e w1 ⟨rfl, hR1, hg1⟩
      unfold bv
      clear HC c2
      have hgg := grown_trans hg hg1
      clear hg hg1
      have f2 := hR1.frozen 2
      obtain ⟨_, _, d2⟩ := hR1.cells
      have hlt1 := hR1.lt
      have HF := Lib.hid hR1.bad
      have HF1 := Lib.hid hR1
      have hg2 := grown_trans hgg (set_grown_at w1 h 2 (.bool true))
      clear hR1
      by_cases h9 : i = 9
      · have t9 : ((i : Int) == 9) = true := by simp; omega
        have i1 : (0 : Int) < (i : Int) := by omega
        by_cases h1 : 1 < d.toNat
        · have hx : O = none := by rw [HO.out, pn, if_pos ⟨h9, h1⟩]
          have HX := Lib.hid hx
          have h1' : (1 : Int) < (d.toNat : Int) := by omega
          clear hx HO h9 h1
          go_wp2_with fail
          go_ret
          rw [HX.out]
          exact ⟨rfl, ⟨_, HF.out⟩, hg2⟩
        · have hl := Lib.hid (shl_ok u d.toNat i (shl_64 u d.toNat i HU.out (.inr ⟨h9, by omega⟩)))
          by_cases h0 : d.toNat = 0
          · have hx : O = none := by rw [HO.out, pn, if_neg (by omega), if_neg (by omega), if_pos (by omega)]
            have HX := Lib.hid hx
            have t0 : ((d.toNat : Int) == 0) = true := by simp; omega
            have h1' : (d.toNat : Int) ≤ 1 := by omega
            clear hx HO h9 h1 h0
            go_wp2_with fail
            go_ret
            rw [HX.out]
            exact ⟨rfl, ⟨_, HF.out⟩, hg2⟩
          · have hx : O = some (u + d.toNat % 128 * 2 ^ (7 * i), L.drop (q + 1)) := by rw [HO.out, pn, if_neg (by omega), if_neg (by omega), if_neg (by omega)]
            have HX := Lib.hid hx
            have t0 : ((d.toNat : Int) == 0) = false := by simp; omega
            have h1' : (d.toNat : Int) ≤ 1 := by omega
            clear hx HO h9 h1 h0
            go_wp2_with fail
            go_ret
            rw [HX.out]
            exact ⟨ret_int hl.out, ⟨_, rfl, HF1.out⟩, hgg⟩
      · have t9 : ((i : Int) == 9) = false := by simp; omega
        have hl := Lib.hid (shl_ok u d.toNat i (shl_64 u d.toNat i HU.out (.inl (by omega))))
        by_cases h128 : 128 ≤ d.toNat
        · have hx : O = pn (i + 1) (u + d.toNat % 128 * 2 ^ (7 * i)) (L.drop (q + 1)) := by rw [HO.out, pn, if_neg (by omega), if_pos h128]
          have HX := Lib.hid hx
          have h128' : (128 : Int) ≤ (d.toNat : Int) := by omega
          have t0 : ((d.toNat : Int) == 0) = false := by simp; omega
          have hi8 : (i : Int) ≤ 8 := by omega
          clear hx HO h9 h128
          by_cases hi0 : (0 : Int) < (i : Int)
          · go_wp2_with fail
            go_roundw
            case rel => exact ⟨i + 1, _, q + 1, by rw [hl.out], by go_num, by omega, shl_lt u d.toNat i HU.out, HX.out, HF1.out, hgg⟩
            case measure => simp [intOf]; omega
          · go_wp2_with fail
            go_roundw
            case rel => exact ⟨i + 1, _, q + 1, by rw [hl.out], by go_num, by omega, shl_lt u d.toNat i HU.out, HX.out, HF1.out, hgg⟩
            case measure => simp [intOf]; omega
        · have h128' : (d.toNat : Int) < 128 := by omega
          by_cases h0 : d.toNat = 0
          · have t0 : ((d.toNat : Int) == 0) = true := by simp; omega
            by_cases hi0 : 0 < i
            · have hx : O = none := by rw [HO.out, pn, if_neg (by omega), if_neg (by omega), if_pos (by omega)]
              have HX := Lib.hid hx
              have hi0' : (0 : Int) < (i : Int) := by omega
              clear hx HO h9 h128 h0
              go_wp2_with fail
              go_ret
              rw [HX.out]
              exact ⟨rfl, ⟨_, HF.out⟩, hg2⟩
            · have hx : O = some (u + d.toNat % 128 * 2 ^ (7 * i), L.drop (q + 1)) := by rw [HO.out, pn, if_neg (by omega), if_neg (by omega), if_neg (by omega)]
              have HX := Lib.hid hx
              have hi0' : ¬ (0 : Int) < (i : Int) := by omega
              clear hx HO h9 h128 h0
              go_wp2_with fail
              go_ret
              rw [HX.out]
              exact ⟨ret_int hl.out, ⟨_, rfl, HF1.out⟩, hgg⟩
          · have t0 : ((d.toNat : Int) == 0) = false := by simp; omega
            have hx : O = some (u + d.toNat % 128 * 2 ^ (7 * i), L.drop (q + 1)) := by rw [HO.out, pn, if_neg (by omega), if_neg (by omega), if_neg (by omega)]
            have HX := Lib.hid hx
            clear hx HO h9 h128 h0
            by_cases hi0 : (0 : Int) < (i : Int)
            · go_wp2_with fail
              go_ret
              rw [HX.out]
              exact ⟨ret_int hl.out, ⟨_, rfl, HF1.out⟩, hgg⟩
            · go_wp2_with fail
              go_ret
              rw [HX.out]
              exact ⟨ret_int hl.out, ⟨_, rfl, HF1.out⟩, hgg⟩
end Go.Proofs.Ytkihimafeonibaa
