/- holds. -/
import Derived.Test.YtiphajgmjmjanaaRd
import Derived.Test.YtiphajgmjmjanaaPlT
import Derived.Test.YtiphajgmjmjanaaFew
import Derived.Deep.Cut
import Derived.Deep.RegionHeld3
namespace Go.Proofs.Ytiphajgmjmjanaa
open Go.RowKit
set_option linter.unusedVariables false

set_option maxRecDepth 10000 in
theorem dbl_at (x y : UInt8) : (dbl x y)[0]? = some x ∧ (dbl x y)[1]? = some 0 ∧ (dbl x y)[64]? = some y ∧ (dbl x y)[127]? = some 0 := ⟨rfl, rfl, rfl, rfl⟩
theorem four_at (f0 f1 f2 f3 : UInt8) {k : Nat} (hk : k < 4) : (#[bv f0, bv f1, bv f2, bv f3] : Array Value)[k]? = some (bv ([f0, f1, f2, f3].getD k 0)) := by
  match k, hk with
  | 0, _ => rfl
  | 1, _ => rfl
  | 2, _ => rfl
  | 3, _ => rfl

set_option maxHeartbeats 4000000 in
set_option maxRecDepth 100000 in
theorem holds_any (d : Dk) (A B : Option Addr) (c k0 : Nat) (f0 f1 f2 f3 s0 s1 s2 s3 : UInt8) (w : World) (hS : DkIn w d A c B k0)
    (hr : ∀ k : Nat, k < 4 → rde d k = 0 ∧ rd d k = dbl ([f0, f1, f2, f3].getD k 0) ([s0, s1, s2, s3].getD k 0)) :
    Calls Try.prog 28 #[dkv d A c B k0, .agg #[bv f0, bv f1, bv f2, bv f3], .agg #[bv s0, bv s1, bv s2, bv s3]] w fun e w' => e = .returned (.bool true) ∧ Below w.heap.size w w' := by
  have HR := Lib.hid (fun W (k : Int) (hb : Below w.heap.size w W) => read_any d A B c k0 k W (hS.up hb))
  have HK := Lib.hid hr
  unfold RdPost at HR
  have hu : Go.RowKit.Hid (DBox (((w.alloc (.cells (dkc d A c B k0) 25)).alloc (.cells #[bv f0, bv f1, bv f2, bv f3] 44)).alloc (.cells #[bv s0, bv s1, bv s2, bv s3] 44)) w.heap.size d A c B k0 ∧
      Box (((w.alloc (.cells (dkc d A c B k0) 25)).alloc (.cells #[bv f0, bv f1, bv f2, bv f3] 44)).alloc (.cells #[bv s0, bv s1, bv s2, bv s3] 44)) (w.heap.size + 1) #[bv f0, bv f1, bv f2, bv f3] 44 ∧
      Box (((w.alloc (.cells (dkc d A c B k0) 25)).alloc (.cells #[bv f0, bv f1, bv f2, bv f3] 44)).alloc (.cells #[bv s0, bv s1, bv s2, bv s3] 44)) (w.heap.size + 1 + 1) #[bv s0, bv s1, bv s2, bv s3] 44 ∧
      Below w.heap.size w (((w.alloc (.cells (dkc d A c B k0) 25)).alloc (.cells #[bv f0, bv f1, bv f2, bv f3] 44)).alloc (.cells #[bv s0, bv s1, bv s2, bv s3] 44))) := by
    have x1 : DBox (w.alloc (.cells (dkc d A c B k0) 25)) w.heap.size d A c B k0 := Box.new w _ _
    have x2 := Box.new (w.alloc (.cells (dkc d A c B k0) 25)) #[bv f0, bv f1, bv f2, bv f3] 44
    have x3 := Box.new ((w.alloc (.cells (dkc d A c B k0) 25)).alloc (.cells #[bv f0, bv f1, bv f2, bv f3] 44)) #[bv s0, bv s1, bv s2, bv s3] 44
    rw [World.size_alloc] at x2
    rw [World.size_alloc, World.size_alloc] at x3
    exact Lib.hid ⟨Box.alloc (Box.alloc x1 _) _, Box.alloc x2 _, x3, (((Below.refl _ w).alloc (Nat.le_refl _) _).alloc (by simp) _).alloc (by simp; omega) _⟩
  unfold dkv dkc at *
  clear hS hr
  go_enter Try.func28, Try.ntmps28
  go_wp2_with fail
  generalize World.alloc _ (.cells #[bv s0, bv s1, bv s2, bv s3] 44) = u at *
  go_loopw [7] (fun i wr => ∃ k : Nat, k ≤ 4 ∧ i = .int .i64 k ∧ Below u.heap.size u wr) (fun i _ => 4 - (intOf i).toNat)
  case atStart => exact ⟨0, by omega, rfl, Below.refl _ _⟩
  case round =>
    obtain ⟨k, hk, rfl, hbw⟩ := hrel
    have KR := Lib.hid (And.intro (DBox.up hu.out.1 hbw) (And.intro (hu.out.2.1.below hbw) (And.intro (hu.out.2.2.1.below hbw) (bthen hu.out.2.2.2 hbw))))
    have HBW := Lib.hid hbw
    clear hbw
    by_cases hlt : k < 4
    · have i1 : (0 : Int) ≤ (k : Int) := by omega
      have i2 : (k : Int) < (4 : Int) := by omega
      obtain ⟨h1, h2⟩ := HK.out k hlt
      have h4 := HR.out wr k KR.out.2.2.2
      rw [h1, h2, dbl_length] at h4
      have HR4 := Lib.hid h4
      have cf := four_at f0 f1 f2 f3 hlt
      have cs := four_at s0 s1 s2 s3 hlt
      generalize [f0, f1, f2, f3].getD k 0 = fk at *
      generalize [s0, s1, s2, s3].getD k 0 = sk at *
      have HCF := Lib.hid (And.intro cf cs)
      clear h1 h2 h4 cf cs
      obtain ⟨q0, q1, q2, q3⟩ := KR.out.1.cells
      go_wp2_with fail
      refine HR4.out.mono ?_
      rintro e w6 ⟨A6, c6, rfl, hs6, hb6⟩
      obtain ⟨b6, off6, rfl, _, hby⟩ := hs6.1 (by rw [dbl_length]; omega)
      obtain ⟨e0, e1, e2, e3⟩ := dbl_at fk sk
      have x0 := hby 0 _ e0
      have x1 := hby 1 _ e1
      have x2 := hby 64 _ e2
      have x3 := hby 127 _ e3
      have xf := ((KR.out.2.1.below hb6).cell k).trans HCF.out.1
      have xs := ((KR.out.2.2.1.below hb6).cell k).trans HCF.out.2
      have HB6 := Lib.hid (HBW.out.trans (hb6.mono HBW.out.size))
      rw [Nat.add_zero] at x0
      clear hb6 hs6 hby e0 e1 e2 e3 q0 q1 q2 q3 HR4 KR HBW HCF
      obtain ⟨fx, hfx⟩ : ∃ fx : Int, bv fk = .int .u8 fx := ⟨_, rfl⟩
      obtain ⟨sx, hsx⟩ : ∃ sx : Int, bv sk = .int .u8 sx := ⟨_, rfl⟩
      rw [hfx] at x0 xf
      rw [hsx] at x2 xs
      have z0 : bv 0 = .int .u8 0 := rfl
      rw [z0] at x1 x3
      have nf : (fx != fx) = false := bne_self_eq_false' fx
      have ns : (sx != sx) = false := bne_self_eq_false' sx
      clear hfx hsx z0
      have HQ := Lib.hid (show w6.drew.cell? ⟨b6, off6, none⟩ = some (.int .u8 fx) ∧ w6.drew.cell? ⟨b6, off6 + 1, none⟩ = some (.int .u8 0) ∧ w6.drew.cell? ⟨b6, off6 + 64, none⟩ = some (.int .u8 sx) ∧ w6.drew.cell? ⟨b6, off6 + 127, none⟩ = some (.int .u8 0) ∧
        w6.drew.cell? ⟨w.heap.size + 1, k, none⟩ = some (.int .u8 fx) ∧ w6.drew.cell? ⟨w.heap.size + 1 + 1, k, none⟩ = some (.int .u8 sx) from ⟨x0, x1, x2, x3, xf, xs⟩)
      clear x0 x1 x2 x3 xf xs
      go_wp2_with fail
      go_region_held3 (fun w' => w'.cell? ⟨b6, off6, none⟩ = some (.int .u8 fx) ∧ w'.cell? ⟨b6, off6 + 1, none⟩ = some (.int .u8 0) ∧ w'.cell? ⟨b6, off6 + 64, none⟩ = some (.int .u8 sx) ∧ w'.cell? ⟨b6, off6 + 127, none⟩ = some (.int .u8 0) ∧
        w'.cell? ⟨w.heap.size + 1, k, none⟩ = some (.int .u8 fx) ∧ w'.cell? ⟨w.heap.size + 1 + 1, k, none⟩ = some (.int .u8 sx))
        (first | exact HQ.out | go_keep)
        (first | fail)
      go_wp2_with fail
      go_roundw
      case rel => exact ⟨k + 1, by omega, by go_num, HB6.out.drew⟩
      case measure => simp [intOf]; omega
    · obtain rfl : k = 4 := by omega
      go_wp2_with fail
      go_ret
      exact ⟨rfl, KR.out.2.2.2⟩
end Go.Proofs.Ytiphajgmjmjanaa
