/- DiskSyncSpec. -/
import Derived.Test.YtiphajgmjmjanaaSane
import Derived.Test.YtiphajgmjmjanaaFew
import Derived.Test.YtiphajgmjmjanaaSame
import Derived.Test.YtiphajgmjmjanaaRSy
import Derived.Test.YtiphajgmjmjanaaRSt
import Derived.Test.YtiphajgmjmjanaaRow
namespace Go.Proofs.Ytiphajgmjmjanaa
open Go.RowKit
set_option linter.unusedVariables false
set_option linter.unusedSimpArgs false

set_option maxHeartbeats 40000000 in
set_option maxRecDepth 100000 in
theorem lawSync_any (d : Dk) (A B : Option Addr) (ca k0 : Nat) (left : Int) (w : World) (hS : DkIn w d A ca B k0) :
    Calls Try.prog 5 #[dkv d A ca B k0, .int .i64 left] w fun e w' => e = .returned (.bool true) ∧ Below w.heap.size w w' := by
  obtain ⟨hx1, hi1, hb1⟩ := dk_put hS
  have HSN := Lib.hid (fun W => sane_any W)
  have HFW := Lib.hid (fun W (hb : Below w.heap.size w W) => few_any d A B ca k0 W (hS.up hb))
  have HW1 := Lib.hid (fun W (hb : Below w.heap.size w W) => sync_any d A B ca k0 W (hS.up hb))
  have HW2 := Lib.hid (fun W (hb : Below w.heap.size w W) => rsync_any d A B ca k0 W (hS.up hb))
  have HR1 := Lib.hid (fun W (hb : Below w.heap.size w W) => stop_any d A B ca k0 left W (hS.up hb))
  have HR2 := Lib.hid (fun W (hb : Below w.heap.size w W) => rstop_any d A B ca k0 left W (hS.up hb))
  obtain ⟨m1, m2⟩ := dkin_len hS
  have H1 := Lib.hid (And.intro hx1 hb1)
  unfold DkPost at *
  unfold FewPost at *
  unfold dkv dkc at *
  clear hS hx1 hi1 hb1
  obtain ⟨N, hN⟩ : ∃ N, d.secs.length = N := ⟨_, rfl⟩
  obtain ⟨M, hM⟩ : ∃ M, d.pend.length = M := ⟨_, rfl⟩
  obtain ⟨X, hX⟩ : ∃ X, sy d = X := ⟨_, rfl⟩
  obtain ⟨E, hE⟩ : ∃ E, sye d = E := ⟨_, rfl⟩
  obtain ⟨Y, hY⟩ : ∃ Y, st d left = Y := ⟨_, rfl⟩
  obtain ⟨G, hG⟩ : ∃ G, ste d left = G := ⟨_, rfl⟩
  rw [hX, hE] at HW1 HW2
  rw [hY, hG] at HR1 HR2
  rw [hN] at HFW HW1 HW2 HR1 HR2 m1 H1
  rw [hM] at HFW HW1 HW2 HR1 HR2 m2 H1
  rw [hN, hM]
  have HN := Lib.hid (And.intro hN hM)
  clear hN hM hX hE hY hG
  go_enter Try.func5, Try.ntmps5
  go_wp2_with fail
  generalize w.alloc _ = u1 at *
  refine (HSN.out u1).mono ?_
  rintro e w1 ⟨rfl, hb1⟩
  have K1 := Lib.hid (And.intro (DBox.up H1.out.1 hb1) (bthen H1.out.2 hb1))
  clear hb1 H1
  obtain ⟨q0, q1, q2, q3⟩ := K1.out.1.cells
  rw [HN.out.1] at q0
  rw [HN.out.2] at q1
  go_wp2_with fail
  refine (HFW.out w1 K1.out.2).mono ?_
  rintro e w2 ⟨r, rfl, hb2⟩
  have K2 := Lib.hid (And.intro (DBox.up K1.out.1 hb2) (bthen K1.out.2 hb2))
  clear hb2 q0 q1 q2 q3 K1
  cases r
  · go_wp2_with fail
    go_ret
    exact ⟨rfl, K2.out.2⟩
  · obtain ⟨q0, q1, q2, q3⟩ := K2.out.1.cells
    rw [HN.out.1] at q0
    rw [HN.out.2] at q1
    go_wp2_with fail
    refine (HW1.out w2 K2.out.2).mono ?_
    rintro e w3 ⟨A3, c3, B3, k3, rfl, i3, hb3⟩
    obtain ⟨x3, i3, hb3c⟩ := dk_put i3
    have hb3d := bthen hb3 hb3c
    have K3 := Lib.hid (And.intro (DBox.up K2.out.1 hb3d) (And.intro x3 (And.intro i3 (bthen K2.out.2 hb3d))))
    clear hb3 x3 i3 hb3c hb3d q0 q1 q2 q3 K2 HW1
    go_upto_region 6 with fail
    generalize w3.alloc _ = u3 at *
    obtain ⟨q0, q1, q2, q3⟩ := K3.out.1.cells
    rw [HN.out.1] at q0
    rw [HN.out.2] at q1
    go_wp2_with fail
    refine (HW2.out u3 K3.out.2.2.2).mono ?_
    rintro e w4 ⟨A4, c4, B4, k4, rfl, i4, hb4⟩
    obtain ⟨x4, i4, hb4c⟩ := dk_put i4
    have hb4d := bthen hb4 hb4c
    have K4 := Lib.hid (And.intro (DBox.up K3.out.1 hb4d) (And.intro (DBox.up K3.out.2.1 hb4d) (And.intro (K3.out.2.2.1.up hb4d) (And.intro x4 (And.intro i4 (bthen K3.out.2.2.2 hb4d))))))
    clear hb4 x4 i4 hb4c hb4d q0 q1 q2 q3 K3 HW2
    go_upto_region 7 with fail
    generalize w4.alloc _ = u4 at *
    obtain ⟨q0, q1, q2, q3⟩ := K4.out.1.cells
    rw [HN.out.1] at q0
    rw [HN.out.2] at q1
    go_wp2_with fail
    refine (HR1.out u4 K4.out.2.2.2.2.2).mono ?_
    rintro e w5 ⟨A5, c5, B5, k5, rfl, i5, hb5⟩
    obtain ⟨x5, i5, hb5c⟩ := dk_put i5
    have hb5d := bthen hb5 hb5c
    have K5 := Lib.hid (And.intro (DBox.up K4.out.1 hb5d) (And.intro (DBox.up K4.out.2.1 hb5d) (And.intro (K4.out.2.2.1.up hb5d) (And.intro (DBox.up K4.out.2.2.2.1 hb5d) (And.intro (K4.out.2.2.2.2.1.up hb5d) (And.intro x5 (And.intro i5 (bthen K4.out.2.2.2.2.2 hb5d))))))))
    clear hb5 x5 i5 hb5c hb5d q0 q1 q2 q3 K4 HR1
    go_upto_region 8 with fail
    generalize w5.alloc _ = u5 at *
    obtain ⟨q0, q1, q2, q3⟩ := K5.out.1.cells
    rw [HN.out.1] at q0
    rw [HN.out.2] at q1
    go_wp2_with fail
    refine (HR2.out u5 K5.out.2.2.2.2.2.2.2).mono ?_
    rintro e w6 ⟨A6, c6, B6, k6, rfl, i6, hb6⟩
    obtain ⟨x6, i6, hb6c⟩ := dk_put i6
    have hb6d := bthen hb6 hb6c
    have K6 := Lib.hid (And.intro (DBox.up K5.out.2.1 hb6d) (And.intro (K5.out.2.2.1.up hb6d) (And.intro (DBox.up K5.out.2.2.2.1 hb6d) (And.intro (K5.out.2.2.2.2.1.up hb6d) (And.intro (DBox.up K5.out.2.2.2.2.2.1 hb6d) (And.intro (K5.out.2.2.2.2.2.2.1.up hb6d) (And.intro x6 (And.intro i6 (bthen K5.out.2.2.2.2.2.2.2 hb6d)))))))))
    clear hb6 x6 i6 hb6c hb6d q0 q1 q2 q3 K5 HR2
    go_upto_region 9 with fail
    generalize w6.alloc _ = u6 at *
    have HSA := Lib.hid (same_any X A3 B3 c3 k3 A4 B4 c4 k4 u6 K6.out.2.1 K6.out.2.2.2.1)
    unfold dkv dkc at HSA
    obtain ⟨q0, q1, q2, q3⟩ := K6.out.1.cells
    obtain ⟨r0, r1, r2, r3⟩ := K6.out.2.2.1.cells
    go_wp2_with fail
    refine HSA.out.mono ?_
    rintro e w7 ⟨rfl, hb7⟩
    have K7 := Lib.hid (And.intro (DBox.up K6.out.2.2.2.2.1 hb7) (And.intro (DBox.up K6.out.2.2.2.2.2.2.1 hb7) (bthen K6.out.2.2.2.2.2.2.2.2 hb7)))
    have HSB := Lib.hid (same_any Y A5 B5 c5 k5 A6 B6 c6 k6 w7 (K6.out.2.2.2.2.2.1.up hb7) (K6.out.2.2.2.2.2.2.2.1.up hb7))
    unfold dkv dkc at HSB
    clear hb7 q0 q1 q2 q3 r0 r1 r2 r3 K6 HSA
    obtain ⟨q0, q1, q2, q3⟩ := K7.out.1.cells
    obtain ⟨r0, r1, r2, r3⟩ := K7.out.2.1.cells
    go_wp2_with fail
    refine HSB.out.mono ?_
    rintro e w8 ⟨rfl, hb8⟩
    have K8 := Lib.hid (bthen K7.out.2.2 hb8)
    clear hb8 q0 q1 q2 q3 r0 r1 r2 r3 K7 HSB
    go_wp2_with fail
    go_ret
    exact ⟨rfl, K8.out⟩
end Go.Proofs.Ytiphajgmjmjanaa
