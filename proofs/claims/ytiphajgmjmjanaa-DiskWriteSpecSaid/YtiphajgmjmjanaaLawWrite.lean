/- DiskWriteSpec. -/
import Derived.Test.YtiphajgmjmjanaaSane
import Derived.Test.YtiphajgmjmjanaaFew
import Derived.Test.YtiphajgmjmjanaaSame
import Derived.Test.YtiphajgmjmjanaaRWr
import Derived.Test.YtiphajgmjmjanaaRRd
import Derived.Test.YtiphajgmjmjanaaRow
namespace Go.Proofs.Ytiphajgmjmjanaa
open Go.RowKit
set_option linter.unusedVariables false
set_option linter.unusedSimpArgs false

set_option maxHeartbeats 40000000 in
set_option maxRecDepth 100000 in
theorem lawWrite_any (d : Dk) (A B D : Option Addr) (ca k0 kd : Nat) (i : Int) (b : List UInt8) (w : World) (hS : DkIn w d A ca B k0) (hD : Sl w D b kd) :
    Calls Try.prog 4 #[dkv d A ca B k0, .int .i64 i, .slice D b.length kd] w fun e w' => e = .returned (.bool true) ∧ Below w.heap.size w w' := by
  obtain ⟨hx1, hi1, hb1⟩ := dk_put hS
  have HSN := Lib.hid (fun W => sane_any W)
  have HFW := Lib.hid (fun W (hb : Below w.heap.size w W) => few_any d A B ca k0 W (hS.up hb))
  have HW1 := Lib.hid (fun W (hb : Below w.heap.size w W) => write_any d A B D ca k0 kd i b W (hS.up hb) (hD.up hb))
  have HW2 := Lib.hid (fun W (hb : Below w.heap.size w W) => rwrite_any d A B D ca k0 kd i b W (hS.up hb) (hD.up hb))
  have HR1 := Lib.hid (fun W (hb : Below w.heap.size w W) => read_any d A B ca k0 i W (hS.up hb))
  have HR2 := Lib.hid (fun W (hb : Below w.heap.size w W) => rread_any d A B ca k0 i W (hS.up hb))
  have hbm := Nat.le_trans hD.2.1 hD.2.2.1
  unfold maxLen at hbm
  obtain ⟨m1, m2⟩ := dkin_len hS
  have H1 := Lib.hid (And.intro hx1 hb1)
  unfold DkPost at *
  unfold RdPost at *
  unfold FewPost at *
  unfold dkv dkc at *
  clear hS hD hx1 hi1 hb1
  obtain ⟨mb, hmb⟩ : ∃ mb, b.length = mb := ⟨_, rfl⟩
  obtain ⟨N, hN⟩ : ∃ N, d.secs.length = N := ⟨_, rfl⟩
  obtain ⟨M, hM⟩ : ∃ M, d.pend.length = M := ⟨_, rfl⟩
  obtain ⟨X, hX⟩ : ∃ X, wr d i b = X := ⟨_, rfl⟩
  obtain ⟨E, hE⟩ : ∃ E, wre d i b = E := ⟨_, rfl⟩
  obtain ⟨R, hR⟩ : ∃ R, rd d i = R := ⟨_, rfl⟩
  obtain ⟨G, hG⟩ : ∃ G, rde d i = G := ⟨_, rfl⟩
  rw [hX, hE] at HW1 HW2
  rw [hR, hG] at HR1 HR2
  rw [hmb] at HW1 HW2 hbm
  rw [hN] at HFW HW1 HW2 HR1 HR2 m1 H1
  rw [hM] at HFW HW1 HW2 HR1 HR2 m2 H1
  rw [hmb, hN, hM]
  obtain ⟨rn, hrn⟩ : ∃ rn, R.length = rn := ⟨_, rfl⟩
  rw [hrn] at HR1 HR2
  have HN := Lib.hid (And.intro hN (And.intro hM (And.intro hmb hrn)))
  clear hmb hN hM hX hE hR hG hrn
  go_enter Try.func4, Try.ntmps4
  go_wp2_with fail
  generalize w.alloc _ = u1 at *
  refine (HSN.out u1).mono ?_
  rintro e w1 ⟨rfl, hb1⟩
  have K1 := Lib.hid (And.intro (DBox.up H1.out.1 hb1) (bthen H1.out.2 hb1))
  clear hb1 H1
  obtain ⟨q0, q1, q2, q3⟩ := K1.out.1.cells
  rw [HN.out.1] at q0
  rw [HN.out.2.1] at q1
  go_wp2_with fail
  refine (HFW.out w1 K1.out.2).mono ?_
  rintro e w2 ⟨r, rfl, hb2⟩
  have K2 := Lib.hid (And.intro (DBox.up K1.out.1 hb2) (bthen K1.out.2 hb2))
  clear hb2 q0 q1 q2 q3 K1
  cases r
  · go_wp2_with fail
    go_ret
    exact ⟨rfl, K2.out.2⟩
  · by_cases hbig : 1000 < mb
    · have hd1 : decide ((1000 : Int) < (mb : Int)) = true := decide_eq_true (by omega)
      have hd2 : (1000 : Int) < (mb : Int) := by omega
      go_wp2_with fail
      go_ret
      exact ⟨rfl, K2.out.2⟩
    · have hd1 : decide ((1000 : Int) < (mb : Int)) = false := decide_eq_false (by omega)
      have hd2 : ¬ (1000 : Int) < (mb : Int) := by omega
      obtain ⟨q0, q1, q2, q3⟩ := K2.out.1.cells
      rw [HN.out.1] at q0
      rw [HN.out.2.1] at q1
      go_wp2_with fail
      refine (HW1.out w2 K2.out.2).mono ?_
      rintro e w3 ⟨A3, c3, B3, k3, rfl, i3, hb3⟩
      obtain ⟨x3, i3, hb3c⟩ := dk_put i3
      have hb3d := bthen hb3 hb3c
      have K3 := Lib.hid (And.intro (DBox.up K2.out.1 hb3d) (And.intro x3 (And.intro i3 (bthen K2.out.2 hb3d))))
      clear hb3 x3 i3 hb3c hb3d q0 q1 q2 q3 K2 HW1
      go_upto_region 6 with fail
      generalize w3.alloc _ = u3 at *
      obtain ⟨q0, q1, q2, q3⟩ := K3.out.1.cells
      rw [HN.out.1] at q0
      rw [HN.out.2.1] at q1
      go_wp2_with fail
      refine (HW2.out u3 K3.out.2.2.2).mono ?_
      rintro e w4 ⟨A4, c4, B4, k4, rfl, i4, hb4⟩
      obtain ⟨x4, i4, hb4c⟩ := dk_put i4
      have hb4d := bthen hb4 hb4c
      have K4 := Lib.hid (And.intro (DBox.up K3.out.1 hb4d) (And.intro (DBox.up K3.out.2.1 hb4d) (And.intro (K3.out.2.2.1.up hb4d) (And.intro x4 (And.intro i4 (bthen K3.out.2.2.2 hb4d))))))
      clear hb4 x4 i4 hb4c hb4d q0 q1 q2 q3 K3 HW2
      go_upto_region 7 with fail
      generalize w4.alloc _ = u4 at *
      obtain ⟨q0, q1, q2, q3⟩ := K4.out.1.cells
      rw [HN.out.1] at q0
      rw [HN.out.2.1] at q1
      go_wp2_with fail
      refine (HR1.out u4 K4.out.2.2.2.2.2).mono ?_
      rintro e w5 ⟨A5, c5, rfl, hs5, hb5⟩
      have K5 := Lib.hid (And.intro (DBox.up K4.out.1 hb5) (And.intro (DBox.up K4.out.2.1 hb5) (And.intro (K4.out.2.2.1.up hb5) (And.intro (DBox.up K4.out.2.2.2.1 hb5) (And.intro (K4.out.2.2.2.2.1.up hb5) (And.intro (bthen K4.out.2.2.2.2.2 hb5) hs5))))))
      clear hb5 hs5 q0 q1 q2 q3 K4 HR1
      obtain ⟨q0, q1, q2, q3⟩ := K5.out.1.cells
      rw [HN.out.1] at q0
      rw [HN.out.2.1] at q1
      go_wp2_with fail
      refine (HR2.out w5 K5.out.2.2.2.2.2.1).mono ?_
      rintro e w6 ⟨A6, c6, rfl, hs6, hb6⟩
      have K6 := Lib.hid (And.intro (DBox.up K5.out.2.1 hb6) (And.intro (K5.out.2.2.1.up hb6) (And.intro (DBox.up K5.out.2.2.2.1 hb6) (And.intro (K5.out.2.2.2.2.1.up hb6) (And.intro (bthen K5.out.2.2.2.2.2.1 hb6) (And.intro (K5.out.2.2.2.2.2.2.up hb6) hs6))))))
      clear hb6 hs6 q0 q1 q2 q3 K5 HR2
      have HSA := Lib.hid (same_any X A3 B3 c3 k3 A4 B4 c4 k4 w6 K6.out.2.1 K6.out.2.2.2.1)
      unfold dkv dkc at HSA
      obtain ⟨q0, q1, q2, q3⟩ := K6.out.1.cells
      obtain ⟨r0, r1, r2, r3⟩ := K6.out.2.2.1.cells
      go_wp2_with fail
      refine HSA.out.mono ?_
      rintro e w7 ⟨rfl, hb7⟩
      have s1 := sl_str (K6.out.2.2.2.2.2.1.up hb7) HN.out.2.2.2
      have s2 := sl_str (K6.out.2.2.2.2.2.2.up hb7) HN.out.2.2.2
      generalize ByteArray.mk R.toArray = str at s1 s2
      have K7 := Lib.hid (bthen K6.out.2.2.2.2.1 hb7)
      clear hb7 q0 q1 q2 q3 r0 r1 r2 r3 K6 HSA
      go_wp2_with fail
      go_ret
      exact ⟨rfl, K7.out⟩
end Go.Proofs.Ytiphajgmjmjanaa
