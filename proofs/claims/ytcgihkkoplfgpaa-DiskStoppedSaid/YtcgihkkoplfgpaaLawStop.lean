/- DiskStopped. -/
import Derived.Test.YtcgihkkoplfgpaaSane
import Derived.Test.YtcgihkkoplfgpaaSame
import Derived.Test.YtcgihkkoplfgpaaFew
import Derived.Deep.Cut
import Derived.Deep.RegionHeld3
namespace Go.Proofs.Ytcgihkkoplfgpaa
open Go.RowKit
set_option linter.unusedVariables false

/-- The disk that has been stopped. -/
def stp (d : Dk) : Dk := { d with stop := true }
theorem rng_stp (d : Dk) : rng (stp d) = false := by unfold rng stp; simp

set_option maxHeartbeats 4000000 in
set_option maxRecDepth 100000 in
theorem lawStopped_any (d : Dk) (A B D : Option Addr) (c k0 kd : Nat) (i left : Int) (b : List UInt8) (w : World) (hS : DkIn w d A c B k0) (hD : Sl w D b kd) :
    Calls Try.prog 9 #[dkv d A c B k0, .int .i64 i, .int .i64 left, .slice D b.length kd] w fun e w' => e = .returned (.bool true) ∧ Below w.heap.size w w' := by
  obtain ⟨hx1, hi1, hb1⟩ := dk_put hS
  have HSN := Lib.hid (fun W => sane_any W)
  have HFW := Lib.hid (fun W (hb : Below w.heap.size w W) => few_any d A B c k0 W (hS.up hb))
  have HF := Lib.hid (fun W (hb : Below w.heap.size w W) => And.intro (hS.up hb) (hD.up hb))
  have HR := Lib.hid (fun W (hb : Below w.heap.size w W) => restart_any d A B c k0 W (hS.up hb).1)
  have HR2 := Lib.hid (fun W (hb : Below w.heap.size w W) => restart_any (rs d) A none c 0 W (show RR W A (rs d).secs c from (hS.up hb).1))
  have HSM := Lib.hid (fun W (hb : Below w.heap.size w W) => same_any (rs d) A none c 0 A none c 0 W ⟨(hS.up hb).1, WW.nil W⟩ ⟨(hS.up hb).1, WW.nil W⟩)
  have HRD := Lib.hid (fun W (hb : Below w.heap.size w W) => read_any (stp d) A B c k0 i W (hS.up hb))
  have HWR := Lib.hid (fun W (hb : Below w.heap.size w W) => write_any (stp d) A B D c k0 kd i b W (hS.up hb) (hD.up hb))
  have HSY := Lib.hid (fun W (hb : Below w.heap.size w W) => sync_any (stp d) A B c k0 W (hS.up hb))
  have HST := Lib.hid (fun W (hb : Below w.heap.size w W) => stop_any (stp d) A B c k0 left W (hS.up hb))
  rw [show rde (stp d) i = 70 by unfold rde; rw [rng_stp]; rfl] at HRD
  rw [show wre (stp d) i b = 70 by unfold wre; rw [rng_stp]; rfl] at HWR
  rw [show sye (stp d) = 70 by unfold sye; rw [rng_stp]; rfl] at HSY
  rw [show ste (stp d) left = 70 by unfold ste; rw [rng_stp]; rfl] at HST
  generalize wr (stp d) i b = RW at HWR
  generalize sy (stp d) = RY at HSY
  generalize st (stp d) left = RT at HST
  generalize rd (stp d) i = RL at HRD
  have hbm := Nat.le_trans hD.2.1 hD.2.2.1
  unfold maxLen at hbm
  obtain ⟨m1, m2⟩ := dkin_len hS
  have H1 := Lib.hid (And.intro hx1 hb1)
  unfold DkPost at *
  unfold RdPost at *
  unfold FewPost at *
  unfold dkv dkc at *
  clear hS hD hx1 hi1 hb1
  simp only [stp, rs, List.length_nil] at *
  obtain ⟨mb, hmb⟩ : ∃ mb, b.length = mb := ⟨_, rfl⟩
  obtain ⟨N, hN⟩ : ∃ N, d.secs.length = N := ⟨_, rfl⟩
  obtain ⟨M, hM⟩ : ∃ M, d.pend.length = M := ⟨_, rfl⟩
  rw [hmb] at HWR hbm
  rw [hN] at HFW HR HR2 HSM HRD HWR HSY HST m1 H1
  rw [hM] at HFW HR HRD HWR HSY HST m2 H1
  rw [hmb, hN, hM]
  have HN := Lib.hid (And.intro hN (And.intro hM hmb))
  clear hmb hN hM
  go_enter Try.func9, Try.ntmps9
  go_wp2_with fail
  generalize w.alloc _ = u1 at *
  refine (HSN.out u1).mono ?_
  rintro e w1 ⟨rfl, hb1⟩
  have K1 := Lib.hid (And.intro (DBox.up H1.out.1 hb1) (bthen H1.out.2 hb1))
  clear hb1
  obtain ⟨q0, q1, q2, q3⟩ := K1.out.1.cells
  rw [HN.out.1] at q0
  rw [HN.out.2.1] at q1
  go_wp2_with fail
  refine (HFW.out w1 K1.out.2).mono ?_
  rintro e w2 ⟨r, rfl, hb2⟩
  have K2 := Lib.hid (And.intro (DBox.up K1.out.1 hb2) (bthen K1.out.2 hb2))
  clear hb2 q0 q1 q2 q3 K1
  cases r
  · go_wp2_with fail
    go_ret
    exact ⟨rfl, K2.out.2⟩
  · by_cases hbig : 1000 < mb
    · have hd1 : decide ((1000 : Int) < (mb : Int)) = true := decide_eq_true (by omega)
      have hd2 : (1000 : Int) < (mb : Int) := by omega
      go_wp2_with fail
      go_ret
      exact ⟨rfl, K2.out.2⟩
    · have hd1 : decide ((1000 : Int) < (mb : Int)) = false := decide_eq_false (by omega)
      have hd2 : ¬ (1000 : Int) < (mb : Int) := by omega
      obtain ⟨q0, q1, q2, q3⟩ := K2.out.1.cells
      rw [HN.out.1] at q0
      rw [HN.out.2.1] at q1
      go_wp2_with fail
      refine (HR.out w2 K2.out.2).mono ?_
      rintro e w3 ⟨rfl, _, hb3⟩
      have hx3 := Box.new w3 #[.slice A N c, .slice none 0 0, .int .i64 (-1), .bool false] 25
      have hb3b := bthen hb3 ((Below.refl _ w3).alloc (Nat.le_refl _) (.cells #[.slice A N c, .slice none 0 0, .int .i64 (-1), .bool false] 25))
      have K3 := Lib.hid (And.intro (DBox.up K2.out.1 hb3b) (And.intro hx3 (bthen K2.out.2 hb3b)))
      have hz3 : w.heap.size < w3.heap.size := Nat.lt_of_lt_of_le (Box.lt K2.out.1) hb3.size
      clear hx3 hb3b hb3 K2 q0 q1 q2 q3 HR
      go_wp2_with fail
      generalize w3.alloc _ = u3 at *
      refine (HR2.out u3 K3.out.2.2).mono ?_
      rintro e w4 ⟨rfl, _, hb4⟩
      have hx4 := Box.new w4 #[.slice A N c, .slice none 0 0, .int .i64 (-1), .bool false] 25
      have hb4b := bthen hb4 ((Below.refl _ w4).alloc (Nat.le_refl _) (.cells #[.slice A N c, .slice none 0 0, .int .i64 (-1), .bool false] 25))
      have K4 := Lib.hid (And.intro (DBox.up K3.out.1 hb4b) (And.intro (K3.out.2.1.below hb4b) (And.intro hx4 (bthen K3.out.2.2 hb4b))))
      have hz4 : w.heap.size < w4.heap.size := Nat.lt_of_lt_of_le (Box.lt K3.out.1) hb4.size
      have hz34 : w3.heap.size < w4.heap.size := Nat.lt_of_lt_of_le (Box.lt K3.out.2.1) hb4.size
      clear hx4 hb4b hb4 K3 HR2
      go_upto_region 7 with (fail)
      generalize w4.alloc _ = u4 at *
      obtain ⟨q0, q1, q2, q3⟩ := K4.out.1.cells
      rw [HN.out.1] at q0
      have x0 := K4.out.2.1.cell 0
      have x1 := K4.out.2.1.cell 1
      have x2 := K4.out.2.1.cell 2
      have x3 := K4.out.2.1.cell 3
      have y0 := K4.out.2.2.1.cell 0
      have y1 := K4.out.2.2.1.cell 1
      have y2 := K4.out.2.2.1.cell 2
      have y3 := K4.out.2.2.1.cell 3
      simp only [List.getElem?_toArray, List.getElem?_cons_zero, List.getElem?_cons_succ] at x0 x1 x2 x3 y0 y1 y2 y3
      go_wp2_with fail
      refine (HSM.out u4 K4.out.2.2.2).mono ?_
      rintro e w5 ⟨rfl, hb5⟩
      have K5 := Lib.hid (And.intro (DBox.up K4.out.1 hb5) (And.intro (K4.out.2.1.below hb5) (bthen K4.out.2.2.2 hb5)))
      clear q0 q1 q2 q3 x0 x1 x2 x3 y0 y1 y2 y3 hb5 K4 HSM
      obtain ⟨q0, q1, q2, q3⟩ := K5.out.1.cells
      rw [HN.out.1] at q0
      have x0 : w5.cell? ⟨w3.heap.size, 0, none⟩ = some (.slice A N c) := K5.out.2.1.cell 0
      go_wp2_with fail
      clear q0 q1 q2 q3 x0
      go_loopw [11] (fun i wr => ∃ k : Nat, k ≤ N ∧ i = .int .i64 k ∧ Below w5.heap.size w5 wr) (fun i _ => N - (intOf i).toNat)
      case atStart => exact ⟨0, Nat.zero_le _, rfl, Below.refl _ _⟩
      case round =>
        obtain ⟨k, hk, rfl, hbw⟩ := hrel
        have KR := Lib.hid (And.intro (DBox.up K5.out.1 hbw) (And.intro (K5.out.2.1.below hbw) (And.intro (bthen K5.out.2.2 hbw) hbw)))
        clear hbw
        obtain ⟨q0, q1, q2, q3⟩ := KR.out.1.cells
        rw [HN.out.1] at q0
        rw [HN.out.2.1] at q1
        have x0 : wr.cell? ⟨w3.heap.size, 0, none⟩ = some (.slice A N c) := KR.out.2.1.cell 0
        by_cases hlt : k < N
        · have hkl : k < d.secs.length := by rw [HN.out.1]; exact hlt
          obtain ⟨b2, off, rfl, hb2, hat⟩ := (HF.out wr KR.out.2.2.1).1.1.1 (by omega)
          obtain ⟨D1, d1, a0, aD⟩ := hat k _ (List.getElem?_eq_getElem hkl)
          have s1 := sl_str (show Sl wr.drew D1 _ d1 from aD) rfl
          generalize ByteArray.mk _ = str at s1
          generalize List.length (d.secs[k]'hkl) = ln at *
          have i1 : (0 : Int) ≤ (k : Int) := by omega
          have i2 : (k : Int) < (N : Int) := by omega
          have HQ := Lib.hid (show wr.drew.cell? ⟨w3.heap.size, 0, none⟩ = some (.slice (some ⟨b2, off, none⟩) N c) ∧ wr.drew.cell? ⟨w.heap.size, 0, none⟩ = some (.slice (some ⟨b2, off, none⟩) N c) ∧ wr.drew.cell? ⟨b2, off + k, none⟩ = some (.slice D1 ln d1) ∧
            (convert 35 9 (.slice D1 ln d1)).run Try.prog wr.drew = .ok (.string str) wr.drew from ⟨x0, q0, a0, s1⟩)
          clear a0 aD s1 hat q1 q2 q3
          go_wp2_with fail
          go_region_held3 (fun w' => w'.cell? ⟨w3.heap.size, 0, none⟩ = some (.slice (some ⟨b2, off, none⟩) N c) ∧ w'.cell? ⟨w.heap.size, 0, none⟩ = some (.slice (some ⟨b2, off, none⟩) N c) ∧ w'.cell? ⟨b2, off + k, none⟩ = some (.slice D1 ln d1) ∧
            (convert 35 9 (.slice D1 ln d1)).run Try.prog w' = .ok (.string str) w')
            (first | exact HQ.out | go_keep)
            (first | fail)
          go_wp2_with fail
          go_roundw
          case rel => exact ⟨k + 1, by omega, by go_num, KR.out.2.2.2.drew⟩
          case measure => simp [intOf]; omega
        · obtain rfl : k = N := by omega
          have g3 := Box.frozen KR.out.1 3
          have hxs : Box (wr.setCell ⟨w.heap.size, 3, none⟩ (.bool true)) w.heap.size #[.slice A d.secs.length c, .slice B d.pend.length k0, .int .i64 d.left, .bool true] 25 := (show Box wr w.heap.size (dkc d A c B k0) 25 from KR.out.1).set (i := 3) (v := .bool true)
          rw [HN.out.1, HN.out.2.1] at hxs
          have KS := Lib.hid (And.intro hxs (KR.out.2.2.1.setCell (p := ⟨w.heap.size, 3, none⟩) (Nat.le_refl _) (.bool true)))
          clear hxs
          go_upto_region 15 with (fail)
          generalize World.setCell _ ⟨w.heap.size, 3, none⟩ _ = ws at *
          clear q0 q1 q2 q3 x0 g3 KR K5
          have q0 : ws.cell? ⟨w.heap.size, 0, none⟩ = some (.slice A k c) := KS.out.1.cell 0
          have q1 : ws.cell? ⟨w.heap.size, 1, none⟩ = some (.slice B M k0) := KS.out.1.cell 1
          have q2 : ws.cell? ⟨w.heap.size, 2, none⟩ = some (.int .i64 d.left) := KS.out.1.cell 2
          have q3 : ws.cell? ⟨w.heap.size, 3, none⟩ = some (.bool true) := KS.out.1.cell 3
          go_wp2_with fail
          refine (HRD.out ws KS.out.2).mono ?_
          rintro e w6 ⟨A6, c6, rfl, _, hb6⟩
          have K6 := Lib.hid (And.intro (KS.out.1.below hb6) (bthen KS.out.2 hb6))
          clear q0 q1 q2 q3 hb6 KS
          have q0 : w6.cell? ⟨w.heap.size, 0, none⟩ = some (.slice A k c) := K6.out.1.cell 0
          have q1 : w6.cell? ⟨w.heap.size, 1, none⟩ = some (.slice B M k0) := K6.out.1.cell 1
          have q2 : w6.cell? ⟨w.heap.size, 2, none⟩ = some (.int .i64 d.left) := K6.out.1.cell 2
          have q3 : w6.cell? ⟨w.heap.size, 3, none⟩ = some (.bool true) := K6.out.1.cell 3
          go_wp2_with fail
          refine (HWR.out w6 K6.out.2).mono ?_
          rintro e w7 ⟨A7, c7, B7, k7, rfl, _, hb7⟩
          have K7 := Lib.hid (And.intro (K6.out.1.below hb7) (bthen K6.out.2 hb7))
          clear q0 q1 q2 q3 hb7 K6
          go_upto_region 17 with (fail)
          generalize RW.secs.length = n1 at *
          generalize RW.pend.length = n2 at *
          generalize RW.left = n3 at *
          generalize RW.stop = n4 at *
          have hbw7 := K7.out.2.alloc K7.out.2.size (.cells #[.slice A7 n1 c7, .slice B7 n2 k7, .int .i64 n3, .bool n4] 25)
          have K7b := Lib.hid (And.intro (K7.out.1.below (Below.refl _ w7 |>.alloc (Nat.le_refl _) (.cells #[.slice A7 n1 c7, .slice B7 n2 k7, .int .i64 n3, .bool n4] 25))) hbw7)
          clear hbw7 K7
          generalize w7.alloc _ = v7 at *
          have q0 : v7.cell? ⟨w.heap.size, 0, none⟩ = some (.slice A k c) := K7b.out.1.cell 0
          have q1 : v7.cell? ⟨w.heap.size, 1, none⟩ = some (.slice B M k0) := K7b.out.1.cell 1
          have q2 : v7.cell? ⟨w.heap.size, 2, none⟩ = some (.int .i64 d.left) := K7b.out.1.cell 2
          have q3 : v7.cell? ⟨w.heap.size, 3, none⟩ = some (.bool true) := K7b.out.1.cell 3
          go_wp2_with fail
          refine (HSY.out v7 K7b.out.2).mono ?_
          rintro e w8 ⟨A8, c8, B8, k8, rfl, _, hb8⟩
          have K8 := Lib.hid (And.intro (K7b.out.1.below hb8) (bthen K7b.out.2 hb8))
          clear q0 q1 q2 q3 hb8 K7b
          go_upto_region 18 with (fail)
          generalize RY.secs.length = n1 at *
          generalize RY.pend.length = n2 at *
          generalize RY.left = n3 at *
          generalize RY.stop = n4 at *
          have hbw8 := K8.out.2.alloc K8.out.2.size (.cells #[.slice A8 n1 c8, .slice B8 n2 k8, .int .i64 n3, .bool n4] 25)
          have K8b := Lib.hid (And.intro (K8.out.1.below (Below.refl _ w8 |>.alloc (Nat.le_refl _) (.cells #[.slice A8 n1 c8, .slice B8 n2 k8, .int .i64 n3, .bool n4] 25))) hbw8)
          clear hbw8 K8
          generalize w8.alloc _ = v8 at *
          have q0 : v8.cell? ⟨w.heap.size, 0, none⟩ = some (.slice A k c) := K8b.out.1.cell 0
          have q1 : v8.cell? ⟨w.heap.size, 1, none⟩ = some (.slice B M k0) := K8b.out.1.cell 1
          have q2 : v8.cell? ⟨w.heap.size, 2, none⟩ = some (.int .i64 d.left) := K8b.out.1.cell 2
          have q3 : v8.cell? ⟨w.heap.size, 3, none⟩ = some (.bool true) := K8b.out.1.cell 3
          go_wp2_with fail
          refine (HST.out v8 K8b.out.2).mono ?_
          rintro e w9 ⟨A9, c9, B9, k9, rfl, _, hb9⟩
          have K9 := Lib.hid (bthen K8b.out.2 hb9)
          clear q0 q1 q2 q3 hb9 K8b
          generalize RT.secs.length = n1 at *
          generalize RT.pend.length = n2 at *
          generalize RT.left = n3 at *
          generalize RT.stop = n4 at *
          have K9b := Lib.hid (K9.out.alloc K9.out.size (.cells #[.slice A9 n1 c9, .slice B9 n2 k9, .int .i64 n3, .bool n4] 25))
          clear K9
          go_wp2_with fail
          go_ret
          exact ⟨rfl, K9b.out⟩
end Go.Proofs.Ytcgihkkoplfgpaa
