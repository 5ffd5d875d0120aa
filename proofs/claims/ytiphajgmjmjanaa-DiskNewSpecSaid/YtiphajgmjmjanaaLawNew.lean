/- DiskNewSpec. -/
import Derived.Test.YtiphajgmjmjanaaSane
import Derived.Test.YtiphajgmjmjanaaFew
import Derived.Test.YtiphajgmjmjanaaSame
import Derived.Test.YtiphajgmjmjanaaRNw
import Derived.Test.YtiphajgmjmjanaaRCk
import Derived.Test.YtiphajgmjmjanaaRow
import Derived.Deep.RegionHeld3
namespace Go.Proofs.Ytiphajgmjmjanaa
open Go.RowKit
set_option linter.unusedVariables false
set_option linter.unusedSimpArgs false

set_option maxHeartbeats 40000000 in
set_option maxRecDepth 100000 in
theorem lawNew_any (n : Int) (d : Dk) (A B : Option Addr) (ca k0 : Nat) (w : World) (hS : DkIn w d A ca B k0) :
    Calls Try.prog 3 #[.int .i64 n, dkv d A ca B k0] w fun e w' => e = .returned (.bool true) ∧ Below w.heap.size w w' := by
  obtain ⟨hx1, hi1, hb1⟩ := dk_put hS
  have HSN := Lib.hid (fun W => sane_any W)
  have HFW := Lib.hid (fun W (hb : Below w.heap.size w W) => few_any d A B ca k0 W (hS.up hb))
  have HW1 := Lib.hid (fun W => new_any n W)
  have HW2 := Lib.hid (fun W => rnew_any n W)
  have HC1 := Lib.hid (fun W (hb : Below w.heap.size w W) => check_any d A B ca k0 W (hS.up hb))
  have HC2 := Lib.hid (fun W (hb : Below w.heap.size w W) => rcheck_any d A B ca k0 W (hS.up hb))
  have HR1 := Lib.hid (fun W (hb : Below w.heap.size w W) => restart_any d A B ca k0 W (hS.up hb).1)
  have HR2 := Lib.hid (fun W (hb : Below w.heap.size w W) => rrestart_any d A B ca k0 W (hS.up hb).1)
  have HS2 := Lib.hid (fun W (h1 : DkIn W (rs d) A ca none 0) => same_any (rs d) A none ca 0 A none ca 0 W h1 h1)
  have HSS := Lib.hid (fun X A3 B3 c3 k3 A4 B4 c4 k4 W h1 h2 => same_any X A3 B3 c3 k3 A4 B4 c4 k4 W h1 h2)
  have H1 := Lib.hid (And.intro hx1 hb1)
  unfold DkPost at *
  unfold FewPost at *
  unfold dkv dkc at *
  clear hS hx1 hi1 hb1
  obtain ⟨N, hN⟩ : ∃ N, d.secs.length = N := ⟨_, rfl⟩
  obtain ⟨M, hM⟩ : ∃ M, d.pend.length = M := ⟨_, rfl⟩
  obtain ⟨X, hX⟩ : ∃ X, nw n = X := ⟨_, rfl⟩
  obtain ⟨E, hE⟩ : ∃ E, nwe n = E := ⟨_, rfl⟩
  obtain ⟨C, hC⟩ : ∃ C, chk d = C := ⟨_, rfl⟩
  obtain ⟨R, hR⟩ : ∃ R, rs d = R := ⟨_, rfl⟩
  rw [hX, hE] at HW1 HW2
  rw [hC] at HC1 HC2
  rw [hR] at HR1 HR2 HS2
  rw [hN] at HFW HC1 HC2 HR1 HR2 H1
  rw [hM] at HFW HC1 HC2 HR1 HR2 H1
  rw [hN, hM]
  have HN := Lib.hid (And.intro hN hM)
  clear hN hM hX hE hC hR
  go_enter Try.func3, Try.ntmps3
  go_wp2_with fail
  generalize w.alloc _ = u1 at *
  refine (HSN.out u1).mono ?_
  rintro e w1 ⟨rfl, hb1⟩
  have K1 := Lib.hid (And.intro (DBox.up H1.out.1 hb1) (bthen H1.out.2 hb1))
  clear hb1 H1
  by_cases hout : 60 < n ∧ n ≤ 4096
  · have d1 : decide (60 < n) = true := decide_eq_true hout.1
    have d2 : decide (n ≤ 4096) = true := decide_eq_true hout.2
    have d3 := hout.1
    have d4 := hout.2
    go_wp2_with fail
    go_ret
    exact ⟨rfl, K1.out.2⟩
  · obtain ⟨q0, q1, q2, q3⟩ := K1.out.1.cells
    rw [HN.out.1] at q0
    rw [HN.out.2] at q1
    have hrest : ∀ P : Prop, (60 < n → ¬ n ≤ 4096 → P) → (¬ 60 < n → P) → P := fun P h1 h2 => by
      by_cases h : 60 < n
      · exact h1 h (fun h4 => hout ⟨h, h4⟩)
      · exact h2 h
    clear hout
    go_upto_region 3 with fail
    go_cut [21] from 11 (fun v W' => ∃ r : Bool, v = .bool r ∧ DBox W' w.heap.size d A ca B k0 ∧ Below w.heap.size w W')
    case first =>
      refine hrest _ (fun h1 h2 => ?_) (fun h1 => ?_)
      · have d1 : decide (60 < n) = true := decide_eq_true h1
        have d2 : decide (n ≤ 4096) = false := decide_eq_false (by omega)
        clear hrest
        go_wp2_with fail
        refine (HFW.out w1 K1.out.2).mono ?_
        rintro e w2 ⟨r, rfl, hb2⟩
        cases r
        · go_wp2_with fail
          go_meet
          case rel => exact ⟨_, rfl, DBox.up K1.out.1 hb2, bthen K1.out.2 hb2⟩
        · go_wp2_with fail
          go_meet
          case rel => exact ⟨_, rfl, DBox.up K1.out.1 hb2, bthen K1.out.2 hb2⟩
      · have d1 : decide (60 < n) = false := decide_eq_false (by omega)
        clear hrest
        go_wp2_with fail
        refine (HFW.out w1 K1.out.2).mono ?_
        rintro e w2 ⟨r, rfl, hb2⟩
        cases r
        · go_wp2_with fail
          go_meet
          case rel => exact ⟨_, rfl, DBox.up K1.out.1 hb2, bthen K1.out.2 hb2⟩
        · go_wp2_with fail
          go_meet
          case rel => exact ⟨_, rfl, DBox.up K1.out.1 hb2, bthen K1.out.2 hb2⟩
    case rest =>
      obtain ⟨r, rfl, y1, hbw⟩ := hcut
      have K2 := Lib.hid (And.intro y1 hbw)
      clear y1 hbw K1 q0 q1 q2 q3 hrest
      cases r
      · go_wp2_with fail
        refine (HW1.out wc).mono ?_
        rintro e w3 ⟨A3, c3, B3, k3, rfl, i3, hb3⟩
        obtain ⟨x3, i3, hb3c⟩ := dk_put i3
        have hb3d := bthen hb3 hb3c
        have K3 := Lib.hid (And.intro (DBox.up K2.out.1 hb3d) (And.intro x3 (And.intro i3 (bthen K2.out.2 hb3d))))
        clear hb3 x3 i3 hb3c hb3d K2 HW1
        go_upto_region 6 with fail
        generalize w3.alloc _ = u3 at *
        go_wp2_with fail
        refine (HW2.out u3).mono ?_
        rintro e w4 ⟨A4, c4, B4, k4, rfl, i4, hb4⟩
        obtain ⟨x4, i4, hb4c⟩ := dk_put i4
        have hb4d := bthen hb4 hb4c
        have K4 := Lib.hid (And.intro (DBox.up K3.out.1 hb4d) (And.intro (DBox.up K3.out.2.1 hb4d) (And.intro (K3.out.2.2.1.up hb4d) (And.intro x4 (And.intro i4 (bthen K3.out.2.2.2 hb4d))))))
        clear hb4 x4 i4 hb4c hb4d K3 HW2
        go_upto_region 7 with fail
        generalize w4.alloc _ = V at *
        generalize w3.heap.size = b5 at *
        generalize w4.heap.size = b7 at *
        have HKW := Lib.hid (fun W (hb : Below V.heap.size V W) => And.intro (DBox.up K4.out.1 hb).cells (And.intro (DBox.up K4.out.2.1 hb).cells (DBox.up K4.out.2.2.2.1 hb).cells))
        rw [HN.out.1, HN.out.2] at HKW
        have HK := Lib.hid (fun W (hb : Below V.heap.size V W) => HKW.out W hb)
        simp only [and_assoc] at HK
        have HSA := Lib.hid (HSS.out X A3 B3 c3 k3 A4 B4 c4 k4 V.drew (K4.out.2.2.1.up (Below.refl V.heap.size V).drew) (K4.out.2.2.2.2.1.up (Below.refl V.heap.size V).drew))
        try unfold dkv dkc at HSA
        have HVB := Lib.hid K4.out.2.2.2.2.2
        clear HKW HSS K4
        go_region_held3 (fun w' => w'.cell? ⟨w.heap.size, 0, none⟩ = some (.slice A N ca) ∧ w'.cell? ⟨w.heap.size, 1, none⟩ = some (.slice B M k0) ∧ w'.cell? ⟨w.heap.size, 2, none⟩ = some (.int .i64 d.left) ∧ w'.cell? ⟨w.heap.size, 3, none⟩ = some (.bool d.stop) ∧ w'.cell? ⟨b5, 0, none⟩ = some (.slice A3 X.secs.length c3) ∧ w'.cell? ⟨b5, 1, none⟩ = some (.slice B3 X.pend.length k3) ∧ w'.cell? ⟨b5, 2, none⟩ = some (.int .i64 X.left) ∧ w'.cell? ⟨b5, 3, none⟩ = some (.bool X.stop) ∧ w'.cell? ⟨b7, 0, none⟩ = some (.slice A4 X.secs.length c4) ∧ w'.cell? ⟨b7, 1, none⟩ = some (.slice B4 X.pend.length k4) ∧ w'.cell? ⟨b7, 2, none⟩ = some (.int .i64 X.left) ∧ w'.cell? ⟨b7, 3, none⟩ = some (.bool X.stop))
          (with_reducible first | exact HK.out _ (Below.refl V.heap.size V).drew | exact HK.out _ Bf.out | exact HK.out _ Be.out | exact HK.out _ Bd.out | exact HK.out _ Bc.out | exact HK.out _ Bb.out | exact HK.out _ Ba.out | go_keep)
          (first
            | (go_at_call 14; (with_reducible refine HSA.out.mono ?_); rintro e wa ⟨rfl, hba⟩; have Ba := Lib.hid ((Below.refl V.heap.size V).drew.trans hba); clear hba HSA)
            | (go_at_call 15; (with_reducible refine (HC1.out wa (bthen HVB.out Ba.out)).mono ?_); rintro e wb ⟨rfl, hbb⟩; have Bb := Lib.hid (bthen (a := V) Ba.out hbb); clear hbb)
            | (go_at_call 16; (with_reducible refine (HC2.out wb (bthen HVB.out Bb.out)).mono ?_); rintro e wx ⟨rfl, hbx⟩; have Bc := Lib.hid (bthen (a := V) Bb.out hbx); clear hbx)
            | (go_at_call 17; (with_reducible refine (HR1.out wx (bthen HVB.out Bc.out)).mono ?_); rintro e wd ⟨rfl, id1, hbd⟩; have Bd := Lib.hid (bthen (a := V) Bc.out hbd); have I1 := Lib.hid id1; clear hbd id1)
            | (go_at_call 18; (with_reducible refine (HR2.out wd (bthen HVB.out Bd.out)).mono ?_); rintro e we ⟨rfl, ie1, hbe⟩; have Be := Lib.hid (bthen (a := V) Bd.out hbe); have I2 := Lib.hid (I1.out.up hbe); clear hbe ie1)
            | (go_at_call 14; (with_reducible refine (HS2.out we I2.out).mono ?_); rintro e wf ⟨rfl, hbf⟩; have Bf := Lib.hid (bthen (a := V) Be.out hbf); clear hbf)
            | fail)
        all_goals
          go_wp2_with fail
          go_ret
          exact ⟨rfl, bthen HVB.out Bf.out⟩
      · go_wp2_with fail
        go_ret
        exact ⟨rfl, K2.out.2⟩
end Go.Proofs.Ytiphajgmjmjanaa
