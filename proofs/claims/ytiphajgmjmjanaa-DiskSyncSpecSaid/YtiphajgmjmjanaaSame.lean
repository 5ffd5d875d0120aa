/- The reference's Same of equal disks. -/
import Derived.Test.YtiphajgmjmjanaaCk
import Derived.Test.YtiphajgmjmjanaaRs
import Derived.Deep.RegionHeld3
namespace Go.Proofs.Ytiphajgmjmjanaa
open Go.RowKit
set_option linter.unusedVariables false

theorem dkin_len {w : World} {d : Dk} {A B : Option Addr} {c k : Nat} (h : DkIn w d A c B k) : d.secs.length ≤ 9223372036854775807 ∧ d.pend.length ≤ 9223372036854775807 := by
  have h1 := Nat.le_trans h.1.2.1 h.1.2.2.1
  have h2 := Nat.le_trans h.2.2.1 h.2.2.2.1
  unfold maxLen at h1 h2
  omega
/-- Two disks in boxes. -/
structure Duo (w W : World) (d d2 : Dk) (A : Option Addr) (c : Nat) (B : Option Addr) (k : Nat) (A2 : Option Addr) (c2 : Nat) (B2 : Option Addr) (k2 : Nat) : Prop where
  below : Below w.heap.size w W
  box : DBox W w.heap.size d A c B k
  box2 : DBox W (w.heap.size + 1) d2 A2 c2 B2 k2
theorem duo_new (w : World) (d d2 : Dk) (A : Option Addr) (c : Nat) (B : Option Addr) (k : Nat) (A2 : Option Addr) (c2 : Nat) (B2 : Option Addr) (k2 : Nat) : Duo w ((w.alloc (.cells (dkc d A c B k) 25)).alloc (.cells (dkc d2 A2 c2 B2 k2) 25)) d d2 A c B k A2 c2 B2 k2 :=
  ⟨alloc2_below _ _ _, Box.alloc (Box.new w _ _) _, alloc2_box _ _ _ _⟩

set_option maxHeartbeats 4000000 in
set_option maxRecDepth 100000 in
theorem same_any (d : Dk) (A B : Option Addr) (c k0 : Nat) (A2 B2 : Option Addr) (c2 k2 : Nat) (w : World) (h1 : DkIn w d A c B k0) (h2 : DkIn w d A2 c2 B2 k2) :
    Calls Try.prog 14 #[dkv d A c B k0, dkv d A2 c2 B2 k2] w fun e w' => e = .returned (.bool true) ∧ Below w.heap.size w w' := by
  obtain ⟨m1, m2⟩ := dkin_len h1
  have hD := duo_new w d d A c B k0 A2 c2 B2 k2
  have HS := Lib.hid (And.intro (h1.up hD.below) (h2.up hD.below))
  have HD := Lib.hid hD
  unfold dkv dkc at *
  clear h1 h2 hD
  obtain ⟨N, hN⟩ : ∃ N, d.secs.length = N := ⟨_, rfl⟩
  obtain ⟨M, hM⟩ : ∃ M, d.pend.length = M := ⟨_, rfl⟩
  have HN := Lib.hid (And.intro hN hM)
  rw [hN] at m1
  rw [hM] at m2
  rw [hN, hM] at HS HD ⊢
  clear hN hM
  obtain ⟨b0, b1, b2, b3⟩ := HD.out.box.cells
  obtain ⟨e0, e1, e2, e3⟩ := HD.out.box2.cells
  rw [HN.out.1] at b0 e0
  rw [HN.out.2] at b1 e1
  go_enter Try.func14, Try.ntmps14
  go_wp2_with fail
  generalize World.alloc _ _ = W at *
  have HC := Lib.hid (And.intro b0 (And.intro b1 (And.intro e0 e1)))
  have HB1 := Lib.hid (HD.out.below)
  clear b2 b3 e2 e3
  go_loopw [5] (fun i wr => ∃ k : Nat, k ≤ N ∧ i = .int .i64 k ∧ Below W.heap.size W wr) (fun i _ => N - (intOf i).toNat)
  case atStart => exact ⟨0, Nat.zero_le _, rfl, Below.refl _ _⟩
  case round =>
    obtain ⟨k, hk, rfl, hbw⟩ := hrel
    have HBW := Lib.hid hbw
    have b0 : wr.cell? ⟨w.heap.size, 0, none⟩ = some (.slice A N c) := (hbw.cell (p := ⟨w.heap.size, 0, none⟩) (World.block_lt_of_cell? _ _ HC.out.1)).trans HC.out.1
    have e0 : wr.cell? ⟨w.heap.size + 1, 0, none⟩ = some (.slice A2 N c2) := (hbw.cell (p := ⟨w.heap.size + 1, 0, none⟩) (World.block_lt_of_cell? _ _ HC.out.2.2.1)).trans HC.out.2.2.1
    by_cases hlt : k < N
    · have hkl : k < d.secs.length := by rw [HN.out.1]; exact hlt
      obtain ⟨b, off, rfl, hb, hat⟩ := HS.out.1.1.1 (by omega)
      obtain ⟨b2, off2, rfl, hb2, hat2⟩ := HS.out.2.1.1 (by omega)
      obtain ⟨D1, d1, a0, aD⟩ := (hat k _ (List.getElem?_eq_getElem hkl)).up hb hbw
      obtain ⟨D2, d2, a2, aE⟩ := (hat2 k _ (List.getElem?_eq_getElem hkl)).up hb2 hbw
      have s1 := sl_str (show Sl wr.drew D1 _ d1 from aD) rfl
      have s2 := sl_str (show Sl wr.drew D2 _ d2 from aE) rfl
      generalize ByteArray.mk _ = str at s1 s2
      generalize List.length (d.secs[k]'hkl) = ln at *
      have i1 : (0 : Int) ≤ (k : Int) := by omega
      have i2 : (k : Int) < (N : Int) := by omega
      have HQ := Lib.hid (show wr.drew.cell? ⟨w.heap.size, 0, none⟩ = some (.slice (some ⟨b, off, none⟩) N c) ∧ wr.drew.cell? ⟨w.heap.size + 1, 0, none⟩ = some (.slice (some ⟨b2, off2, none⟩) N c2) ∧ wr.drew.cell? ⟨b, off + k, none⟩ = some (.slice D1 ln d1) ∧ wr.drew.cell? ⟨b2, off2 + k, none⟩ = some (.slice D2 ln d2) ∧
        (convert 35 9 (.slice D1 ln d1)).run Try.prog wr.drew = .ok (.string str) wr.drew ∧ (convert 35 9 (.slice D2 ln d2)).run Try.prog wr.drew = .ok (.string str) wr.drew from ⟨b0, e0, a0, a2, s1, s2⟩)
      clear a0 a2 aD aE s1 s2 hbw hat hat2
      go_wp2_with fail
      go_region_held3 (fun w' => w'.cell? ⟨w.heap.size, 0, none⟩ = some (.slice (some ⟨b, off, none⟩) N c) ∧ w'.cell? ⟨w.heap.size + 1, 0, none⟩ = some (.slice (some ⟨b2, off2, none⟩) N c2) ∧ w'.cell? ⟨b, off + k, none⟩ = some (.slice D1 ln d1) ∧ w'.cell? ⟨b2, off2 + k, none⟩ = some (.slice D2 ln d2) ∧
        (convert 35 9 (.slice D1 ln d1)).run Try.prog w' = .ok (.string str) w' ∧ (convert 35 9 (.slice D2 ln d2)).run Try.prog w' = .ok (.string str) w')
        (first | exact HQ.out | go_keep)
        (first | fail)
      go_wp2_with fail
      go_roundw
      case rel => exact ⟨k + 1, by omega, by go_num, HBW.out.drew⟩
      case measure => simp [intOf]; omega
    · obtain rfl : k = N := by omega
      go_wp2_with fail
      clear b0 e0 hbw
      go_loopw [6] (fun i wr => ∃ k : Nat, k ≤ M ∧ i = .int .i64 k ∧ Below W.heap.size W wr) (fun i _ => M - (intOf i).toNat)
      case atStart => exact ⟨0, Nat.zero_le _, rfl, HBW.out⟩
      case round =>
        clear HBW
        obtain ⟨j, hj, rfl, hbw⟩ := hrel
        have HBW := Lib.hid hbw
        have b0 : wr.cell? ⟨w.heap.size, 1, none⟩ = some (.slice B M k0) := (hbw.cell (p := ⟨w.heap.size, 1, none⟩) (World.block_lt_of_cell? _ _ HC.out.2.1)).trans HC.out.2.1
        have e0 : wr.cell? ⟨w.heap.size + 1, 1, none⟩ = some (.slice B2 M k2) := (hbw.cell (p := ⟨w.heap.size + 1, 1, none⟩) (World.block_lt_of_cell? _ _ HC.out.2.2.2)).trans HC.out.2.2.2
        by_cases hlt2 : j < M
        · have hkl : j < d.pend.length := by rw [HN.out.2]; exact hlt2
          obtain ⟨b, off, rfl, hb, hat⟩ := HS.out.1.2.1 (by omega)
          obtain ⟨b2, off2, rfl, hb2, hat2⟩ := HS.out.2.2.1 (by omega)
          obtain ⟨D1, d1, y0, a0, aD⟩ := (hat j _ (List.getElem?_eq_getElem hkl)).up hb hbw
          obtain ⟨D2, d2, y2, a2, aE⟩ := (hat2 j _ (List.getElem?_eq_getElem hkl)).up hb2 hbw
          have s1 := sl_str (show Sl wr.drew D1 _ d1 from aD) rfl
          have s2 := sl_str (show Sl wr.drew D2 _ d2 from aE) rfl
          generalize ByteArray.mk _ = str at s1 s2
          generalize List.length (d.pend[j]'hkl).2 = ln at *
          generalize (d.pend[j]'hkl).1 = at1 at *
          have i1 : (0 : Int) ≤ (j : Int) := by omega
          have i2 : (j : Int) < (M : Int) := by omega
          have HQ := Lib.hid (show wr.drew.cell? ⟨w.heap.size, 1, none⟩ = some (.slice (some ⟨b, off, none⟩) M k0) ∧ wr.drew.cell? ⟨w.heap.size + 1, 1, none⟩ = some (.slice (some ⟨b2, off2, none⟩) M k2) ∧ wr.drew.cell? ⟨b, off + j * 2, none⟩ = some (.int .i64 at1) ∧ wr.drew.cell? ⟨b, off + j * 2 + 1, none⟩ = some (.slice D1 ln d1) ∧ wr.drew.cell? ⟨b2, off2 + j * 2, none⟩ = some (.int .i64 at1) ∧ wr.drew.cell? ⟨b2, off2 + j * 2 + 1, none⟩ = some (.slice D2 ln d2) ∧
            (convert 35 9 (.slice D1 ln d1)).run Try.prog wr.drew = .ok (.string str) wr.drew ∧ (convert 35 9 (.slice D2 ln d2)).run Try.prog wr.drew = .ok (.string str) wr.drew from ⟨b0, e0, y0, a0, y2, a2, s1, s2⟩)
          clear a0 a2 aD aE s1 s2 hbw hat hat2 y0 y2
          go_wp2_with fail
          go_region_held3 (fun w' => w'.cell? ⟨w.heap.size, 1, none⟩ = some (.slice (some ⟨b, off, none⟩) M k0) ∧ w'.cell? ⟨w.heap.size + 1, 1, none⟩ = some (.slice (some ⟨b2, off2, none⟩) M k2) ∧ w'.cell? ⟨b, off + j * 2, none⟩ = some (.int .i64 at1) ∧ w'.cell? ⟨b, off + j * 2 + 1, none⟩ = some (.slice D1 ln d1) ∧ w'.cell? ⟨b2, off2 + j * 2, none⟩ = some (.int .i64 at1) ∧ w'.cell? ⟨b2, off2 + j * 2 + 1, none⟩ = some (.slice D2 ln d2) ∧
            (convert 35 9 (.slice D1 ln d1)).run Try.prog w' = .ok (.string str) w' ∧ (convert 35 9 (.slice D2 ln d2)).run Try.prog w' = .ok (.string str) w')
            (first | exact HQ.out | go_keep)
            (first | fail)
          go_wp2_with fail
          go_roundw
          case rel => exact ⟨j + 1, by omega, by go_num, HBW.out.drew⟩
          case measure => simp [intOf]; omega
        · obtain rfl : j = M := by omega
          go_wp2_with fail
          go_ret
          exact ⟨rfl, HB1.out.trans (HBW.out.mono HB1.out.size)⟩
end Go.Proofs.Ytiphajgmjmjanaa
