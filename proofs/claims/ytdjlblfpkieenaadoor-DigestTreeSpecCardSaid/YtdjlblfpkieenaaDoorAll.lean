/- All blocks are absorbed. -/
import Derived.Test.YtdjlblfpkieenaaDoorAbsorb
namespace Go.Proofs.YtdjlblfpkieenaaDoor
open Go.RowKit
set_option linter.unusedVariables false

set_option maxHeartbeats 1000000 in
set_option maxRecDepth 100000 in
theorem absorbAll_any (h n : Nat) (A : Option Addr) (c : Nat) (p : List UInt8) (s : S8) (w : World) (hK : KT w) (h0 : 0 < h) (hS : Box w h (hcells s) 66) (hB : Bs w.heap.size w A p) (hne : 0 < p.length → ∀ b off, A = some ⟨b, off, none⟩ → b ≠ h) (hp : p.length = 64 * n) (h1 : p.length ≤ c) (h2 : c ≤ maxLen) :
    Calls Tryd.prog 28 #[.pointer (some ⟨h, 0, none⟩), .slice A p.length c] w fun e w' => e = .returned (.tuple #[]) ∧ Box w' h (hcells (blocks n p s)) 66 ∧ w.grownBy w' (some h) := by
  have hmf : ∀ (fn : Fn) (first cap : Array Value) (w : World), (Instr.makeFunc fn first cap).run Tryd.prog w = .ok (.func fn first cap) w := fun _ _ _ _ => rfl
  have HM := Lib.hid h2
  unfold maxLen at h2
  have HP := Lib.hid hp
  have HS := Lib.hid hS
  have HB := Lib.hid hB
  have HNE := Lib.hid hne
  have HK := Lib.hid hK
  generalize hm : p.length = m at *
  have HLM := Lib.hid hm
  clear hS hB hK hp hm hne
  go_enter Tryd.func28, Tryd.ntmps28
  go_wp2_with fail
  clear hmf
  go_loopw [5] (fun i wr => ∃ (k a : Nat) (z : S8), k ≤ n ∧ a = 64 * k ∧ i = .int .i64 a ∧ w.grownBy wr (some h) ∧ Box wr h (hcells z) 66 ∧ blocks n p s = blocks (n - k) (p.drop a) z) (fun i _ => m - (intOf i).toNat)
  case atStart => exact ⟨0, 0, s, Nat.zero_le _, rfl, rfl, World.grownBy.refl w _, HS.out, by rw [Nat.sub_zero, List.drop_zero]⟩
  case round =>
    obtain ⟨k, a, z, hk, ha, rfl, hgw, hb, hbl⟩ := hrel
    have HBL := Lib.hid hbl
    have HBX := Lib.hid hb
    have hmn := HP.out
    clear hbl hb
    by_cases hlt : a < m
    · have hB : Bs wr.heap.size wr A p := (HB.out.keep hgw (fun b off e he => by injection he with he; exact HNE.out (by omega) b off e he)).more hgw.size
      obtain ⟨b, off, rfl, hbh, hcell⟩ := hB (by rw [HLM.out]; omega)
      have hpart : Bs wr.heap.size wr (some ⟨b, off + a, none⟩) ((p.drop a).take 64) := by
        have := (hB.drop (n := a)).take (n := 64)
        simpa [add_off] using this
      have hKT := HK.out.grown hgw h0
      have hlen : ((p.drop a).take 64).length = 64 := by rw [List.length_take, List.length_drop, HLM.out]; omega
      have HC := Lib.hid (absorb_any h _ (c - a) _ z wr hKT h0 HBX.out hpart hlen (by omega) (by unfold maxLen; omega))
      have hnk : n - k = (n - (k + 1)) + 1 := by omega
      have HBL2 : Hid (blocks n p s = blocks (n - (k + 1)) (p.drop (a + 64)) (block ((p.drop a).take 64) z)) := Lib.hid (by rw [HBL.out, hnk, blocks_step, List.drop_drop])
      have HA := Lib.hid ha
      have HK2 : Hid (k + 1 ≤ n ∧ a + 64 = 64 * (k + 1)) := Lib.hid (by omega)
      have hcl : (a : Int) + 64 ≤ (m : Int) := by omega
      clear hpart hB hcell hKT hlen hnk hmn ha hk
      go_wp2_with fail
      rw [show a + 64 - a = 64 by omega]
      refine HC.out.mono ?_
      rintro e w1 ⟨rfl, hb1, hg1⟩
      have HB1 := Lib.hid hb1
      clear hb1 HC
      go_wp2_with fail
      go_roundw
      case rel => exact ⟨k + 1, a + 64, _, HK2.out.1, HK2.out.2, by go_num, grown_trans hgw hg1, HB1.out, HBL2.out⟩
      case measure => simp [intOf]; omega
    · have hkn : k = n := by omega
      have hfin : blocks n p s = z := by rw [HBL.out, hkn, Nat.sub_self, blocks_zero]
      have HF := Lib.hid hfin
      clear ha hk hmn hkn hfin
      go_wp2_with fail
      go_end0
      refine ⟨rfl, ?_, hgw⟩
      rw [HF.out]
      exact HBX.out
end Go.Proofs.YtdjlblfpkieenaaDoor
