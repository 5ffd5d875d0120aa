/- addMultiple. -/
import Derived.Test.YtjkojjimlebmjaaDoorTail
import Derived.Test.YtjkojjimlebmjaaDoorSl
import Derived.Test.YtjkojjimlebmjaaDoorMul
import Derived.Test.YtjkojjimlebmjaaDoorPoly
import Derived.Laws.OwnMore
namespace Go.Proofs.YtjkojjimlebmjaaDoor
open Go.RowKit
set_option linter.unusedVariables false

theorem xor_u8' (a b : UInt8) : bits .xor .u8 (a.toNat : Int) (b.toNat : Int) = ((a ^^^ b).toNat : Int) := by
  rw [xor_b _ _ (u8_lt a) (u8_lt b), UInt8.toNat_xor]
theorem am_nil (l : List UInt8) (f : UInt8) : am l [] f = l := by cases l <;> rfl
theorem am_step (f : UInt8) : ∀ (l v : List UInt8) (k : Nat), k < v.length → v.length ≤ l.length → am l (v.take (k + 1)) f = (am l (v.take k) f).set k (l.getD k 0 ^^^ gm (v.getD k 0) f)
  | [], c :: v, k, h, h2 => by simp at h2
  | _, [], k, h, _ => by simp at h
  | a :: l, c :: v, 0, _, _ => by simp [am, am_nil]
  | a :: l, c :: v, k + 1, h, h2 => by
    have := am_step f l v k (by simpa using h) (by simpa using h2)
    simpa [am] using this
theorem am_old (f : UInt8) : ∀ (l v : List UInt8) (k : Nat), (am l (v.take k) f)[k]? = l[k]?
  | [], v, k => by simp [am]
  | a :: l, [], k => by simp [am_nil]
  | a :: l, c :: v, 0 => by simp [am_nil]
  | a :: l, c :: v, k + 1 => by
    have := am_old f l v k
    simpa [am] using this
theorem grown_drewN (w : World) (n : Nat) (r : Option Nat) : w.grownBy (w.drewN n) r := ⟨rfl, rfl, rfl, Nat.le_refl _, fun _ _ _ => rfl⟩
theorem map_set (l : List UInt8) (k : Nat) (x : UInt8) : (l.set k x).map bv = (l.map bv).set k (bv x) := by
  rw [List.map_set]

set_option maxHeartbeats 1000000 in
set_option maxRecDepth 100000 in
theorem add_any (B g c : Nat) (l : List UInt8) (A2 : Option Addr) (c2 : Nat) (v : List UInt8) (f : UInt8) (w : World) (hK : KT w) (h0 : g ≠ 0)
    (hO : w.ownsRow B 5 1 (.slice (some ⟨g, 0, none⟩) l.length c) l.length (l.map bv)) (hV : Sl w A2 v c2) (hne : 0 < v.length → ∀ b off, A2 = some ⟨b, off, none⟩ → b ≠ g) (hvl : v.length ≤ l.length) (hl : l.length ≤ 1000000) :
    Calls Tryd.prog 48 #[.slice (some ⟨g, 0, none⟩) l.length c, .slice A2 v.length c2, bv f] w fun e w' => e = .returned (.tuple #[]) ∧ w'.ownsRow B 5 1 (.slice (some ⟨g, 0, none⟩) l.length c) l.length ((am l v f).map bv) ∧ w.grownBy w' (some g) := by
  have hM : ∀ (a b : UInt8) W, w.grownBy W (some g) → Calls Tryd.prog 49 #[.int .u8 (a.toNat : Int), .int .u8 (b.toNat : Int)] W fun e w' => e = .returned (.int .u8 ((gm a b).toNat : Int)) ∧ W = w' := fun a b W hb =>
    mul_any a b W ⟨Nat.lt_of_lt_of_le hK.1 hb.size, fun r hr => hb.cell (hK.2 r hr) (by simpa using Ne.symm h0)⟩
  have HM := Lib.hid hM
  have HO := Lib.hid hO
  have HV := Lib.hid hV
  clear hM hO hV hK
  unfold bv
  go_enter Tryd.func48, Tryd.ntmps48
  go_wp2_with fail
  go_loopw [10] (fun i wr => ∃ k : Nat, k ≤ v.length ∧ i = .int .i64 k ∧ wr.ownsRow B 5 1 (.slice (some ⟨g, 0, none⟩) l.length c) l.length ((am l (v.take k) f).map bv) ∧ w.grownBy wr (some g)) (fun i _ => v.length - (intOf i).toNat)
  case atStart => exact ⟨0, Nat.zero_le _, rfl, by rw [List.take_zero, am_nil]; exact HO.out, World.grownBy.refl w _⟩
  case round =>
    obtain ⟨k, hk, rfl, hown, hgr⟩ := hrel
    by_cases hlt : k < v.length
    · obtain ⟨b, off, rfl, hbl, hcl⟩ := HV.out.1 (by omega)
      have hcv := (hgr.cell (hcl k v[k] (by simp)) (by have := hne (by omega) b off rfl; simpa using this))
      have hlk : k < l.length := by omega
      have hcl2 : wr.cell? ⟨g, k, none⟩ = some (bv l[k]) := by
        rw [hown.cellAt k (by omega), List.getElem?_map, am_old, List.getElem?_eq_getElem hlk]
        rfl
      have hfl := hown.frozenAt k
      have hst := am_step f l v k hlt hvl
      rw [List.getD_eq_getElem?_getD, List.getD_eq_getElem?_getD, List.getElem?_eq_getElem hlt, List.getElem?_eq_getElem hlk, Option.getD_some, Option.getD_some] at hst
      have HST := Lib.hid hst
      have HOW := Lib.hid hown
      clear hst hown hcl
      generalize v[k] = vk at *
      generalize l[k] = lk at *
      unfold bv at hcv hcl2
      go_wp2_with fail
      refine region_tail_drew 9 (by kernel_rfl) (by kernel_rfl) ?_
      simp only [List.take_succ_cons, List.take_zero, List.drop_succ_cons, List.drop_zero]
      have HQ := Lib.hid (fun n => quietL (HM.out vk f (wr.drewN n) (grown_trans hgr (grown_drewN wr n _))))
      repeat (quiet_step ((go_at_call 49; exact HQ.out _)))
      refine wpQuiet_nil ?_
      intro _ hw'
      obtain ⟨nq2, rfl⟩ := hw'
      have hfl' : (wr.drewN nq2).frozen? ⟨g, k, none⟩ = false := hfl
      have hcl2' : (wr.drewN nq2).cell? ⟨g, k, none⟩ = some (.int .u8 (lk.toNat : Int)) := hcl2
      have HOW' : Hid ((wr.drewN nq2).ownsRow B 5 1 (.slice (some ⟨g, 0, none⟩) l.length c) l.length ((am l (v.take k) f).map bv)) := Lib.hid HOW.out
      have HGR : Hid (w.grownBy (wr.drewN nq2) (some g)) := Lib.hid (grown_trans hgr (grown_drewN wr nq2 _))
      clear HQ HM hfl hcl2 HOW hgr hcv HV
      generalize wr.drewN nq2 = wn at *
      go_wp2_with fail
      go_roundw
      case rel =>
        have h1 := HOW'.out.stored k (bv (lk ^^^ gm vk f))
        refine ⟨k + 1, by omega, by go_num, ?_, ?_⟩
        · rw [HST.out, map_set, xor_u8']
          exact h1.1
        · rw [xor_u8']
          exact grown_trans HGR.out h1.2
      case measure => simp [intOf]; omega
    · obtain rfl : k = v.length := by omega
      rw [List.take_length] at hown
      go_wp2_with fail
      go_end0
      exact ⟨rfl, hown, hgr⟩
end Go.Proofs.YtjkojjimlebmjaaDoor
