/- Split: its small functions. -/
import Derived.Test.YtjkojjimlebmjaaDoorCollS
import Derived.Test.YtjkojjimlebmjaaDoorCollL
import Derived.Test.YtjkojjimlebmjaaDoorColl
import Derived.Test.YtjkojjimlebmjaaDoorThru
import Derived.StillTailTactics
import Derived.Deep.RegionHeld3
namespace Go.Proofs.YtjkojjimlebmjaaDoor
open Go.RowKit
set_option linter.unusedVariables false

theorem thr_any (t m : Int) (w : World) : Calls Tryd.prog 31 #[.int .i64 t, .int .i64 m] w fun e w' => e = .returned (.bool (decide (1 ≤ t ∧ t ≤ m ∧ m ≤ 8))) ∧ w = w' := by
  by_cases h1 : 1 ≤ t
  · by_cases h2 : t ≤ m
    · by_cases h3 : m ≤ 8
      · rw [decide_eq_true ⟨h1, h2, h3⟩]
        go_enter Tryd.func31, Tryd.ntmps31
        go_wp2_with fail
        go_ret
        exact ⟨rfl, rfl⟩
      · rw [decide_eq_false (fun h => h3 h.2.2)]
        go_enter Tryd.func31, Tryd.ntmps31
        go_wp2_with fail
        go_ret
        exact ⟨rfl, rfl⟩
    · rw [decide_eq_false (fun h => h2 h.2.1)]
      go_enter Tryd.func31, Tryd.ntmps31
      go_wp2_with fail
      go_ret
      exact ⟨rfl, rfl⟩
  · rw [decide_eq_false (fun h => h1 h.1)]
    go_enter Tryd.func31, Tryd.ntmps31
    go_wp2_with fail
    go_ret
    exact ⟨rfl, rfl⟩
theorem ep_any (t : Int) (w : World) : Calls Tryd.prog 32 #[.int .i64 t] w fun e w' => e = .returned (.bool (decide (0 ≤ t ∧ t ≤ 1048576))) ∧ w = w' := by
  by_cases h1 : 0 ≤ t
  · by_cases h2 : t ≤ 1048576
    · rw [decide_eq_true ⟨h1, h2⟩]
      go_enter Tryd.func32, Tryd.ntmps32
      go_wp2_with fail
      go_ret
      exact ⟨rfl, rfl⟩
    · rw [decide_eq_false (fun h => h2 h.2)]
      go_enter Tryd.func32, Tryd.ntmps32
      go_wp2_with fail
      go_ret
      exact ⟨rfl, rfl⟩
  · rw [decide_eq_false (fun h => h1 h.1)]
    go_enter Tryd.func32, Tryd.ntmps32
    go_wp2_with fail
    go_ret
    exact ⟨rfl, rfl⟩

theorem ix_wrap (x : Nat) (h : x < 256) : IntKind.u8.wrap (x : Int) = ((UInt8.ofNat x).toNat : Int) := by
  rw [UInt8.toNat_ofNat_of_lt' (by simpa [UInt8.size] using h)]
  simp [IntKind.wrap, IntKind.signed, IntKind.bits]
  omega

set_option maxHeartbeats 1000000 in
set_option maxRecDepth 100000 in
theorem sp11_any (i x Bp Bx : Nat) (A : Option Addr) (c : Nat) (ps : List (List UInt8)) (p : List UInt8) (W : World) (hK : KT W) (hp : W.cell? ⟨Bp, 0, none⟩ = some (.slice A ps.length c)) (hx : W.cell? ⟨Bx, 0, none⟩ = some (.int .i64 (x : Int)))
    (hx8 : x < 256) (hR : RR W A ps c) (hi : ps[i]? = some p) (hl : p.length ≤ 1000000) (hps : ps.length ≤ 1000000) :
    Calls Tryd.prog 36 #[.int .i64 (i : Int), .pointer (some ⟨Bp, 0, none⟩), .pointer (some ⟨Bx, 0, none⟩)] W fun e w' => e = .returned (bv (hv p (UInt8.ofNat x))) ∧ Below W.heap.size W w' := by
  have hip : i < ps.length := (List.getElem?_eq_some_iff.1 hi).1
  obtain ⟨b, off, rfl, hb, hrow⟩ := hR.1 (by omega)
  obtain ⟨A2, c2, hc2, hs2⟩ := hrow i p hi
  have HE := Lib.hid (fun W' (hb : Below W.heap.size W W') => eval_any A2 c2 p (UInt8.ofNat x) W' (hK.below hb) (hs2.up hb) hl)
  unfold bv at HE
  have hw := ix_wrap x hx8
  clear hR hrow hs2 hK hi
  generalize p.length = m at *
  generalize ps.length = n at *
  generalize (UInt8.ofNat x).toNat = xb at *
  have i1 : (0 : Int) ≤ (i : Int) := by omega
  have i2 : (i : Int) < (n : Int) := by omega
  unfold bv
  go_enter Tryd.func36, Tryd.ntmps36
  go_wp2_with fail
  go_still_tail 6, (by kernel_rfl)
  change wpList _ _ _ _ _ W.drew
  have HC := Lib.hid (And.intro (HE.out W.drew (Below.refl _ W).drew) ((Below.refl W.heap.size W).drew))
  generalize W.drew = w2 at *
  go_wp2_with fail
  refine HC.out.1.mono ?_
  rintro e w3 ⟨rfl, hb3⟩
  go_wp2_with fail
  go_ret
  exact ⟨rfl, HC.out.2.trans (hb3.mono HC.out.2.size)⟩
end Go.Proofs.YtjkojjimlebmjaaDoor
