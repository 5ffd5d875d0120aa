/- Check. -/
import Derived.Test.YtjkojjimlebmjaaDoorAlike
namespace Go.Proofs.YtjkojjimlebmjaaDoor
open Go.RowKit
set_option linter.unusedVariables false

theorem onee_cons {l : List Shr} {s0 : Shr} (h : l[0]? = some s0) : onee l = (sameEp s0.ep l && decide (0 ≤ s0.ep ∧ s0.ep ≤ 1048576)) := by
  cases l with
  | nil => cases h
  | cons a l =>
    simp at h
    subst h
    rfl
theorem alk_pos {l : List Shr} (h : alk l = true) : ∃ s0, l[0]? = some s0 := by
  cases l with
  | nil => cases h
  | cons a l => exact ⟨a, rfl⟩

set_option maxHeartbeats 1000000 in
set_option maxRecDepth 100000 in
theorem check_any (A : Option Addr) (c : Nat) (l : List Shr) (w : World) (hS : SS w A l c) (hl : l.length ≤ 1000000) :
    Calls Tryd.prog 13 #[.slice A l.length c] w fun e w' => e = .returned (.int .i64 (chk l)) ∧ Below w.heap.size w w' := by
  have HA := Lib.hid (alike_any A c l w hS hl)
  have HS := Lib.hid hS
  unfold chk
  clear hS
  cases hal : alk l with
  | false =>
    rw [hal] at HA
    clear hal
    generalize l.length = n at *
    go_enter Tryd.func13, Tryd.ntmps13
    go_wp2_with fail
    refine HA.out.mono ?_
    rintro e w1 ⟨rfl, hb1⟩
    go_wp2_with fail
    go_ret
    exact ⟨rfl, hb1⟩
  | true =>
    obtain ⟨s0, h0⟩ := alk_pos hal
    have HO := Lib.hid (fun w1 (hb : Below w.heap.size w w1) => one_any A c l s0 w1 (HS.out.up hb) h0 hl)
    rw [← onee_cons h0] at HO
    rw [hal] at HA
    clear hal h0
    generalize l.length = n at *
    cases hon : onee l with
    | false =>
      rw [hon] at HO
      go_enter Tryd.func13, Tryd.ntmps13
      go_wp2_with fail
      refine HA.out.mono ?_
      rintro e w1 ⟨rfl, hb1⟩
      go_wp2_with fail
      refine (HO.out w1 hb1).mono ?_
      rintro e w2 ⟨rfl, hb2⟩
      go_wp2_with fail
      go_ret
      exact ⟨rfl, hb1.trans (hb2.mono hb1.size)⟩
    | true =>
      rw [hon] at HO
      go_enter Tryd.func13, Tryd.ntmps13
      go_wp2_with fail
      refine HA.out.mono ?_
      rintro e w1 ⟨rfl, hb1⟩
      go_wp2_with fail
      refine (HO.out w1 hb1).mono ?_
      rintro e w2 ⟨rfl, hb2⟩
      go_wp2_with fail
      go_ret
      exact ⟨rfl, hb1.trans (hb2.mono hb1.size)⟩
end Go.Proofs.YtjkojjimlebmjaaDoor
