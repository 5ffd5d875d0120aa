/- otherPlaces. -/
import Derived.Test.YtjkojjimlebmjaaDoorSp1
namespace Go.Proofs.YtjkojjimlebmjaaDoor
open Go.RowKit
set_option linter.unusedVariables false

/-- The places that are the index of no share. -/
def othb (i : Nat) : UInt8 := if i = 0 then 0 else UInt8.ofNat (8 + i)
theorem op1_any (i : Nat) (hi : i ≤ 100) (w : World) : Calls Tryd.prog 41 #[.int .i64 (i : Int)] w fun e w' => e = .returned (bv (othb i)) ∧ Below w.heap.size w w' := by
  unfold othb
  by_cases h0 : i = 0
  · subst h0
    rw [if_pos rfl]
    go_enter Tryd.func41, Tryd.ntmps41
    go_wp2_with fail
    go_ret
    exact ⟨rfl, Below.refl _ _⟩
  · rw [if_neg h0]
    have hw := ix_wrap (8 + i) (by omega)
    have hd : ((i : Int) == 0) = false := by simp; omega
    rw [show (((8 + i : Nat) : Nat) : Int) = 8 + (i : Int) by omega] at hw
    unfold bv
    generalize (UInt8.ofNat (8 + i)).toNat = x at *
    go_enter Tryd.func41, Tryd.ntmps41
    go_wp2_with fail
    go_ret
    exact ⟨rfl, Below.refl _ _⟩
def oths (n : Nat) : List UInt8 := (List.range n).map othb
theorem oth_any (n : Nat) (hn : n ≤ 100) (w : World) : Calls Tryd.prog 15 #[.int .i64 (n : Int)] w (Row8 (oths n) w) := by
  have HC := Lib.hid (coll8 n (by omega) 41 #[] othb w (enters_of Tryd.func41 (by kernel_rfl) rfl) (fun i W hi _ _ => op1_any i (by omega) W))
  have HL : Hid ((oths n).length = n) := by simp [Hid, oths]
  change Hid (Calls _ _ _ _ (Row8 (oths n) w)) at HC
  generalize oths n = L at *
  go_enter Tryd.func15, Tryd.ntmps15
  go_wp2_with fail
  refine HC.out.mono ?_
  rintro e w3 ⟨g, c3, hg, rfl, hO, hb3⟩
  go_wp2_with fail
  go_ret
  exact ⟨g, c3, hg, by rw [HL.out]; rfl, hO, hb3⟩
end Go.Proofs.YtjkojjimlebmjaaDoor
