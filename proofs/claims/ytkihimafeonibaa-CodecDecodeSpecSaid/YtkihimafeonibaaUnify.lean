/- Encode and Size of any small value, in one. -/
import Derived.Test.YtkihimafeonibaaPlain
import Derived.Test.YtkihimafeonibaaSize
import Derived.Test.YtkihimafeonibaaRefEnc2
namespace Go.Proofs.Ytkihimafeonibaa
open Go.RowKit
set_option linter.unusedVariables false

def Enc3 (B : Nat) (t : T) (w : World) (e : Ending) (w' : World) : Prop :=
  ∃ (A : Option Addr) (c : Nat), e = .returned (.tuple #[.slice A (out t).length c, .int .i64 (chk t)]) ∧ w'.ownsRow B 5 1 (.slice A (out t).length c) (out t).length ((out t).map bv) ∧ Below B w w'

theorem encode_any (t : T) (v : Value) (w : World) (hrd : Rd w.heap.size w t v) (hf : few1 t 20 = true) :
    Calls Try.prog 12 #[v] w (Enc3 w.heap.size t w) := by
  have hs := few1_small (hrd.short) hf
  by_cases hc : chk t = 0
  · have ho : out t = enc t := by unfold out; rw [if_pos hc]
    refine (encode_good t v w hrd (by omega) hc (by omega)).mono ?_
    rintro e w' ⟨u, rfl, hu, hb⟩
    obtain ⟨g, cap, rfl, _⟩ := hu.form (enc_pos t)
    refine ⟨some ⟨g, 0, none⟩, cap, ?_, ?_, hb⟩
    · rw [ho, hc]
    · rw [ho]; exact hu
  · have ho : out t = [] := by unfold out; rw [if_neg hc]
    refine (encode_bad t v w hrd (by omega) hc).mono ?_
    rintro e w' ⟨rfl, hb⟩
    refine ⟨none, 0, ?_, ?_, hb⟩
    · rw [ho]; rfl
    · rw [ho]; exact World.ownsRow_nil _ _ _ _

theorem refEncode_any (t : T) (v : Value) (w : World) (hrd : Rd w.heap.size w t v) (hf : few1 t 20 = true) :
    Calls Try.prog 13 #[v] w (Enc3 w.heap.size t w) := by
  have hs := few1_small (hrd.short) hf
  by_cases hc : chk t = 0
  · have ho : out t = enc t := by unfold out; rw [if_pos hc]
    refine (refEncode_good t v w hrd (by omega) hc (by omega)).mono ?_
    rintro e w' ⟨A, c, rfl, hu, hb⟩
    refine ⟨A, c, ?_, ?_, hb⟩
    · rw [ho, hc]
    · rw [ho]; exact hu
  · have ho : out t = [] := by unfold out; rw [if_neg hc]
    refine (refEncode_bad t v w hrd (by omega) hc).mono ?_
    rintro e w' ⟨rfl, hb⟩
    refine ⟨none, 0, ?_, ?_, hb⟩
    · rw [ho]; rfl
    · rw [ho]; exact World.ownsRow_nil _ _ _ _

theorem size_any (t : T) (v : Value) (w : World) (hrd : Rd w.heap.size w t v) (hf : few1 t 20 = true) :
    Calls Try.prog 14 #[v] w fun e w' => e = .returned (.tuple #[.int .i64 (out t).length, .int .i64 (chk t)]) ∧ Below w.heap.size w w' := by
  have hs := few1_small (hrd.short) hf
  by_cases hc : chk t = 0
  · have ho : out t = enc t := by unfold out; rw [if_pos hc]
    rw [ho, hc]
    exact size_good t v w hrd (by omega) hc (by omega)
  · have ho : out t = [] := by unfold out; rw [if_neg hc]
    rw [ho]
    exact size_bad t v w hrd (by omega) hc

theorem refSize_any (t : T) (v : Value) (w : World) (hrd : Rd w.heap.size w t v) (hf : few1 t 20 = true) :
    Calls Try.prog 15 #[v] w fun e w' => e = .returned (.tuple #[.int .i64 (out t).length, .int .i64 (chk t)]) ∧ Below w.heap.size w w' := by
  have hs := few1_small (hrd.short) hf
  by_cases hc : chk t = 0
  · have ho : out t = enc t := by unfold out; rw [if_pos hc]
    rw [ho, hc]
    exact refSize_good t v w hrd (by omega) hc (by omega)
  · have ho : out t = [] := by unfold out; rw [if_neg hc]
    rw [ho]
    exact refSize_bad t v w hrd (by omega) hc
end Go.Proofs.Ytkihimafeonibaa
