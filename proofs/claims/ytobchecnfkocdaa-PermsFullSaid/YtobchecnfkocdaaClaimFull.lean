/-
  The given statement PermsFull: for every input gridwrightlaw11.PermsFull returns true, and what its arguments reach reads afterwards as it read before.
  CONDITIONS: those of the given row alone (its cells 'loops', 'recurses', 'unfollowed').
-/
import Derived.Test.YtobchecnfkocdaaRow
import Derived.Test.YtobchecnfkocdaaLawFull
namespace Go.Proofs.Ytobchecnfkocdaa.permsFull
open Go.ChangeShapes Go.WideShapes Go.ChangeAt Go.RowKit
set_option linter.unusedVariables false

set_option maxRecDepth 100000 in
theorem lifted (os : Os) (started : os.Started) (H : Type) (enc : TypeId × Value → H) :
    ReturnsInHanded {} Try.checked os 9 .any (Rows.permsFullSpec.pre6 enc Try.prog Try.f9 Rows.permsFullRow.domain false) (Rows.permsFullSpec.post enc Try.prog Try.f9 false true false false) := by
  refine returnsInHanded_of_change (C := Try.checked) own_knob started (by kernel_rfl) Try.func9
    (ChangeSpec.witness6 (enc := enc) (C := Try.checked) false ⟨#[], #[.int .u8 0], []⟩ 8 (by kernel_rfl) (by kernel_rfl) (by kernel_rfl) (by kernel_rfl)) ?_
  intro W base args ds gs before hval0 hW hcnd _
  have hval : ∀ (j : Nat) t v, Try.f9.params[j]? = some t → args[j]? = some v → Value.okWide Try.prog W .any base t v := hval0
  have hW' := hW
  obtain ⟨p, q, hA0, hV, rfl, hfz, hnd⟩ := hW
  have hA : DataW.TrodAll enc Try.prog W 0 (fun _ => true) true Try.f9.params.toList args.toList ds p := hA0
  have hAk := hA
  rw [Try.params9] at hA hval
  obtain ⟨v0, vs0, d0, ds0, p0, q0, hargs, rfl, rfl, h0, r0⟩ := trodAll_cons hA
  obtain ⟨rfl, rfl, rfl⟩ := trodAll_nil r0
  obtain rfl : args = #[v0] := by cases args; simp_all
  obtain ⟨rfl, rfl⟩ := trodVars_none hV
  obtain ⟨n0, rfl, rfl, rfl, hn0⟩ := open_int Try.underlying5 (hval 0 5 v0 rfl rfl) h0
  obtain ⟨y0, hy0, hl0⟩ := byte_num hn0
  rw [hy0] at hW' hAk ⊢
  clear hA0 hval0
  rw [List.append_nil] at hW'
  exact (lawFull_any y0 hl0 W).mono fun e W' ⟨he, hg⟩ => by
    subst he
    exact ⟨_, rfl, post_true hW' hAk (types_ok (by rw [Try.params9]; decide)) hg (by kernel_rfl) rfl rfl⟩

theorem over : Rows.permsFullRow.holds Try.pinned (OpenSpec.ofChange Rows.permsFullSpec) :=
  OpenClaim.holds_of_wide 9 Try.f9 rfl rfl rfl rfl rfl rfl rfl ⟨rfl, rfl, rfl, rfl, rfl⟩ rfl rfl rfl rfl rfl (by kernel_rfl) Try.func9 (by kernel_rfl)
    (of_decide_eq_true (by kernel_rfl)) (by unfold Func.isWrapper; first | (rw [if_pos (by decide +kernel)]; kernel_rfl) | (rw [if_neg (by decide +kernel)]; exact ⟨rfl, rfl⟩))
    (fun os started H enc _ => lifted os started H enc)

/-- The given statement. -/
theorem proved : Rows.PermsFullSaid :=
  over
end Go.Proofs.Ytobchecnfkocdaa.permsFull
