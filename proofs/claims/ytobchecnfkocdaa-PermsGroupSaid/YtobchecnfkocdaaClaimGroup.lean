/-
  The given statement PermsGroup: for every input gridwrightlaw11.PermsGroup returns true, and what its arguments reach reads afterwards as it read before.
  CONDITIONS: those of the given row alone (its cells 'loops', 'recurses', 'unfollowed').
-/
import Derived.Test.YtobchecnfkocdaaRow
import Derived.Test.YtobchecnfkocdaaLawGroup
import Derived.Test.YtobchecnfkocdaaSane
namespace Go.Proofs.Ytobchecnfkocdaa.permsGroup
open Go.ChangeShapes Go.WideShapes Go.ChangeAt Go.RowKit
set_option linter.unusedVariables false

set_option maxRecDepth 100000 in
theorem lifted (os : Os) (started : os.Started) (H : Type) (enc : TypeId × Value → H) :
    ReturnsInHanded {} Try.checked os 5 .any (Rows.permsGroupSpec.pre6 enc Try.prog Try.f5 Rows.permsGroupRow.domain false) (Rows.permsGroupSpec.post enc Try.prog Try.f5 false true false false) := by
  refine returnsInHanded_of_change (C := Try.checked) own_knob started (by kernel_rfl) Try.func5
    (ChangeSpec.witness6 (enc := enc) (C := Try.checked) false ⟨#[], #[.slice none 0 0, .slice none 0 0, .slice none 0 0], []⟩ 8 (by kernel_rfl) (by kernel_rfl) (by kernel_rfl) (by kernel_rfl)) ?_
  intro W base args ds gs before hval0 hW hcnd _
  have hval : ∀ (j : Nat) t v, Try.f5.params[j]? = some t → args[j]? = some v → Value.okWide Try.prog W .any base t v := hval0
  have hW' := hW
  obtain ⟨p, q, hA0, hV, rfl, hfz, hnd⟩ := hW
  have hA : DataW.TrodAll enc Try.prog W 0 (fun _ => true) true Try.f5.params.toList args.toList ds p := hA0
  have hAk := hA
  rw [Try.params5] at hA hval
  obtain ⟨v0, vs0, d0, ds0, p0, q0, hargs, rfl, rfl, h0, r0⟩ := trodAll_cons hA
  obtain ⟨v1, vs1, d1, ds1, p1, q1, rfl, rfl, rfl, h1, r1⟩ := trodAll_cons r0
  obtain ⟨v2, vs2, d2, ds2, p2, q2, rfl, rfl, rfl, h2, r2⟩ := trodAll_cons r1
  obtain ⟨rfl, rfl, rfl⟩ := trodAll_nil r2
  obtain rfl : args = #[v0, v1, v2] := by cases args; simp_all
  obtain ⟨rfl, rfl⟩ := trodVars_none hV
  obtain ⟨a0, l0, cap0, rfl, hr0⟩ := ints_arg (hval 0 22 v0 rfl rfl) h0
  obtain ⟨a1, l1, cap1, rfl, hr1⟩ := ints_arg (hval 1 22 v1 rfl rfl) h1
  obtain ⟨a2, l2, cap2, rfl, hr2⟩ := ints_arg (hval 2 22 v2 rfl rfl) h2
  clear hA0 hval0
  rw [List.append_nil] at hW'
  exact (lawGroup_any sane_all a0 cap0 l0 a1 cap1 l1 a2 cap2 l2 W hr0 hr1 hr2).mono fun e W' ⟨he, hg⟩ => by
    subst he
    exact ⟨_, rfl, post_true hW' hAk (types_ok (by rw [Try.params5]; decide)) hg (by kernel_rfl) rfl rfl⟩

theorem over : Rows.permsGroupRow.holds Try.pinned (OpenSpec.ofChange Rows.permsGroupSpec) :=
  OpenClaim.holds_of_wide 5 Try.f5 rfl rfl rfl rfl rfl rfl rfl ⟨rfl, rfl, rfl, rfl, rfl⟩ rfl rfl rfl rfl rfl (by kernel_rfl) Try.func5 (by kernel_rfl)
    (of_decide_eq_true (by kernel_rfl)) (by unfold Func.isWrapper; first | (rw [if_pos (by decide +kernel)]; kernel_rfl) | (rw [if_neg (by decide +kernel)]; exact ⟨rfl, rfl⟩))
    (fun os started H enc _ => lifted os started H enc)

/-- The given statement. -/
theorem proved : Rows.PermsGroupSaid :=
  over
end Go.Proofs.Ytobchecnfkocdaa.permsGroup
