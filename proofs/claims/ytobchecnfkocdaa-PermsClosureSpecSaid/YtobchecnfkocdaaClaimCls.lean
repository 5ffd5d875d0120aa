/-
  The given statement PermsClosureSpec: for every input gridwrightlaw11.PermsClosureSpec returns true, and what its arguments reach reads afterwards as it read before.
  CONDITIONS: those of the given row alone (its cells 'loops', 'recurses', 'unfollowed').
-/
import Derived.Test.YtobchecnfkocdaaRow
import Derived.Test.YtobchecnfkocdaaLawCls
namespace Go.Proofs.Ytobchecnfkocdaa.permsClosureSpec
open Go.ChangeShapes Go.WideShapes Go.ChangeAt Go.RowKit
set_option linter.unusedVariables false

set_option maxRecDepth 100000 in
theorem lifted (os : Os) (started : os.Started) (H : Type) (enc : TypeId × Value → H) :
    ReturnsInHanded {} Try.checked os 4 .any (Rows.permsClosureSpecSpec.pre6 enc Try.prog Try.f4 Rows.permsClosureSpecRow.domain false) (Rows.permsClosureSpecSpec.post enc Try.prog Try.f4 false true false false) := by
  refine returnsInHanded_of_change (C := Try.checked) own_knob started (by kernel_rfl) Try.func4
    (ChangeSpec.witness6 (enc := enc) (C := Try.checked) false ⟨#[], #[.int .i64 0, .slice none 0 0], []⟩ 8 (by kernel_rfl) (by kernel_rfl) (by kernel_rfl) (by kernel_rfl)) ?_
  intro W base args ds gs before hval0 hW hcnd _
  have hval : ∀ (j : Nat) t v, Try.f4.params[j]? = some t → args[j]? = some v → Value.okWide Try.prog W .any base t v := hval0
  have hW' := hW
  obtain ⟨p, q, hA0, hV, rfl, hfz, hnd⟩ := hW
  have hA : DataW.TrodAll enc Try.prog W 0 (fun _ => true) true Try.f4.params.toList args.toList ds p := hA0
  have hAk := hA
  rw [Try.params4] at hA hval
  obtain ⟨v0, vs0, d0, ds0, p0, q0, hargs, rfl, rfl, h0, r0⟩ := trodAll_cons hA
  obtain ⟨v1, vs1, d1, ds1, p1, q1, rfl, rfl, rfl, h1, r1⟩ := trodAll_cons r0
  obtain ⟨rfl, rfl, rfl⟩ := trodAll_nil r1
  obtain rfl : args = #[v0, v1] := by cases args; simp_all
  obtain ⟨rfl, rfl⟩ := trodVars_none hV
  obtain ⟨n0, rfl, rfl, rfl, hn0⟩ := open_int Try.underlying3 (hval 0 3 v0 rfl rfl) h0
  obtain ⟨a1, l1, cap1, rfl, hr1⟩ := rows_arg (hval 1 31 v1 rfl rfl) h1
  clear hA0 hval0
  rw [List.append_nil] at hW'
  exact (lawCls_any n0 a1 cap1 l1 W hr1).mono fun e W' ⟨he, hg⟩ => by
    subst he
    exact ⟨_, rfl, post_true hW' hAk (types_ok (by rw [Try.params4]; decide)) hg (by kernel_rfl) rfl rfl⟩

theorem over : Rows.permsClosureSpecRow.holds Try.pinned (OpenSpec.ofChange Rows.permsClosureSpecSpec) :=
  OpenClaim.holds_of_wide 4 Try.f4 rfl rfl rfl rfl rfl rfl rfl ⟨rfl, rfl, rfl, rfl, rfl⟩ rfl rfl rfl rfl rfl (by kernel_rfl) Try.func4 (by kernel_rfl)
    (of_decide_eq_true (by kernel_rfl)) (by unfold Func.isWrapper; first | (rw [if_pos (by decide +kernel)]; kernel_rfl) | (rw [if_neg (by decide +kernel)]; exact ⟨rfl, rfl⟩))
    (fun os started H enc _ => lifted os started H enc)

/-- The given statement. -/
theorem proved : Rows.PermsClosureSpecSaid :=
  over
end Go.Proofs.Ytobchecnfkocdaa.permsClosureSpec
