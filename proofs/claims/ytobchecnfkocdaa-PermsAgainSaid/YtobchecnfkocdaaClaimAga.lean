/-
  The given statement PermsAgain: for every input gridwrightlaw11.PermsAgain returns true, and what its arguments reach reads afterwards as it read before.
  CONDITIONS: those of the given row alone (its cells 'loops', 'recurses', 'unfollowed').
-/
import Derived.Test.YtobchecnfkocdaaRow
import Derived.SizedLaws
import Derived.Test.YtobchecnfkocdaaLawAgw
namespace Go.Proofs.Ytobchecnfkocdaa.permsAgain
open Go.ChangeShapes Go.WideShapes Go.ChangeAt Go.RowKit
set_option linter.unusedVariables false

theorem bytes_int : Try.prog.bytesOf 3 = 8 := by kernel_rfl
theorem ints_arg_sz {H : Type} {enc : TypeId × Value → H} {W : World} {r : Reach} {base : Nat} {v : Value} {d : DataW H} {p : List MemPlace} (hv : Value.okWide Try.prog W r base 22 v) (h : DataW.Trod enc Try.prog W 0 (fun _ => true) true 22 v d p) :
    ∃ (A : Option Addr) (l : List Int) (c : Nat), v = .slice A l.length c ∧ Si W A l c ∧ (l.length = 0 ∨ ∃ elems spare, d = .slice elems spare ∧ elems.length = l.length) := by
  obtain ⟨A, l, c, rfl, hs⟩ := ints_arg hv h
  refine ⟨A, l, c, rfl, hs, ?_⟩
  obtain ⟨fuel, hf⟩ := h
  rcases DataW.trod_slice Try.underlying22 hf with ⟨hcs, _⟩ | ⟨a, len, cap, elems, rest, n, _, hcs, hx, _, hl, hm, hlen, _⟩
  · injection hcs with hcs _
    injection hcs with _ h1 _
    exact .inl h1
  · injection hcs with hcs _
    injection hcs with _ h1 _
    injection hx with hx1 _
    exact .inr ⟨_, _, hx1, by rw [List.length_map]; omega⟩

set_option maxRecDepth 100000 in
theorem lifted (os : Os) (started : os.Started) (H : Type) (enc : TypeId × Value → H) :
    ReturnsInHanded {} Try.checked os 8 .any (Rows.permsAgainSpec.pre6 enc Try.prog Try.f8 Rows.permsAgainRow.domain false) (Rows.permsAgainSpec.post enc Try.prog Try.f8 false true false false) := by
  refine returnsInHanded_of_change_sized (C := Try.checked) own_knob started (by kernel_rfl) Try.func8
    (ChangeSpec.witness6 (enc := enc) (C := Try.checked) false ⟨#[], #[.int .i64 0, .slice none 0 0, .slice none 0 0], []⟩ 8 (by kernel_rfl) (by kernel_rfl) (by kernel_rfl) (by kernel_rfl)) ?_
  intro W base args ds gs before hval0 hW hcnd hsz _
  have hval : ∀ (j : Nat) t v, Try.f8.params[j]? = some t → args[j]? = some v → Value.okWide Try.prog W .any base t v := hval0
  have hW' := hW
  obtain ⟨p, q, hA0, hV, rfl, hfz, hnd⟩ := hW
  have hA : DataW.TrodAll enc Try.prog W 0 (fun _ => true) true Try.f8.params.toList args.toList ds p := hA0
  have hAk := hA
  rw [Try.params8] at hA hval
  obtain ⟨v0, vs0, d0, ds0, p0, q0, hargs, rfl, rfl, h0, r0⟩ := trodAll_cons hA
  obtain ⟨v1, vs1, d1, ds1, p1, q1, rfl, rfl, rfl, h1, r1⟩ := trodAll_cons r0
  obtain ⟨v2, vs2, d2, ds2, p2, q2, rfl, rfl, rfl, h2, r2⟩ := trodAll_cons r1
  obtain ⟨rfl, rfl, rfl⟩ := trodAll_nil r2
  obtain rfl : args = #[v0, v1, v2] := by cases args; simp_all
  obtain ⟨rfl, rfl⟩ := trodVars_none hV
  obtain ⟨n0, rfl, rfl, rfl, hn0⟩ := open_int Try.underlying3 (hval 0 3 v0 rfl rfl) h0
  obtain ⟨a1, l1, cap1, rfl, hr1⟩ := rows_arg (hval 1 31 v1 rfl rfl) h1
  obtain ⟨a2, l2, cap2, rfl, hr2, hd2⟩ := ints_arg_sz (hval 2 22 v2 rfl rfl) h2
  have hq44 : l2.length ≤ 17592186044416 := by
    rcases hd2 with h | ⟨elems, spare, he, hlen⟩
    · omega
    · have := sized_slice hsz (j := 2) (t := 22) (e := 3) (elems := elems) (spare := spare) rfl (by rw [he]; rfl) Try.underlying22
      rw [show Try.checked.prog.bytesOf 3 = 8 from bytes_int] at this
      unfold reachBytes at this
      omega
  clear hA0 hval0
  rw [List.append_nil] at hW'
  exact (lawAga_any n0 a1 cap1 l1 a2 cap2 l2 W hr1 hr2 hq44).mono fun e W' ⟨he, hg⟩ => by
    subst he
    exact ⟨_, rfl, post_true hW' hAk (types_ok (by rw [Try.params8]; decide)) hg (by kernel_rfl) rfl rfl⟩

theorem over : Rows.permsAgainRow.holds Try.pinned (OpenSpec.ofChange Rows.permsAgainSpec) :=
  OpenClaim.holds_of_wide 8 Try.f8 rfl rfl rfl rfl rfl rfl rfl ⟨rfl, rfl, rfl, rfl, rfl⟩ rfl rfl rfl rfl rfl (by kernel_rfl) Try.func8 (by kernel_rfl)
    (of_decide_eq_true (by kernel_rfl)) (by unfold Func.isWrapper; first | (rw [if_pos (by decide +kernel)]; kernel_rfl) | (rw [if_neg (by decide +kernel)]; exact ⟨rfl, rfl⟩))
    (fun os started H enc _ => lifted os started H enc)

/-- The given statement. -/
theorem proved : Rows.PermsAgainSaid :=
  over
end Go.Proofs.Ytobchecnfkocdaa.permsAgain
