/- Digests that have been read. -/
import Derived.Test.YtdjlblfpkieenaaDoorRow
namespace Go.Proofs.YtdjlblfpkieenaaDoor
open Go.ChangeShapes Go.WideShapes Go.ChangeAt Go.RowKit Go.WideElems Go.Deep
set_option linter.unusedVariables false

theorem cells_dig : Tryd.prog.cellsOf 26 = 32 := by kernel_rfl
section
variable {H : Type} {enc : TypeId × Value → H}
theorem dig_arg {W : World} {r : Reach} {base : Nat} {v : Value} {d : DataW H} {p : List MemPlace} (hv : Value.okWide Tryd.prog W r base 26 v) (h : DataW.Trod enc Tryd.prog W 0 (fun _ => true) true 26 v d p) :
    ∃ l : List UInt8, l.length = 32 ∧ v = .agg (dcells l) := by
  obtain ⟨cs, rfl⟩ : ∃ cs : Array Value, v = .agg cs := by
    simp only [Value.okWide, Tryd.underlying26] at hv
    obtain ⟨cs, h1, _⟩ := hv
    exact ⟨cs, h1⟩
  obtain ⟨fuel, hf⟩ := h
  obtain ⟨xs, m, _, _, hlen, hl, hel⟩ := DataW.trod_array Tryd.underlying26 hf
  obtain ⟨cl⟩ := cs
  simp only [Value.cells] at hlen hel
  rw [cells_dig] at hlen
  have hex : ∀ i : Nat, ∃ u : UInt8, i < 32 → cl[i]? = some (bv u) := by
    intro i
    by_cases hi : i < 32
    · have hE := hel i hi
      rw [cells_u8, Nat.mul_one, List.getElem?_eq_getElem (by omega)] at hE
      obtain ⟨z, e1, e2, hw⟩ := DataW.trod_int Tryd.underlying5 hE
      have hm : 0 ≤ z ∧ z ≤ 255 := by simpa [Lit.wf, IntKind.min, IntKind.max, IntKind.signed, IntKind.bits] using hw
      refine ⟨UInt8.ofNat z.toNat, fun _ => ?_⟩
      have hbv : bv (UInt8.ofNat z.toNat) = .int .u8 z := by
        unfold bv
        congr 1
        rw [UInt8.toNat_ofNat']
        omega
      rw [hbv]
      have h0 : ((cl.drop i).take 1)[0]? = some (.int .u8 z) := by rw [e1]; rfl
      simpa using h0
    · exact ⟨0, fun h => absurd h hi⟩
  obtain ⟨F, hF⟩ : ∃ F : Nat → UInt8, ∀ i, i < 32 → cl[i]? = some (bv (F i)) := ⟨fun i => Classical.choose (hex i), fun i => Classical.choose_spec (hex i)⟩
  refine ⟨(List.range 32).map F, by simp, ?_⟩
  congr 1
  apply Array.ext_getElem?
  intro i
  by_cases hi : i < 32
  · have := hF i hi
    simp only [dcells, List.getElem?_toArray, List.getElem?_map, List.getElem?_range hi]
    simpa using this
  · rw [Array.getElem?_eq_none (by simp; omega), Array.getElem?_eq_none (by simp [dcells]; omega)]
end
end Go.Proofs.YtdjlblfpkieenaaDoor
