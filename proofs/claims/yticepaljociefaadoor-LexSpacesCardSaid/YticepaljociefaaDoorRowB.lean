/- Bytes that have been read. -/
import Derived.Test.YticepaljociefaaDoorRowT
import Derived.Test.YticepaljociefaaDoorSl
namespace Go.Proofs.YticepaljociefaaDoor
open Go.ChangeShapes Go.WideShapes Go.ChangeAt Go.RowKit Go.WideElems Go.Deep Go.Joins
set_option linter.unusedVariables false
section
variable {H : Type} {enc : TypeId × Value → H}
theorem bytes_of {W : World} {fuel : Nat} {v : Value} {x : DataW H × List MemPlace} (h : DataW.trod enc Tryd.prog W 0 (fun _ => true) true fuel 39 [v] = some x) : ∃ A l c, v = .slice A l.length c ∧ Sl W A l c := by
  obtain ⟨A, l, c, rfl, h1, h2, h3, h4⟩ := elems_of (α := UInt8) Tryd.underlying39 cells_u8 (by decide) (fun W b off y => W.cell? ⟨b, off, none⟩ = some (bv y)) (fun fuel cs x hl ht => by
    obtain ⟨m, rfl, _, hw⟩ := DataW.trod_int Tryd.underlying5 ht
    have hm : 0 ≤ m ∧ m ≤ 255 := by simpa [Lit.wf, IntKind.min, IntKind.max, IntKind.signed, IntKind.bits] using hw
    have hbv : bv (UInt8.ofNat m.toNat) = .int .u8 m := by
      unfold bv
      congr 1
      rw [UInt8.toNat_ofNat']
      omega
    exact ⟨UInt8.ofNat m.toNat, fun b off hc => by rw [hbv]; exact hc 0 _ rfl⟩) h
  refine ⟨A, l, c, rfl, fun hp => ?_, h2, h3, h4⟩
  obtain ⟨b, off, e, hb, hat⟩ := h1 hp
  exact ⟨b, off, e, hb, fun j u hu => by have := hat j u hu; rw [Nat.mul_one] at this; exact this⟩
theorem bytes_arg {W : World} {r : Reach} {base : Nat} {v : Value} {d : DataW H} {p : List MemPlace} (hv : Value.okWide Tryd.prog W r base 39 v) (h : DataW.Trod enc Tryd.prog W 0 (fun _ => true) true 39 v d p) :
    ∃ A l c, v = .slice A l.length c ∧ Sl W A l c := by
  obtain ⟨a0, len0, cap0, rfl⟩ := okWide_slice Tryd.underlying39 hv
  obtain ⟨fuel, hf⟩ := h
  exact bytes_of hf
end
end Go.Proofs.YticepaljociefaaDoor
