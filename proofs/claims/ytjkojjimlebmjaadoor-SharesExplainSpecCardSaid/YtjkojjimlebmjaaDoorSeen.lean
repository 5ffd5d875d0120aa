/- A set of bytes: the map that arePoints makes, its closure. -/
import Derived.Maps.OwnSet
import Derived.Maps.Views
import Derived.Test.YtjkojjimlebmjaaDoorSl
import Derived.Test.YtjkojjimlebmjaaDoorMul
namespace Go.Proofs.YtjkojjimlebmjaaDoor
open Go.RowKit
open Go.Maps (Keyed)
set_option linter.unusedVariables false

theorem u8_wf (x : UInt8) : (Lit.int .u8 (x.toNat : Int)).wf = true := by
  have := u8_lt x
  simp [Lit.wf, IntKind.min, IntKind.max, IntKind.signed, IntKind.bits]
  omega
theorem u8_keyed : Keyed Tryd.prog 5 := Maps.int_keyed Tryd.underlying5
theorem u8_key (x : UInt8) : keyOf Tryd.prog 5 (.int .u8 (x.toNat : Int)) = some (.int .u8 (x.toNat : Int)) := Maps.keyOf_int_mk Tryd.underlying5 (u8_wf x)
/-- Block b is a map that says of each byte whether it is in S. -/
def MS (W : World) (b n : Nat) (S : List UInt8) : Prop := ∃ D : DataW Unit, W.ownsMap Tryd.prog 5 (plainElem Tryd.prog 4) b n D ∧ ∀ x : UInt8, D.atKey (.int .u8 (x.toNat : Int)) (.lit (.bool false)) = .lit (.bool (decide (x ∈ S)))
theorem MS.new (W : World) : MS (W.alloc (.map #[] 0)) W.heap.size 0 [] := ⟨_, World.ownsMap_made W _ _ _, fun x => by simp [DataW.atKey]⟩
theorem MS.kept {W W' : World} {b n : Nat} {S : List UInt8} {row : Option Nat} (h : MS W b n S) (hg : W.grownBy W' row) (hne : some b ≠ row) : MS W' b n S := by
  obtain ⟨D, hD, ha⟩ := h
  exact ⟨D, hD.kept hg hne, ha⟩
theorem plainElem_bool_inv {v : Value} {z : DataW Unit × List MemPlace} (h : plainElem Tryd.prog 4 v = some z) : ∃ x, v = .bool x ∧ z = (.lit (.bool x), []) := by
  unfold plainElem at h
  rw [Tryd.underlying4] at h
  cases v <;> simp at h
  exact ⟨_, rfl, h.symm⟩
theorem MS.look {W : World} {b n : Nat} {S : List UInt8} (h : MS W b n S) (x : UInt8) : (Instr.lookup 72 (.map (some b)) (.int .u8 (x.toNat : Int)) false).run Tryd.prog W = .ok (.bool (decide (x ∈ S))) W := by
  obtain ⟨D, hD, ha⟩ := h
  obtain ⟨v, ps, hrun, hv⟩ := hD.lookup u8_keyed Tryd.underlying72 (Tryd.zeroValue4 W) (plainElem_bool Tryd.underlying4 false) (u8_key x)
  obtain ⟨y, rfl, hz⟩ := plainElem_bool_inv hv
  rw [ha x] at hz
  have : decide (x ∈ S) = y := by simpa using (Prod.mk.inj hz).1
  rw [hrun, this]
theorem MS.upd {W : World} {b n : Nat} {S : List UInt8} (h : MS W b n S) (x : UInt8) (hn : n < maxLen) : ∃ W', (Instr.mapUpdate 72 (.map (some b)) (.int .u8 (x.toNat : Int)) (.bool true)).run Tryd.prog W = .ok () W' ∧ MS W' b (n + 1) (x :: S) ∧ W.grownBy W' (some b) := by
  obtain ⟨D, hD, ha⟩ := h
  obtain ⟨W', hrun, ho, hg⟩ := hD.update u8_keyed Tryd.underlying72 hn (u8_key x) (plainElem_bool Tryd.underlying4 true)
  refine ⟨W', hrun, ⟨_, ho, fun y => ?_⟩, hg⟩
  by_cases e : y = x
  · subst e
    rw [Maps.atKey_put_same hD.isMap (by simp [WideAt.IsKeyLit])]
    simp
  · rw [Maps.atKey_put_other (fun e2 => e (by injection e2 with _ e3; exact UInt8.toNat_inj.1 (by omega))), ha y]
    simp [e]

set_option maxHeartbeats 400000 in
set_option maxRecDepth 100000 in
theorem seen_any (g b n : Nat) (S : List UInt8) (x : UInt8) (W : World) (hc : W.cell? ⟨g, 0, none⟩ = some (.map (some b))) (h : MS W b n S) (hn : n < maxLen) :
    Calls Tryd.prog 63 #[bv x, .pointer (some ⟨g, 0, none⟩)] W fun e W' => e = .returned (.bool (decide (x ∈ S))) ∧ ((x ∈ S ∧ W' = W) ∨ (x ∉ S ∧ MS W' b (n + 1) (x :: S) ∧ W.grownBy W' (some b))) := by
  have hl := h.look x
  obtain ⟨W', hu, hms, hg⟩ := h.upd x hn
  have HM := Lib.hid (And.intro hms hg)
  clear h hms hg hn
  unfold bv
  by_cases hx : x ∈ S
  · rw [decide_eq_true hx] at hl ⊢
    go_enter Tryd.func63, Tryd.ntmps63
    go_wp2_with fail
    go_ret
    exact ⟨rfl, .inl ⟨hx, rfl⟩⟩
  · rw [decide_eq_false hx] at hl ⊢
    go_enter Tryd.func63, Tryd.ntmps63
    go_wp2_with fail
    go_ret
    exact ⟨rfl, .inr ⟨hx, HM.out⟩⟩
end Go.Proofs.YtjkojjimlebmjaaDoor
