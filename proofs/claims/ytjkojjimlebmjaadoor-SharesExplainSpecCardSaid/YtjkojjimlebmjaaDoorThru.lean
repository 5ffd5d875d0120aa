/- Through. -/
import Derived.Test.YtjkojjimlebmjaaDoorCoef
namespace Go.Proofs.YtjkojjimlebmjaaDoor
open Go.RowKit
set_option linter.unusedVariables false

theorem co_length (xs ys : List UInt8) : (co xs ys).length ≤ xs.length := by
  unfold co
  split
  · rw [lk_length]; exact Nat.le_refl _
  · simp
theorem Sl.of_own' {B c n : Nat} {w : World} {A : Option Addr} {l : List UInt8} (h : w.ownsRow B 5 1 (.slice A n c) n (l.map bv)) (hn : n = l.length) : Sl w A l c := by
  subst hn
  have h2 := Bs.of_own h
  refine ⟨h2.1, h2.2.1, h2.2.2, fun hA => ?_⟩
  subst hA
  rcases h.2 with ⟨hv, h0⟩ | ⟨g, cap, cur, hv, _⟩
  · injection hv with _ hl hc
    exact ⟨List.eq_nil_of_length_eq_zero h0, hc⟩
  · injection hv with hv
    cases hv

set_option maxHeartbeats 1000000 in
set_option maxRecDepth 100000 in
theorem thru_any (A : Option Addr) (c : Nat) (xs : List UInt8) (A2 : Option Addr) (c2 : Nat) (ys : List UInt8) (x : UInt8) (w : World) (hK : KT w) (hS : Sl w A xs c) (hS2 : Sl w A2 ys c2) (hl : xs.length ≤ 1000) (hl2 : ys.length ≤ 1000) :
    Calls Tryd.prog 30 #[.slice A xs.length c, .slice A2 ys.length c2, bv x] w fun e w' => e = .returned (.tuple #[bv (hv (co xs ys) x), .int .i64 (coe xs ys)]) ∧ Below w.heap.size w w' := by
  have HC := Lib.hid (coef_any A c xs A2 c2 ys w hK hS hS2 hl hl2)
  have hcl := co_length xs ys
  have hc0 : coe xs ys = 0 ∨ (coe xs ys = 1 ∧ co xs ys = []) := by
    unfold coe co
    split
    · exact .inl rfl
    · exact .inr ⟨rfl, rfl⟩
  unfold CoPost at HC
  have HK := Lib.hid hK
  clear hK hS hS2
  have hlc : (co xs ys).length ≤ 1000 := Nat.le_trans hcl hl
  clear hcl
  generalize xs.length = n at *
  generalize ys.length = m at *
  generalize hCO : co xs ys = CO at *
  generalize coe xs ys = E at *
  go_enter Tryd.func30, Tryd.ntmps30
  go_wp2_with fail
  refine HC.out.mono ?_
  rintro e w1 ⟨A3, c3, rfl, ho, hb⟩
  rcases hc0 with rfl | ⟨rfl, rfl⟩
  · have hs := Sl.of_own' ho rfl
    have HE := Lib.hid (eval_any A3 c3 CO x w1 (HK.out.below hb) hs (by omega))
    clear hs ho
    generalize CO.length = k at *
    go_wp2_with fail
    refine HE.out.mono ?_
    rintro e w2 ⟨rfl, hb2⟩
    go_wp2_with fail
    go_ret2
    exact ⟨rfl, hb.trans (hb2.mono hb.size)⟩
  · go_wp2_with fail
    go_ret2
    exact ⟨rfl, hb⟩
end Go.Proofs.YtjkojjimlebmjaaDoor
