/- sameNumbers; what Check asks, in plain words. -/
import Derived.Test.YtjkojjimlebmjaaDoorSp1
namespace Go.Proofs.YtjkojjimlebmjaaDoor
open Go.RowKit
set_option linter.unusedVariables false

/-- The same numbers. -/
def same1 (s o : Shr) : Bool := decide (s.th = o.th ∧ s.mn = o.mn ∧ s.data.length = o.data.length)
/-- Shares that go on behind an index, alike with o. -/
def alkFrom (o : Shr) : Int → List Shr → Bool
  | _, [] => true
  | b, s :: l => same1 s o && decide (b < s.ix) && decide (s.ix ≤ s.mn) && alkFrom o s.ix l
def alk : List Shr → Bool
  | [] => false
  | s :: l => decide (1 ≤ s.th ∧ s.th ≤ s.mn ∧ s.mn ≤ 8) && decide (s.data.length ≤ 64) && alkFrom s 0 (s :: l)
def onee : List Shr → Bool
  | [] => false
  | s :: l => (s :: l).all (fun u => decide (u.ep = s.ep)) && decide (0 ≤ s.ep ∧ s.ep ≤ 1048576)
def chk (l : List Shr) : Int := if alk l = false then 60 else if onee l = false then 61 else 0

set_option maxHeartbeats 1000000 in
set_option maxRecDepth 100000 in
theorem sn_any (s o : Shr) (A1 A2 : Option Addr) (c1 c2 : Nat) (w : World) (h1 : s.data.length ≤ maxLen) (h2 : o.data.length ≤ maxLen) : Calls Tryd.prog 62 #[shv s A1 c1, shv o A2 c2] w fun e w' => e = .returned (.bool (same1 s o)) ∧ Below w.heap.size w w' := by
  have hb0 : Below w.heap.size w ((w.alloc (.cells #[.int .i64 s.ep, .int .i64 s.ix, .int .i64 s.th, .int .i64 s.mn, .slice A1 s.data.length c1] 36)).alloc (.cells #[.int .i64 o.ep, .int .i64 o.ix, .int .i64 o.th, .int .i64 o.mn, .slice A2 o.data.length c2] 36)) :=
    ((Below.refl _ w).alloc (Nat.le_refl _) _).alloc (by simp) _
  have HB := Lib.hid hb0
  clear hb0
  unfold shv same1
  obtain ⟨e1, x1, t1, m1, d1⟩ := s
  obtain ⟨e2, x2, t2, m2, d2⟩ := o
  simp only at *
  generalize d1.length = n1 at *
  generalize d2.length = n2 at *
  by_cases q1 : t1 = t2
  · by_cases q2 : m1 = m2
    · by_cases q3 : n1 = n2
      · rw [decide_eq_true ⟨q1, q2, q3⟩]
        subst q1 q2 q3
        go_enter Tryd.func62, Tryd.ntmps62
        go_wp2_with fail
        go_ret
        exact ⟨rfl, HB.out⟩
      · rw [decide_eq_false (fun h => q3 h.2.2)]
        subst q1 q2
        have hd : ((n1 : Int) == (n2 : Int)) = false := by simp; omega
        go_enter Tryd.func62, Tryd.ntmps62
        go_wp2_with fail
        go_ret
        exact ⟨rfl, HB.out⟩
    · rw [decide_eq_false (fun h => q2 h.2.1)]
      subst q1
      have hd : (m1 == m2) = false := by simp; omega
      go_enter Tryd.func62, Tryd.ntmps62
      go_wp2_with fail
      go_ret
      exact ⟨rfl, HB.out⟩
  · rw [decide_eq_false (fun h => q1 h.1)]
    have hd : (t1 == t2) = false := by simp; omega
    go_enter Tryd.func62, Tryd.ntmps62
    go_wp2_with fail
    go_ret
    exact ⟨rfl, HB.out⟩
end Go.Proofs.YtjkojjimlebmjaaDoor
