/- arePoints: the whole. -/
import Derived.Test.YtjkojjimlebmjaaDoorPts
namespace Go.Proofs.YtjkojjimlebmjaaDoor
open Go.RowKit
set_option linter.unusedVariables false

set_option maxRecDepth 100000 in
theorem contains_any (g b : Nat) (A : Option Addr) (c : Nat) (xs : List UInt8) (w : World) (hB : Bs b w A xs) (hgb : g ≠ b) (hc : w.cell? ⟨g, 0, none⟩ = some (.map (some b))) (hM : MS w b 0 []) (hl : xs.length ≤ 1000000) :
    Calls Tryd.prog 64 #[.slice A xs.length c, .func (.func 63) #[] #[.pointer (some ⟨g, 0, none⟩)]] w fun e w' => e = .returned (.bool (decide (¬ xs.Nodup))) ∧ w.grownBy w' (some b) := by
  have HI := Lib.hid (index_any g b A c xs w hB hgb hc hM hl)
  unfold IdxPost at HI
  clear hB hc hM
  generalize xs.length = n at *
  go_enter Tryd.func64, Tryd.ntmps64
  go_wp2_with fail
  refine HI.out.mono ?_
  rintro e w1 ⟨r, rfl, hr, hg⟩
  go_wp2_with fail
  go_ret
  exact ⟨ret_bool (by simp), hg⟩

set_option maxHeartbeats 400000 in
set_option maxRecDepth 100000 in
theorem points_any (A : Option Addr) (c : Nat) (xs : List UInt8) (A2 : Option Addr) (c2 : Nat) (ys : List UInt8) (w : World) (hS : Sl w A xs c) (hl : xs.length ≤ 1000000) (hl2 : ys.length ≤ 1000000) :
    Calls Tryd.prog 46 #[.slice A xs.length c, .slice A2 ys.length c2] w fun e w' => e = .returned (.bool (decide (xs.length = ys.length ∧ xs.Nodup))) ∧ Below w.heap.size w w' := by
  have hmm := @run_makeMap Tryd.prog
  have hM : ∀ W1 : World, W1 = ((w.alloc (.map #[] 0)).alloc (.cells #[.map (some w.heap.size)] 72)) → Calls Tryd.prog 64 #[.slice A xs.length c, .func (.func 63) #[] #[.pointer (some ⟨w.heap.size + 1, 0, none⟩)]] W1 fun e w' => e = .returned (.bool (decide (¬ xs.Nodup))) ∧ Below w.heap.size w w' := by
    rintro W1 rfl
    have hb0 : Below w.heap.size w ((w.alloc (.map #[] 0)).alloc (.cells #[.map (some w.heap.size)] 72)) := ((Below.refl _ w).alloc (Nat.le_refl _) _).alloc (by simp) _
    have hx := Box.new (w.alloc (.map #[] 0)) #[.map (some w.heap.size)] 72
    rw [World.size_alloc] at hx
    refine (contains_any (w.heap.size + 1) w.heap.size A c xs _ (hS.1.below (Nat.le_refl _) hb0) (by omega) (hx.cell 0) ((MS.new w).kept (World.grownBy_alloc _ _ none) (by simp)) hl).mono ?_
    rintro e w' ⟨he, hg⟩
    exact ⟨he, hb0.grown hg hb0.size (fun k e => by cases e; exact Nat.le_refl _)⟩
  have HM := Lib.hid hM
  clear hM hS
  have hd : decide (xs.length = ys.length ∧ xs.Nodup) = (decide (xs.length = ys.length) && decide xs.Nodup) := by
    by_cases h1 : xs.length = ys.length <;> by_cases h2 : xs.Nodup <;> simp [h1, h2]
  rw [hd]
  clear hd
  have hnn : decide (¬ xs.Nodup) = !decide xs.Nodup := by by_cases h2 : xs.Nodup <;> simp [h2]
  rw [hnn] at HM
  clear hnn
  generalize decide xs.Nodup = nd at *
  generalize xs.length = n at *
  generalize ys.length = m at *
  by_cases h : n = m
  · subst h
    rw [decide_eq_true rfl, Bool.true_and]
    go_enter Tryd.func46, Tryd.ntmps46
    go_wp2_with fail
    refine (HM.out _ rfl).mono ?_
    rintro e w1 ⟨rfl, hb⟩
    go_wp2_with fail
    go_ret
    exact ⟨ret_bool (by simp), hb⟩
  · have hne : ((n : Int) == (m : Int)) = false := by
      rw [beq_eq_false_iff_ne]
      omega
    rw [decide_eq_false h, Bool.false_and]
    go_enter Tryd.func46, Tryd.ntmps46
    go_wp2_with fail
    go_ret
    exact ⟨rfl, ((Below.refl _ w).alloc (Nat.le_refl _) _).alloc (by simp) _⟩
end Go.Proofs.YtjkojjimlebmjaaDoor
