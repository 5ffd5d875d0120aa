/- 'a, b := x, x' of an array: a drawn region of two loads, two new variables, two stores, where the second load may come behind the first store. -/
import Derived.Test.YtdjlblfpkieenaaDoorReg2
import Derived.Deep.RegionHeld3
import Derived.Deep.MidRow
import Derived.Test.YtdjlblfpkieenaaDoorQl
namespace Go.Proofs.YtdjlblfpkieenaaDoor
open Go.RowKit Go.Sort
set_option linter.unusedVariables false

theorem dig_size' {L : List Value} (h : L.length = 32) : (Tryd.prog.info? 26).map (·.size) = some L.length := by
  rw [h]
  exact (DF.of (d := List.replicate 32 0) rfl).info.trans rfl
theorem fin_store' {w w1 : World} {g : Nat} (CR : Array Value) (hb : Below w.heap.size w w1) (hg : w.heap.size ≤ g) : Below w.heap.size w (w1.setRow g CR) := hb.trans (below_grown (setRow_grown w1 g CR) hg hb.size)
theorem region_dup {id : Nat} {a : Act} {w : World} {Q : Exit → Act → World → Prop} {ops : Array Oper} (s0 s1 s2 s3 h0 : Nat) (x : Operand) (L : List Value)
    {o0 o1 o2 o3 o4 o5 : Oper} (A : Value → Value → Act) (hops : ops = #[o0, o1, o2, o3, o4, o5])
    (q0 : o0.op = .load 26 x ∧ o0.dst = some s0 ∧ o0.guard = none) (q1 : o1.op = .load 26 x ∧ o1.dst = some s1 ∧ o1.guard = none)
    (q2 : o2.op = .alloc 26 ∧ o2.dst = some s2 ∧ o2.guard = none) (q3 : o3.op = .alloc 26 ∧ o3.dst = some s3 ∧ o3.guard = none)
    (q4 : o4.op = .store 26 (.tmp s2) (.tmp s0) ∧ o4.dst = none ∧ o4.guard = none) (q5 : o5.op = .store 26 (.tmp s3) (.tmp s1) ∧ o5.dst = none ∧ o5.guard = none)
    (hm : Tryd.prog.follows .mixedOrders = true) (hsel : Region.noSelect ops = true)
    (f0 : Region.free .any ops #[false, false, false, false, false, false] 0 = true ∧ (Region.ready .any ops #[false, false, false, false, false, false]).contains 0 = true)
    (f1 : Region.free .any ops #[true, false, false, false, false, false] 1 = true ∧ (Region.ready .any ops #[true, false, false, false, false, false]).contains 1 = true)
    (r2 : Region.ready .any ops #[true, true, false, false, false, false] = [2, 3]) (r3 : Region.ready .any ops #[true, true, true, false, false, false] = [3]) (r3' : Region.ready .any ops #[true, true, false, true, false, false] = [2])
    (r4 : Region.ready .any ops #[true, true, true, true, false, false] = [4]) (r5 : Region.ready .any ops #[true, true, true, true, true, false] = [5]) (r6 : Region.ready .any ops #[true, true, true, true, true, true] = [])
    (hx0 : a.eval x = .pointer (some ⟨h0, 0, none⟩)) (hx1 : (a.put (some s0) (.agg L.toArray)).eval x = .pointer (some ⟨h0, 0, none⟩)) (hL : L.length = 32) (hone : L.toArray.all (·.oneCell') = true) (hbx : Box w h0 L.toArray 26)
    (hA : ∀ u v, (((a.put (some s0) (.agg L.toArray)).put (some s1) (.agg L.toArray)).put (some s2) u).put (some s3) v = A u v) (hA' : ∀ u v, (((a.put (some s0) (.agg L.toArray)).put (some s1) (.agg L.toArray)).put (some s3) v).put (some s2) u = A u v)
    (e0 : ∀ u v, (A u v).eval (.tmp s0) = .agg L.toArray) (e1 : ∀ u v, (A u v).eval (.tmp s1) = .agg L.toArray) (e2 : ∀ u v, (A u v).eval (.tmp s2) = u) (e3 : ∀ u v, (A u v).eval (.tmp s3) = v) (hn : ∀ u v, (A u v).put none undef = A u v)
    (fin : ∀ g2 g3 W, Below w.heap.size w W → w.heap.size ≤ g2 → w.heap.size ≤ g3 → g2 ≠ g3 → Box W g2 L.toArray 26 → Box W g3 L.toArray 26 → Q .normal (A (.pointer (some ⟨g2, 0, none⟩)) (.pointer (some ⟨g3, 0, none⟩))) W) :
    (Code.region id ops true).wp Tryd.prog Q a w := by
  have hw : ∀ (o : Oper) (T : Nat → Option Bool), o.guard = none → Region.wanted o T = true := fun o T h => by simp [Region.wanted, h]
  have hdz : dz.size = L.toArray.size := by rw [show dz.size = 32 from rfl]; simp [hL]
  have hi := dig_size' hL
  have hi2 : (Tryd.prog.info? 26).map (·.size) = some L.toArray.size := by rw [hi]; simp
  have hsz : ops.size = 6 := by rw [hops]; rfl
  have tail : ∀ g2 g3 W, Below w.heap.size w W → w.heap.size ≤ g2 → w.heap.size ≤ g3 → g2 ≠ g3 → Box W g2 dz 26 → Box W g3 dz 26 →
      wpAnyH Tryd.prog .any ops (NoPanic Q) (fun W => Box W h0 L.toArray 26) 2 #[true, true, true, true, false, false] (A (.pointer (some ⟨g2, 0, none⟩)) (.pointer (some ⟨g3, 0, none⟩))) W := by
    intro g2 g3 W hb h2 h3 hne hx2 hx3
    have hB0 : Box W h0 L.toArray 26 := hbx.below hb
    have h0lt := hbx.lt
    refine wpAnyH_ready (rs := [4]) r4 (by simp) ?_
    refine AllReadyH.cons (o := o4) (by rw [hops]; rfl) (fun K hK => ?_) AllReadyH.nil
    rw [if_pos (hw _ _ q4.2.2)]
    refine wp_store_row _ _ _ q4.1 g2 L.toArray (e2 _ _) (e0 _ _) _ dz hx2 hi2 hdz hone ?_
    rw [q4.2.1, hn]
    refine hK.out _ _ (hB0.grown (setRow_grown _ _ _) (fun e => by injection e with e; omega)) (fun _ => ?_)
    clear hK K
    refine wpAnyH_ready (rs := [5]) r5 (by simp) ?_
    refine AllReadyH.cons (o := o5) (by rw [hops]; rfl) (fun K hK => ?_) AllReadyH.nil
    rw [if_pos (hw _ _ q5.2.2)]
    refine wp_store_row _ _ _ q5.1 g3 L.toArray (e3 _ _) (e1 _ _) _ dz (hx3.grown (setRow_grown _ _ _) (fun e => by injection e with e; omega)) hi2 hdz hone ?_
    rw [q5.2.1, hn]
    refine hK.out _ _ ((hB0.grown (setRow_grown _ _ _) (fun e => by injection e with e; omega)).grown (setRow_grown _ _ _) (fun e => by injection e with e; omega)) (fun _ => ?_)
    refine wpAnyH_done r6 (NoPanic.normal (fin g2 g3 _ (fin_store' _ (fin_store' _ hb h2) h3) h2 h3 hne ((Box.setRow hx2).grown (setRow_grown _ _ _) (fun e => by injection e with e; omega)) (Box.setRow (hx3.grown (setRow_grown _ _ _) (fun e => by injection e with e; omega))))) _
  refine wp_region_noPanic ?_
  refine wp_region_held_drew (S := fun W => Box W h0 L.toArray 26) hm hbx (fun hS => ?_)
  rw [hsz]
  have o0e : ops[0]? = some o0 := by rw [hops]; rfl
  have o1e : ops[1]? = some o1 := by rw [hops]; rfl
  have y0 := yieldsIf_load_mid (P := Tryd.prog) (ops := ops) (S := fun W => Box W h0 L.toArray 26) (op := o0) (a := a) (hw _ _ q0.2.2) _ _ q0.1 h0 0 hx0 L _ (fun W h => Box.range h) Tryd.underlying26 rfl hi
  have y1 := yieldsIf_load_mid (P := Tryd.prog) (ops := ops) (S := fun W => Box W h0 L.toArray 26) (op := o1) (a := a.put (some s0) (.agg L.toArray)) (hw _ _ q1.2.2) _ _ q1.1 h0 0 hx1 L _ (fun W h => Box.range h) Tryd.underlying26 rfl hi
  refine wpAnyH_take (i := 0) o0e hsel f0.1 f0.2 (fun _ _ _ h => h) y0 hS ?_
  rw [q0.2.1]
  refine wpAnyH_take (i := 1) o1e hsel f1.1 f1.2 (fun _ _ _ h => h) y1 hS ?_
  rw [q1.2.1]
  refine wpAnyH_ready (rs := [2, 3]) r2 (by simp) ?_
  have hb0 : Below w.heap.size w w.drew := (Below.refl w.heap.size w).drew
  have hb1 := hb0.alloc (Nat.le_refl _) (.cells dz 26)
  have hb2 := hb1.alloc (by simp) (.cells dz 26)
  have x1 := Box.new w.drew dz 26
  have x1' := x1.alloc (.cells dz 26)
  have x2 := Box.new (w.drew.alloc (.cells dz 26)) dz 26
  have hzs : (w.drew.alloc (.cells dz 26)).heap.size = w.heap.size + 1 := World.size_alloc _ _
  have hz0 : w.drew.heap.size = w.heap.size := rfl
  refine AllReadyH.cons (o := o2) (by rw [hops]; rfl) (fun K hK => ?_) (AllReadyH.cons (o := o3) (by rw [hops]; rfl) (fun K hK => ?_) AllReadyH.nil)
  · rw [if_pos (hw _ _ q2.2.2)]
    refine wp_al q2.1 ?_
    rw [q2.2.1]
    refine hK.out _ _ (hS.alloc _) (fun _ => ?_)
    clear hK K
    refine wpAnyH_ready (rs := [3]) r3 (by simp) ?_
    refine AllReadyH.cons (o := o3) (by rw [hops]; rfl) (fun K hK => ?_) AllReadyH.nil
    rw [if_pos (hw _ _ q3.2.2)]
    refine wp_al q3.1 ?_
    rw [q3.2.1, hA]
    refine hK.out _ _ ((hS.alloc _).alloc _) (fun _ => ?_)
    exact tail _ _ _ hb2 (by omega) (by omega) (by omega) x1' x2
  · rw [if_pos (hw _ _ q3.2.2)]
    refine wp_al q3.1 ?_
    rw [q3.2.1]
    refine hK.out _ _ (hS.alloc _) (fun _ => ?_)
    clear hK K
    refine wpAnyH_ready (rs := [2]) r3' (by simp) ?_
    refine AllReadyH.cons (o := o2) (by rw [hops]; rfl) (fun K hK => ?_) AllReadyH.nil
    rw [if_pos (hw _ _ q2.2.2)]
    refine wp_al q2.1 ?_
    rw [q2.2.1, hA']
    refine hK.out _ _ ((hS.alloc _).alloc _) (fun _ => ?_)
    exact tail _ _ _ hb2 (by omega) (by omega) (by omega) x2 x1'
end Go.Proofs.YtdjlblfpkieenaaDoor
