/- isCut. -/
import Derived.Test.YtojijebmipgeeaaCk2
namespace Go.Proofs.Ytojijebmipgeeaa
open Go.RowKit Go.Sort Go.Lib
set_option linter.unusedVariables false

def enp (x : Int × Int) : List Value := [.int .i64 x.1, .int .i64 x.2]
theorem enp_len (x : Int × Int) : (enp x).length = 2 := rfl
theorem enp_one (x : Int × Int) : ∀ v ∈ enp x, v.oneCell' = true := by
  intro v hv
  simp only [enp, List.mem_cons, List.not_mem_nil, or_false] at hv
  rcases hv with rfl | rfl <;> rfl
theorem eq_pairs : EqlAt Try.prog 55 (fun x => .agg (enp x).toArray) (fun x y => x == y) := by
  refine ⟨fun x y w => ?_, GuardAt.agg _ (by kernel_rfl)⟩
  obtain ⟨x1, x2⟩ := x
  obtain ⟨y1, y2⟩ := y
  exact eql_pair w x1 x2 y1 y2
theorem enp_at {l : List (Int × Int)} {j i : Nat} {v : Value} (hj : j < l.length) (hi : (enp l[j]!)[i]? = some v) : (prc l)[j * 2 + i]? = some v := by
  have hg : l[j]? = some l[j] := List.getElem?_eq_getElem hj
  have hb : l[j]! = l[j] := by simp [hj]
  obtain ⟨h0, h1⟩ := prc_at hg
  rw [hb] at hi
  match i, hi with
  | 0, hi => cases hi; exact h0
  | 1, hi => cases hi; exact h1
  | i + 2, hi => cases hi
theorem contains_some (b off c : Nat) (l : List (Int × Int)) (x : Int × Int) (w : World) (hl : l.length ≤ 9223372036854775807) (hS : PP w (some ⟨b, off, none⟩) l c) (h0 : 0 < l.length) :
    Calls Try.prog 53 #[.slice (some ⟨b, off, none⟩) l.length c, prv x] w (BoolPost (l.any (fun y => x == y)) w) := by
  have hcon := AnyQ.slices_Contains lays53 2 Try.isAgg55 Try.sizeOf55 enp enp_len (fun x y => x == y) eq_pairs b off l.length c l x w (Nat.le_refl _) hl (fun j hj i v hi => by
    obtain ⟨b', off', e, _, hc⟩ := hS.1 h0
    cases e
    rw [Nat.add_assoc]
    exact hc _ _ (enp_at hj hi))
  rw [List.take_of_length_le (Nat.le_refl _)] at hcon
  exact hcon
theorem contains_none (A : Option Addr) (c : Nat) (x : Int × Int) (w : World) :
    Calls Try.prog 53 #[.slice A 0 c, prv x] w (BoolPost false w) := by
  unfold prv BoolPost
  go_enter Try.func53, Try.ntmps53
  go_wp2
  refine wp_loop_rounds 1 ?_
  rw [rounds_succ]
  go_wp2
  go_ret
  exact ⟨rfl, ((Below.refl _ w).alloc (Nat.le_refl _) _).alloc (by simp) _⟩
theorem contains_any (A : Option Addr) (c : Nat) (l : List (Int × Int)) (x : Int × Int) (w : World) (hS : PP w A l c) :
    Calls Try.prog 53 #[.slice A l.length c, prv x] w (BoolPost (l.any (fun y => x == y)) w) := by
  have hl : l.length ≤ 9223372036854775807 := by
    have := Nat.le_trans hS.2.1 hS.2.2.1
    unfold maxLen at this
    omega
  by_cases h0 : 0 < l.length
  · obtain ⟨b, off, rfl, _⟩ := hS.1 h0
    exact contains_some b off c l x w hl hS h0
  · have : l = [] := List.eq_nil_of_length_eq_zero (by omega)
    subst this
    exact contains_none A c x w

set_option maxHeartbeats 2000000 in
theorem isCut_any (n : Nt) (A B D : Option Addr) (c k d : Nat) (p : Pk) (w : World) (hS : NtIn w n A c B k) :
    Calls Try.prog 42 #[ntv n A c B k, pkv p D d] w (BoolPost (cutd n p) w) := by
  have hb0 := ((Below.refl w.heap.size w).alloc (Nat.le_refl _) (.cells (ntc n A c B k) 25)).alloc (by simp) (.cells (pkc p D d) 28)
  have hX := (NBox.up (show NBox (w.alloc (.cells (ntc n A c B k) 25)) w.heap.size n A c B k from Box.new w _ _) ((Below.refl _ _).alloc (Nat.le_refl _) (.cells (pkc p D d) 28))).cells.2
  have hY := Box.new (w.alloc (.cells (ntc n A c B k) 25)) (pkc p D d) 28
  rw [World.size_alloc] at hY
  have y0 := hY.cell 0
  have y1 := hY.cell 1
  have hcd : cutd n p = n.ap.any (fun y => btw p.fr p.to == y) := rfl
  have HC := Lib.hid (fun W (hb : Below w.heap.size w W) => contains_any B k n.ap (btw p.fr p.to) W (hS.2.up hb))
  have HBT := Lib.hid (fun W => between_any p.fr p.to W)
  have HB := Lib.hid hb0
  rw [← hcd] at HC
  unfold BoolPost at *
  unfold ntv ntc pkv pkc at *
  simp only [List.getElem?_toArray, List.getElem?_cons_zero, List.getElem?_cons_succ] at y0 y1
  clear hS hb0 hY hcd
  generalize n.q.length = N at *
  generalize n.ap.length = M at *
  generalize p.fr = a at *
  generalize p.to = b at *
  generalize p.da.length = m at *
  generalize btw a b = x at *
  generalize cutd n p = r at *
  unfold prv at *
  go_enter Try.func42, Try.ntmps42
  go_wp2_with fail
  generalize World.alloc _ _ = W at *
  have HQ := Lib.hid (show W.drew.cell? ⟨w.heap.size, 1, none⟩ = some (.slice B M k) ∧ W.drew.cell? ⟨w.heap.size + 1, 0, none⟩ = some (.int .i64 a) ∧ W.drew.cell? ⟨w.heap.size + 1, 1, none⟩ = some (.int .i64 b) from ⟨hX, y0, y1⟩)
  have HL := Lib.hid (And.intro (World.block_lt_of_cell? _ _ hX) (World.block_lt_of_cell? _ _ y0))
  have HK := Lib.hid (fun os => show (grow W.drew os).cell? ⟨w.heap.size, 1, none⟩ = some (.slice B M k) ∧ (grow W.drew os).cell? ⟨w.heap.size + 1, 0, none⟩ = some (.int .i64 a) ∧ (grow W.drew os).cell? ⟨w.heap.size + 1, 1, none⟩ = some (.int .i64 b) from
    ⟨((below_grow W.drew os).cell (p := ⟨w.heap.size, 1, none⟩) HL.out.1).trans hX, ((below_grow W.drew os).cell (p := ⟨w.heap.size + 1, 0, none⟩) HL.out.2).trans y0, ((below_grow W.drew os).cell (p := ⟨w.heap.size + 1, 1, none⟩) HL.out.2).trans y1⟩)
  have HBG := Lib.hid (fun os => HB.out.trans (((Below.refl _ W).drew.trans (below_grow W.drew os)).mono HB.out.size))
  have HKB := Lib.hid (fun os w1 (hb : Below (grow W.drew os).heap.size (grow W.drew os) w1) => show w1.cell? ⟨w.heap.size, 1, none⟩ = some (.slice B M k) ∧ w1.cell? ⟨w.heap.size + 1, 0, none⟩ = some (.int .i64 a) ∧ w1.cell? ⟨w.heap.size + 1, 1, none⟩ = some (.int .i64 b) from
    ⟨(hb.cell (p := ⟨w.heap.size, 1, none⟩) (World.block_lt_of_cell? _ _ (HK.out os).1)).trans (HK.out os).1, (hb.cell (p := ⟨w.heap.size + 1, 0, none⟩) (World.block_lt_of_cell? _ _ (HK.out os).2.1)).trans (HK.out os).2.1, (hb.cell (p := ⟨w.heap.size + 1, 1, none⟩) (World.block_lt_of_cell? _ _ (HK.out os).2.2)).trans (HK.out os).2.2⟩)
  clear hX y0 y1
  go_region_held3 (fun w' => w'.cell? ⟨w.heap.size, 1, none⟩ = some (.slice B M k) ∧ w'.cell? ⟨w.heap.size + 1, 0, none⟩ = some (.int .i64 a) ∧ w'.cell? ⟨w.heap.size + 1, 1, none⟩ = some (.int .i64 b))
    (with_reducible first | exact HQ.out | exact HK.out _ | exact HKB.out _ _ B2.out)
    (first
      | (go_at_call 35; ((with_reducible refine (HBT.out _).mono ?_); rintro e w1 ⟨rfl, os, rfl⟩))
      | (go_at_call 53; ((with_reducible refine (HC.out _ (HBG.out _)).mono ?_); rintro e w2 ⟨rfl, hb2⟩; have B2 := Lib.hid hb2; clear hb2))
      | fail)
  go_wp2_with fail
  go_ret
  exact ⟨rfl, (HBG.out os).trans (B2.out.mono (HBG.out os).size)⟩
end Go.Proofs.Ytojijebmipgeeaa
