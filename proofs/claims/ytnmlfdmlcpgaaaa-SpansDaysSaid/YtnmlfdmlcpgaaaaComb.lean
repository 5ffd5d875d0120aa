/- combine: two sets, day by day. -/
import Derived.Test.YtnmlfdmlcpgaaaaSetOf
import Derived.Test.YtnmlfdmlcpgaaaaList
import Derived.Test.YtnmlfdmlcpgaaaaTail
namespace Go.Proofs.Ytnmlfdmlcpgaaaa
open Go.RowKit
set_option linter.unusedVariables false

/-- A condition on two answers, as a function of the program. -/
def Kept (g : Nat) (k : Bool → Bool → Bool) : Prop :=
  (∀ x y w, Calls Try.prog g #[.bool x, .bool y] w fun e w' => e = .returned (.bool (k x y)) ∧ w = w') ∧ ∀ args w, (callFunc g args).run Try.prog w = .ok (.enter g args) w

set_option maxRecDepth 100000 in
theorem union_kept : Kept 30 (fun x y => x || y) := by
  refine ⟨fun x y w => ?_, enters_of Try.func30 (by kernel_rfl) rfl⟩
  cases x <;> cases y <;>
  · go_enter Try.func30, Try.ntmps30
    go_wp2
    go_ret
    exact ⟨rfl, rfl⟩
set_option maxRecDepth 100000 in
theorem meet_kept : Kept 31 (fun x y => x && y) := by
  refine ⟨fun x y w => ?_, enters_of Try.func31 (by kernel_rfl) rfl⟩
  cases x <;> cases y <;>
  · go_enter Try.func31, Try.ntmps31
    go_wp2
    go_ret
    exact ⟨rfl, rfl⟩
set_option maxRecDepth 100000 in
theorem minus_kept : Kept 32 (fun x y => x && !y) := by
  refine ⟨fun x y w => ?_, enters_of Try.func32 (by kernel_rfl) rfl⟩
  cases x <;> cases y <;>
  · go_enter Try.func32, Try.ntmps32
    go_wp2
    go_ret
    exact ⟨rfl, rfl⟩

set_option maxHeartbeats 1000000 in
set_option maxRecDepth 100000 in
theorem combine_any (g : Nat) (k : Bool → Bool → Bool) (hk : Kept g k) (A A' : Option Addr) (c c' : Nat) (l l' : List (Int × Int)) (w : World) (hS : Sl w A l c) (hS' : Sl w A' l' c') (hl : l.length ≤ 1000000) (hl' : l'.length ≤ 1000000) :
    Calls Try.prog 29 #[.slice A l.length c, .slice A' l'.length c', .func (.func g) #[] #[]] w (RowPost (nl (fun d => k (hasB l d) (hasB l' d)) 1024) w) := by
  have hz1 := zero_set
  have hn1 := bcells_ne fun _ => false
  have HI := Lib.hid (fun f => size_set f)
  have HONE := Lib.hid (fun f => bcells_one f)
  have H1 := Lib.hid (fun w h => setOf_any A c l w h hl)
  have H2 := Lib.hid (fun w h => setOf_any A' c' l' w h hl')
  have HS := Lib.hid hS
  have HS' := Lib.hid hS'
  clear hS hS'
  have hZsz := bcells_size fun _ => false
  have HZsz := Lib.hid hZsz
  clear hZsz
  generalize hZ1 : bcells (fun _ => false) = Z1 at *
  have HZ1 := Lib.hid hZ1
  clear hZ1
  go_enter Try.func29, Try.ntmps29
  go_wp2_with fail
  refine (H1.out w HS.out).mono ?_
  rintro e w1 ⟨rfl, hb1⟩
  go_wp2_with fail
  refine (H2.out w1 (HS'.out.up hb1)).mono ?_
  rintro e w2 ⟨rfl, hb2⟩
  have hbw := hb1.trans (hb2.mono hb1.size)
  have HBW := Lib.hid hbw
  clear hb1 hb2 H1 H2 HS HS' hbw
  have HI1 := Lib.hid (HI.out (hasB l))
  have HI2 := Lib.hid (HI.out (hasB l'))
  have HO1 := Lib.hid (HONE.out (hasB l))
  have HO2 := Lib.hid (HONE.out (hasB l'))
  have hne1 := bcells_ne (hasB l)
  have hne2 := bcells_ne (hasB l')
  have HSZ1 := Lib.hid (HZsz.out.trans (bcells_size (hasB l)).symm)
  have HSZ2 := Lib.hid (HZsz.out.trans (bcells_size (hasB l')).symm)
  generalize hC1 : bcells (hasB l) = C1 at *
  generalize hC2 : bcells (hasB l') = C2 at *
  have HC1 := Lib.hid hC1
  have HC2 := Lib.hid hC2
  clear hC1 hC2
  have hx1 := (Box.new w2 Z1 40).alloc (.cells Z1 40)
  have hx2 := Box.new (w2.alloc (.cells Z1 40)) Z1 40
  rw [World.size_alloc] at hx2
  have hx2' := hx2.grown (setRow_grown _ w2.heap.size C1) (by simp)
  have HX := Lib.hid (And.intro hx1 hx2')
  clear hx1 hx2 hx2'
  go_wp2_with (first
    | (refine wpList_store_row rfl 40 (.tmp 7) (.tmp 12) rfl w2.heap.size C1 rfl rfl 40 Z1 HX.out.1 HI1.out HSZ1.out HO1.out ?_)
    | (refine wpList_store_row rfl 40 (.tmp 8) (.tmp 14) rfl (w2.heap.size + 1) C2 rfl rfl 40 Z1 HX.out.2 HI2.out HSZ2.out HO2.out ?_))
  generalize hW0 : World.alloc (World.setRow _ _ C2) _ = W0
  have hx3 := Box.new (((((w2.alloc (.cells Z1 40)).alloc (.cells Z1 40)).setRow w2.heap.size C1).setRow (w2.heap.size + 1) C2)) Z1 40
  have hx1 := (((HX.out.1.setRow (cs' := C1)).grown (setRow_grown _ (w2.heap.size + 1) C2) (by simp)).alloc (.cells Z1 40))
  have hx2 := (HX.out.2.setRow (cs' := C2)).alloc (.cells Z1 40)
  have hsz := HBW.out.size
  have hb0 : Below w.heap.size w W0 := by
    rw [← hW0]
    refine Below.alloc ?_ (by simp; omega) _
    refine Below.trans (Below.trans ((HBW.out.alloc hsz _).alloc (by simp; omega) _) (below_grown (setRow_grown _ w2.heap.size C1) hsz (by simp; omega))) (below_grown (setRow_grown _ (w2.heap.size + 1) C2) (by omega) (by simp; omega))
  simp only [size_setRow, World.size_alloc] at hx3
  rw [hW0] at hx1 hx2 hx3
  have HX0 := Lib.hid (And.intro hx1 (And.intro hx2 (And.intro hx3 hb0)))
  clear hx1 hx2 hx3 hb0 hW0 HX
  have HK := Lib.hid hk.1
  have heg := hk.2
  clear hk
  go_loopw [15] (fun i wr => ∃ d : Nat, d ≤ 1024 ∧ i = .int .i64 d ∧ Box wr w2.heap.size C1 40 ∧ Box wr (w2.heap.size + 1) C2 40 ∧
      Box wr (w2.heap.size + 1 + 1) (bcells fun j => decide (j < d) && k (hasB l j) (hasB l' j)) 40 ∧ Below w.heap.size w wr) (fun i _ => 1024 - (intOf i).toNat)
  case atStart =>
    refine ⟨0, by omega, rfl, HX0.out.1, HX0.out.2.1, ?_, HX0.out.2.2.2⟩
    rw [show (bcells fun j => decide (j < 0) && k (hasB l j) (hasB l' j)) = Z1 by rw [← HZ1.out]; exact bcells_congr fun d _ => by simp]
    exact HX0.out.2.2.1
  case round =>
    clear HX0
    obtain ⟨d, hd, rfl, hx1, hx2, hx3, hbw⟩ := hrel
    have HX1 := Lib.hid hx1
    have HX2 := Lib.hid hx2
    have HX3 := Lib.hid hx3
    clear hx1 hx2 hx3
    by_cases hlt : d < 1024
    · have cp := HX1.out.cell d
      have cq := HX2.out.cell d
      have cr := HX3.out.cell d
      have fr := HX3.out.frozen d
      rw [← HC1.out, show (bcells (hasB l))[d]? = some (.bool (hasB l d)) from arr_get _ _ _ hlt] at cp
      rw [← HC2.out, show (bcells (hasB l'))[d]? = some (.bool (hasB l' d)) from arr_get _ _ _ hlt] at cq
      rw [show (bcells fun j => decide (j < d) && k (hasB l j) (hasB l' j))[d]? = some (.bool (decide (d < d) && k (hasB l d) (hasB l' d))) from arr_get _ _ _ hlt] at cr
      have HE : Hid ((bcells fun j => decide (j < d) && k (hasB l j) (hasB l' j)).setIfInBounds d (.bool (k (hasB l d) (hasB l' d))) = bcells fun j => decide (j < d + 1) && k (hasB l j) (hasB l' j)) := by
        refine Lib.hid ?_
        unfold bcells
        rw [arr_set]
        refine arr_congr fun j _ => ?_
        show (if j = d then Value.bool (k (hasB l d) (hasB l' d)) else .bool (decide (j < d) && k (hasB l j) (hasB l' j))) = Value.bool (decide (j < d + 1) && k (hasB l j) (hasB l' j))
        by_cases e : j = d
        · subst e; simp
        · rw [if_neg e]
          have : decide (j < d + 1) = decide (j < d) := by rw [decide_eq_decide]; omega
          rw [this]
      have b1 : (0 : Int) ≤ (d : Int) ∧ (d : Int) < 1024 := by omega
      generalize hasB l d = X at *
      generalize hasB l' d = Y at *
      go_wp2_with fail
      refine region_tail_drew 10 (by kernel_rfl) (by kernel_rfl) ?_
      simp only [List.take_succ_cons, List.take_zero, List.drop_succ_cons, List.drop_zero]
      repeat (quiet_step ((exact quietL (HK.out _ _ _))))
      refine wpQuiet_nil ?_
      intro _ hw'
      obtain ⟨nq2, rfl⟩ := hw'
      go_wp2_with fail
      go_roundw
      case rel =>
        have k1 : Box (wr.drewN nq2) w2.heap.size C1 40 := HX1.out
        have k2 : Box (wr.drewN nq2) (w2.heap.size + 1) C2 40 := HX2.out
        have k3 : Box (wr.drewN nq2) (w2.heap.size + 1 + 1) (bcells fun j => decide (j < d) && k (hasB l j) (hasB l' j)) 40 := HX3.out
        refine ⟨d + 1, by omega, by go_num, k1.grown (set_grown_at _ (w2.heap.size + 1 + 1) d _) (by simp; omega), k2.grown (set_grown_at _ (w2.heap.size + 1 + 1) d _) (by simp), ?_, (below_drewN hbw nq2).setCell (by simp; omega) _⟩
        have := k3.set (i := d) (v := .bool (k X Y))
        rw [HE.out] at this
        exact this
      case measure => simp [intOf]; omega
    · obtain rfl : d = 1024 := by omega
      have hx3 := HX3.out
      rw [bcells_congr (g := fun j => k (hasB l j) (hasB l' j)) fun j hj => by simp [hj]] at hx3
      have HI3 := Lib.hid (HI.out (fun j => k (hasB l j) (hasB l' j)))
      have HL := Lib.hid (fun w => list_any (fun j => k (hasB l j) (hasB l' j)) w)
      have hne3 := bcells_ne (fun j => k (hasB l j) (hasB l' j))
      generalize bcells (fun j => k (hasB l j) (hasB l' j)) = C3 at *
      have HB3 := Lib.hid hx3
      clear hx3 HX1 HX2 HX3
      go_wp2_with (first
        | (refine wpList_load_row rfl 40 (.tmp 9) rfl (w2.heap.size + 1 + 1) rfl 40 C3 (0, 0) _ HB3.out Try.underlying40 rfl HI3.out ?_))
      refine (HL.out _).mono ?_
      rintro e w5 ⟨A5, c5, rfl, hS5, hb5⟩
      go_wp2_with fail
      go_ret
      exact ⟨A5, c5, rfl, hS5, hbw.trans (hb5.mono hbw.size)⟩
end Go.Proofs.Ytnmlfdmlcpgaaaa
