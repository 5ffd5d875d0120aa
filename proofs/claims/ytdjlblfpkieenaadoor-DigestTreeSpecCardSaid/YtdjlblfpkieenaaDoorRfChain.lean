/- The reference's Chain. -/
import Derived.Test.YtdjlblfpkieenaaDoorRfTag
import Derived.Test.YtdjlblfpkieenaaDoorTab
namespace Go.Proofs.YtdjlblfpkieenaaDoor
open Go.RowKit Go.Sort
set_option linter.unusedVariables false

theorem run_sl32 (g : Nat) (w : World) : (Instr.sliceAt 26 (.pointer (some ⟨g, 0, none⟩)) none none none).run Tryd.prog w = .ok (.slice (some ⟨g, 0, none⟩) 32 32) w := by kernel_rfl
section
variable {frame : (Nat → Value) → Act} {W0 : World} {T : List Lf} {eats : Nat → Nat → Bool} {l : List Oper} {n : Nat} {Q : Exit → Act → World → Prop}
/-- The slice of a whole variable. -/
theorem st_sl {o : Oper} {i : Nat} (x : Operand) (g : Nat) (hT : T.getD i .any = .val (.slice (some ⟨g, 0, none⟩) 32 32)) (hgd : o.guard = none) (ho : o.op = .slice 26 x none none none)
    (hx : ∀ vs, (frame vs).eval x = .pointer (some ⟨g, 0, none⟩)) (hp : ∀ vs v, (frame vs).put o.dst v = frame (upd vs i v)) : StepT frame W0 T eats l n Q o i := by
  constructor
  intro vs W hC hd
  refine ⟨wants hgd, fun K hK => ?_⟩
  unfold Oper.wp execOp
  simp only [ho, Sem.run_bind, Sem.run_pure, Result.andThen_ok, hx vs, Option.map_none, run_sl32]
  exact hK _ _ (left_val _ hT (hp vs _) (Below.refl _ _) hC)
end

set_option maxHeartbeats 1000000 in
set_option maxRecDepth 100000 in
theorem refChain_any (d1 d2 : List UInt8) (w : World) (hd1 : d1.length = 32) (hd2 : d2.length = 32) :
    Calls Tryd.prog 26 #[.agg (dcells d1), .agg (dcells d2)] w (DigPost (tg [99, 104, 97, 105, 110] (d1 ++ d2)) w) := by
  have hb1 := (((Below.refl w.heap.size w).alloc (Nat.le_refl _) (.cells (dcells d1) 26)).alloc (by simp) (.cells (dcells d2) 26)).alloc (by simp; omega) (.cells dz 26)
  have hx1 := ((Box.new w (dcells d1) 26).alloc (.cells (dcells d2) 26)).alloc (.cells dz 26)
  have hx2 := (Box.new (w.alloc (.cells (dcells d1) 26)) (dcells d2) 26).alloc (.cells dz 26)
  have hz := Box.new ((w.alloc (.cells (dcells d1) 26)).alloc (.cells (dcells d2) 26)) dz 26
  simp only [World.size_alloc] at hz hx2
  have hs1 := Sl.of_box hx1 hd1
  have hs2 := Sl.of_box hx2 hd2
  have HB := Lib.hid hb1
  have HS1 := Lib.hid hs1
  have HS2' := Lib.hid hs2
  have HZ := Lib.hid hz
  have HL1 := Lib.hid hd1
  have HL2 := Lib.hid hd2
  have hz1 : (dcells d1).size = 32 := by simp [dcells, hd1]
  have hz2 : (dcells d2).size = 32 := by simp [dcells, hd2]
  clear hb1 hx1 hx2 hz hs1 hs2 hd1 hd2
  generalize dcells d1 = C1 at *
  generalize dcells d2 = C2 at *
  go_enter Tryd.func26, Tryd.ntmps26
  go_wp2_with fail
  generalize hW : World.alloc (World.alloc (World.alloc w _) _) _ = W
  have hbw : Below w.heap.size w W := by rw [← hW]; exact HB.out
  have HS2 : Hid (Sl W (some ⟨w.heap.size, 0, none⟩) d1 32) := by rw [← hW]; exact HS1.out
  have HS3 : Hid (Sl W (some ⟨w.heap.size + 1, 0, none⟩) d2 32) := by rw [← hW]; exact HS2'.out
  have HZW : Hid (Box W (w.heap.size + 1 + 1) dz 26) := by rw [← hW]; exact HZ.out
  clear hW HB HS1 HS2' HZ
  have hh4 : w.heap.size ≤ w.heap.size + 1 + 1 := by omega
  generalize hh : w.heap.size + 1 + 1 = h4 at *
  clear hh
  generalize w.heap.size + 1 = h3 at *
  have HBW := Lib.hid hbw
  generalize hB : w.heap.size = h2 at *
  clear hbw
  have hlen : (d1 ++ d2).length = 64 := by rw [List.length_append, HL1.out, HL2.out]
  have HLEN := Lib.hid hlen
  have hTG : ∀ W' A4 c4, Below W.heap.size W W' → W'.ownsRow W.heap.size 5 1 (.slice A4 64 c4) 64 (([] ++ d1.map bv) ++ d2.map bv) → Calls Tryd.prog 15 #[.string ⟨#[99, 104, 97, 105, 110]⟩, .slice A4 64 c4] W' (DigPost (tg [99, 104, 97, 105, 110] (d1 ++ d2)) W') := fun W' A4 c4 hb ho => by
    have hs := Sl.of_own (B := W.heap.size) (A := A4) (c := c4) (l := d1 ++ d2) (w := W') (by rw [HLEN.out, List.map_append]; exact ho)
    have := refTagged_any ⟨#[99, 104, 97, 105, 110]⟩ A4 c4 (d1 ++ d2) W' hs (by decide) (by rw [HLEN.out]; omega)
    rw [HLEN.out] at this
    exact this
  have HTL : Hid ((tg [99, 104, 97, 105, 110] (d1 ++ d2)).length = 32) := rfl
  unfold DigPost at hTG
  generalize hR : tg [99, 104, 97, 105, 110] (d1 ++ d2) = R at *
  obtain ⟨hi1, hs1, ho1⟩ := dcells_facts HTL.out
  generalize hCT : dcells R = CT at *
  have HTG := Lib.hid hTG
  have HCT := Lib.hid hCT
  have HI := Lib.hid hi1
  have HSZ := Lib.hid hs1
  have HONE := Lib.hid ho1
  clear hTG hR hCT hi1 hs1 ho1 hlen
  refine region_gen 6 [some 5, some 6, some 7, some 8, some 9, some 10] (Aft W) (phiT W.heap.size [.row 5 1 0 [], .val (.slice (some ⟨h2, 0, none⟩) 32 32 : Value), .row 5 1 32 ([] ++ d1.map bv), .val (.slice (some ⟨h3, 0, none⟩) 32 32 : Value), .row 5 1 64 (([] ++ d1.map bv) ++ d2.map bv), .val (.agg CT)]) (psiT [.row 5 1 0 [], .val (.slice (some ⟨h2, 0, none⟩) 32 32 : Value), .row 5 1 32 ([] ++ d1.map bv), .val (.slice (some ⟨h3, 0, none⟩) 32 32 : Value), .row 5 1 64 (([] ++ d1.map bv) ++ d2.map bv), .val (.agg CT)]) (fun i j => (i == 2 && j == 0) || (i == 4 && j == 2)) (by kernel_rfl) ?_ ?_ ?_ ?_ ?_
  · kernel_rfl
  · kernel_rfl
  · exact (Below.refl W.heap.size W).drew
  · simp only [List.take_succ_cons, List.take_zero, StepsG, Nat.reduceAdd, Nat.zero_add]
    refine ⟨?_, ?_, ?_, ?_, ?_, ?_, trivial⟩
    · exact st_c0 rfl rfl rfl (fun _ _ => by kernel_rfl)
    · exact st_sl (.tmp 2) h2 rfl rfl rfl (fun _ => by kernel_rfl) (fun _ _ => by kernel_rfl)
    · exact st_apb 0 1 (.tmp 5) (.tmp 6) rfl rfl rfl (by kernel_rfl) (by kernel_rfl) rfl rfl rfl (fun _ => by kernel_rfl) (fun _ => by kernel_rfl) (fun _ _ => by kernel_rfl) HL1.out HS2.out rfl (by omega)
    · exact st_sl (.tmp 3) h3 rfl rfl rfl (fun _ => by kernel_rfl) (fun _ _ => by kernel_rfl)
    · exact st_apb 2 3 (.tmp 7) (.tmp 8) rfl rfl rfl (by kernel_rfl) (by kernel_rfl) rfl rfl rfl (fun _ => by kernel_rfl) (fun _ => by kernel_rfl) (fun _ _ => by kernel_rfl) HL2.out HS3.out rfl (by omega)
    · constructor
      intro vs W hC hd
      obtain ⟨A4, c4, e4, o4⟩ := (show ∃ A c, vs 4 = .slice A 64 c ∧ W.ownsRow _ 5 1 (vs 4) 64 (([] ++ d1.map bv) ++ d2.map bv) from hd 4 (by kernel_rfl))
      refine ⟨wants rfl, fun K hK => ?_⟩
      rw [vs_is e4]
      go_simp
      refine (HTG.out W A4 c4 hC (e4 ▸ o4)).mono ?_
      rintro e w' ⟨rfl, hb⟩
      refine hK _ _ (left_val (.agg CT) rfl ?_ hb hC)
      rw [vs_is e4]
      kernel_rfl
  · intro vs W9 hC hv hp
    have e5 : vs 5 = .agg CT := hv 5 (by omega) (fun k hk => by match k, hk with
      | 0, _ => rfl
      | 1, _ => rfl
      | 2, _ => rfl
      | 3, _ => rfl
      | 4, _ => rfl
      | 5, _ => rfl)
    clear hv hp
    have hC9 : Below W.heap.size W W9 := hC
    have HX9 := Lib.hid (HZW.out.below hC9)
    have HB9 := Lib.hid (HBW.out.trans (hC9.mono (hB ▸ HBW.out.size)))
    clear hC hC9 HTG
    simp only [List.drop_succ_cons, List.drop_zero, putO, e5, Nat.reduceAdd, Nat.zero_add]
    clear e5
    simp only [Act.put, List.setIfInBounds_toArray, List.set_cons_succ, List.set_cons_zero]
    go_wp2_with (first | (refine wpList_store_row rfl 26 (.tmp 4) (.tmp 10) rfl h4 CT rfl rfl 26 dz HX9.out HI.out HSZ.out HONE.out ?_))
    refine bodyPost_ret (v := .agg CT) ?_ rfl ?_
    · exact results_cell_row Tryd.results26 _ _ h4 26 CT (0, 0) _ rfl (Box.setRow HX9.out) Tryd.underlying26 rfl HI.out
    · exact ⟨by rw [HCT.out], by subst hB; exact HB9.out.trans (below_grown (setRow_grown W9 h4 CT) hh4 HB9.out.size)⟩
end Go.Proofs.YtdjlblfpkieenaaDoor
