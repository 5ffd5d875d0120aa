/- pathOf. -/
import Derived.Test.YtdjlblfpkieenaaDoorDgs2
import Derived.Great.BuildSlice
namespace Go.Proofs.YtdjlblfpkieenaaDoor
open Go.RowKit Go.Sort
set_option linter.unusedVariables false

/-- The path of an element, with room for f steps. -/
def pthF : Nat → List (List UInt8) → Nat → List (List UInt8)
  | 0, _, _ => []
  | f + 1, ds, i => if ds.length ≤ 1 then [] else if i < half ds.length then pthF f (ds.take (half ds.length)) i ++ [tr (ds.drop (half ds.length))]
      else pthF f (ds.drop (half ds.length)) (i - half ds.length) ++ [tr (ds.take (half ds.length))]
def pth (ds : List (List UInt8)) (i : Nat) : List (List UInt8) := pthF ds.length ds i
theorem pthF_more (f : Nat) : ∀ (g : Nat) (ds : List (List UInt8)) (i : Nat), ds.length ≤ f → f ≤ g → pthF g ds i = pthF f ds i := by
  induction f with
  | zero =>
    intro g ds i h hg
    cases g with
    | zero => rfl
    | succ g => unfold pthF; rw [if_pos (by omega)]
  | succ f ih =>
    intro g ds i h hg
    obtain ⟨g, rfl⟩ : ∃ k, g = k + 1 := ⟨g - 1, by omega⟩
    simp only [pthF]
    split
    · rfl
    · have h1 := half_le ds.length (by omega)
      have h2 := half_pos ds.length
      rw [ih g _ _ (by rw [List.length_take]; omega) (by omega), ih g _ _ (by rw [List.length_drop]; omega) (by omega)]
theorem pth_end (ds : List (List UInt8)) (i : Nat) (h : ds.length ≤ 1) : pth ds i = [] := by
  unfold pth
  match ds, h with
  | [], _ => rfl
  | [_], _ => rfl
theorem pth_left (ds : List (List UInt8)) (i : Nat) (h : 1 < ds.length) (hi : i < half ds.length) : pth ds i = pth (ds.take (half ds.length)) i ++ [tr (ds.drop (half ds.length))] := by
  have h1 := half_le ds.length h
  unfold pth
  conv => lhs; rw [show ds.length = (ds.length - 1) + 1 by omega]; unfold pthF
  rw [if_neg (by omega), if_pos hi, pthF_more (ds.take (half ds.length)).length (ds.length - 1) _ _ (Nat.le_refl _) (by rw [List.length_take]; omega)]
theorem pth_right (ds : List (List UInt8)) (i : Nat) (h : 1 < ds.length) (hi : ¬ i < half ds.length) : pth ds i = pth (ds.drop (half ds.length)) (i - half ds.length) ++ [tr (ds.take (half ds.length))] := by
  have h1 := half_le ds.length h
  have h2 := half_pos ds.length
  unfold pth
  conv => lhs; rw [show ds.length = (ds.length - 1) + 1 by omega]; unfold pthF
  rw [if_neg (by omega), if_neg hi, pthF_more (ds.drop (half ds.length)).length (ds.length - 1) _ _ (Nat.le_refl _) (by rw [List.length_drop]; omega)]

theorem step_append_dig {base : Nat} {w : World} {ops : Array Oper} {o : Oper} {a : Act} {K : Act → World → Prop} {Q : Exit → Act → World → Prop} {E : Prop} (hgd : o.guard = none) (s x : Operand)
    (ho : o.op = .call { callee := .builtin .append, args := #[s, x], argTypes := #[30, 30] })
    (v : Value) (n : Nat) (xs : List Value) (hs : a.eval s = v) (hown : w.ownsRow base 26 32 v n xs)
    (g : Nat) (d : List UInt8) (hx : a.eval x = .slice (some ⟨g, 0, none⟩) 1 1) (hd : d.length = 32) (hb : Box w g (dcells d) 26) (N : Nat) (hN : n + 1 = N) (hn : N ≤ 1000000) (hbase : base ≤ w.heap.size)
    (h : ∀ A' c' w', w'.ownsRow base 26 32 (.slice A' N c') N (xs ++ d.map bv) → w.grownBy w' v.ownBlock → K (a.put o.dst (.slice A' N c')) w') :
    if Region.wanted o (yielded ops a.tmps) = true then Oper.wp Tryd.prog o a w K Q else E := by
  have hw : Region.wanted o (yielded ops a.tmps) = true := by simp [Region.wanted, hgd]
  rw [if_pos hw]
  subst hN
  obtain ⟨i0, hi0, hz0, hz1, hz2⟩ : ∃ i, Tryd.prog.info? 26 = some i ∧ i.zero = some (.agg dz) ∧ i.size = 32 ∧ i.bytes = 32 := by
    have h := dig_info
    cases hi : Tryd.prog.info? 26 with
    | none => rw [hi] at h; cases h
    | some i =>
      rw [hi] at h
      simp only [Option.map_some, Option.some.injEq, Prod.mk.injEq] at h
      exact ⟨i, rfl, h.1, h.2.1, h.2.2⟩
  refine wp_append_own w s x 30 ho base 26 i0 (.agg dz) 32 32 Tryd.underlying30 hi0 hz0 hz1 hz2 rfl (by decide) v n xs hs hown ⟨g, 0, none⟩ 1 1 (d.map bv) hx (by rw [List.length_map, hd]) (World.news_of_block (cs := dcells d) hb) (bv_one d) (le_maxLen (by omega)) (by omega) hbase ?_
  intro v' w' ho' hg' _
  obtain ⟨A1, c1, rfl⟩ := own_form ho'
  exact h A1 c1 w' ho' hg'

/-- A list of one digest. -/
theorem build_one (R : List UInt8) (hR : R.length = 32) (w : World) : (Instr.buildSlice 30 1 #[(0, .agg (dcells R))]).run Tryd.prog w = .ok (.slice (some ⟨w.heap.size, 0, none⟩) 1 1) (w.alloc (.cells (dcells R) 26)) := by
  obtain ⟨i0, hi0, hz0, hz1, hz2⟩ : ∃ i, Tryd.prog.info? 26 = some i ∧ i.zero = some (.agg dz) ∧ i.size = 32 ∧ i.bytes = 32 := by
    have h := dig_info
    cases hi : Tryd.prog.info? 26 with
    | none => rw [hi] at h; cases h
    | some i =>
      rw [hi] at h
      simp only [Option.map_some, Option.some.injEq, Prod.mk.injEq] at h
      exact ⟨i, rfl, h.1, h.2.1, h.2.2⟩
  have hs : (dcells R).size = 32 := by simp [dcells, hR]
  refine run_buildSlice (P := Tryd.prog) w _ _ 1 _ (dcells R) i0 (.agg dz) Tryd.underlying30 hi0 hz0 (by rw [hz1]; decide) (by rw [hz1]; decide) ?_
  rw [hz1]
  have := Go.Great.fill_whole (s := 32) (by omega) [.agg (dcells R)] ((Array.range (1 * 32)).map (fun i => (Value.agg dz).cells[i % (Value.agg dz).cells.size]!)) (fun v hv => by simp at hv; subst hv; exact hs) (by simp)
  refine this.trans ?_
  simp [Value.cells]

/-- A digest's cells, one by one. -/
theorem dcells_lit (R : List UInt8) (hR : R.length = 32) : ∃ c0 c1 c2 c3 c4 c5 c6 c7 c8 c9 c10 c11 c12 c13 c14 c15 c16 c17 c18 c19 c20 c21 c22 c23 c24 c25 c26 c27 c28 c29 c30 c31 : Value, dcells R = #[c0, c1, c2, c3, c4, c5, c6, c7, c8, c9, c10, c11, c12, c13, c14, c15, c16, c17, c18, c19, c20, c21, c22, c23, c24, c25, c26, c27, c28, c29, c30, c31] :=
  match R, hR with
  | [r0, r1, r2, r3, r4, r5, r6, r7, r8, r9, r10, r11, r12, r13, r14, r15, r16, r17, r18, r19, r20, r21, r22, r23, r24, r25, r26, r27, r28, r29, r30, r31], _ => ⟨bv r0, bv r1, bv r2, bv r3, bv r4, bv r5, bv r6, bv r7, bv r8, bv r9, bv r10, bv r11, bv r12, bv r13, bv r14, bv r15, bv r16, bv r17, bv r18, bv r19, bv r20, bv r21, bv r22, bv r23, bv r24, bv r25, bv r26, bv r27, bv r28, bv r29, bv r30, bv r31, rfl⟩

/-- pathOf has handed back digests. -/
def PthPost (ps : List (List UInt8)) (m : Nat) (w : World) (e : Ending) (w' : World) : Prop := ∃ A' c', e = .returned (.slice A' m c') ∧ w'.ownsRow w.heap.size 26 32 (.slice A' m c') m (flat ps) ∧ Below w.heap.size w w'
theorem flat_snoc (ps : List (List UInt8)) (d : List UInt8) : flat (ps ++ [d]) = flat ps ++ d.map bv := by
  unfold flat
  rw [List.flatMap_append]
  simp


set_option maxHeartbeats 1000000 in
set_option maxRecDepth 100000 in
theorem pathOf_left (b off n c i k m : Nat) (L R : List UInt8) (ps : List (List UInt8)) (w : World) (h1 : 1 < n) (h2 : n ≤ c) (h3 : n ≤ 1000000) (hk : half n = k) (hi : i < k) (hm : m ≤ 999999) (hR : R.length = 32)
    (hP : ∀ W, Below w.heap.size w W → Calls Tryd.prog 39 #[.slice (some ⟨b, off, none⟩) k c, .int .i64 i] W (PthPost ps m W))
    (hT : ∀ W, Below w.heap.size w W → Calls Tryd.prog 17 #[.slice (some ⟨b, off + k * 32, none⟩) (n - k) (c - k)] W (DigPost R W)) :
    Calls Tryd.prog 39 #[.slice (some ⟨b, off, none⟩) n c, .int .i64 i] w (PthPost (ps ++ [R]) (m + 1) w) := by
  have HSPL := Lib.hid (fun w => split_any n w h1 (by omega))
  have hkl := half_le n h1
  have hkp := half_pos n
  rw [hk] at HSPL hkl hkp
  clear hk
  have t1 : ((n : Int) == 1) = false := by simp; omega
  obtain ⟨c0, c1, c2, c3, c4, c5, c6, c7, c8, c9, c10, c11, c12, c13, c14, c15, c16, c17, c18, c19, c20, c21, c22, c23, c24, c25, c26, c27, c28, c29, c30, c31, hlit⟩ := dcells_lit R hR
  unfold DigPost at hT
  rw [hlit] at hT
  have hxf : ∀ w7 : World, Box (w7.alloc (.cells #[c0, c1, c2, c3, c4, c5, c6, c7, c8, c9, c10, c11, c12, c13, c14, c15, c16, c17, c18, c19, c20, c21, c22, c23, c24, c25, c26, c27, c28, c29, c30, c31] 26)) w7.heap.size (dcells R) 26 := fun w7 => by rw [hlit]; exact Box.new w7 _ _
  have HXF := Lib.hid hxf
  clear hlit hxf
  have HP := Lib.hid hP
  have HT := Lib.hid hT
  have HR := Lib.hid hR
  have HM := Lib.hid hm
  have hbd : Below w.heap.size w w.drew := (Below.refl w.heap.size w).drew
  have HBD := Lib.hid hbd
  clear hP hT hm hbd
  go_enter Tryd.func39, Tryd.ntmps39
  go_wp2_with fail
  refine (HSPL.out _).mono ?_
  rintro e w1 ⟨rfl, rfl⟩
  have i1 : (k : Int) ≤ (n : Int) := by omega
  have i2 : (k : Int) ≤ (c : Int) := by omega
  have i3 : (n : Int) ≤ (c : Int) := by omega
  have hck : ¬ c = k := by omega
  go_wp2_with fail
  go_region_held3 (fun _ => True) (trivial)
    (first
      | (go_at_call 39; (refine (HP.out _ HBD.out).mono ?_); rintro e w6 ⟨A6, p6, rfl, ho6, hb6⟩; have HO6 := Lib.hid (ho6.mono (base' := w.heap.size) HBD.out.size); have B6 := Lib.hid (HBD.out.trans (hb6.mono HBD.out.size)); clear ho6 hb6)
      | (go_at_call 17; (refine (HT.out _ B6.out).mono ?_); rintro e w7 ⟨rfl, hb7⟩; have hb8 := hb7.trans (((Below.refl w7.heap.size w7).alloc (Nat.le_refl _) (.cells #[c0, c1, c2, c3, c4, c5, c6, c7, c8, c9, c10, c11, c12, c13, c14, c15, c16, c17, c18, c19, c20, c21, c22, c23, c24, c25, c26, c27, c28, c29, c30, c31] 26)).mono hb7.size); have HO8 := Lib.hid (own_below HO6.out hb8); have B8 := Lib.hid (B6.out.trans (hb8.mono B6.out.size)); have HX8 := Lib.hid (HXF.out w7); clear hb7 hb8)
      | ((refine step_append_dig (by rfl) (.tmp 19) (.tmp 24) (by rfl) _ m _ (by rfl) HO8.out w7.heap.size R (by rfl) HR.out HX8.out (m + 1) rfl (by have := HM.out; omega) B8.out.size ?_); intro A9 p9 w9 ho9 hg9; have hb9 := B8.out.grown hg9 B8.out.size (fun i hi => (HO8.out.lt i hi).1))
      | fail)
  all_goals
    go_wp2_with fail
    go_ret
    exact ⟨A9, p9, rfl, by rw [flat_snoc]; exact ho9, hb9⟩
end Go.Proofs.YtdjlblfpkieenaaDoor
