/- Regions that draw their order and make lists of digests: what they leave, whatever came first. -/
import Derived.Test.YtdjlblfpkieenaaDoorClimb3
import Derived.Maps.AppendAt
import Derived.Laws.Tables
namespace Go.Proofs.YtdjlblfpkieenaaDoor
open Go.RowKit Go.Sort
set_option linter.unusedVariables false

/-- A region under way, begun in w0: nothing old has turned; a row of digests of its own (o), a list of the one digest LD (y), an empty digest (z), each if it is there already, in blocks of their own. -/
structure ST (w0 : World) (LD : List Value) (W : World) (o : Option (Value × Nat × List Value)) (y z : Option Nat) : Prop where
  B : Below w0.heap.size w0 W
  O : ∀ v n xs, o = some (v, n, xs) → W.ownsRow w0.heap.size 26 32 v n xs
  Y : ∀ g, y = some g → Box W g LD.toArray 26 ∧ w0.heap.size ≤ g
  Z : ∀ g, z = some g → Box W g dz 26 ∧ w0.heap.size ≤ g
  NY : ∀ v n xs g, o = some (v, n, xs) → y = some g → v.ownBlock ≠ some g
  NZ : ∀ v n xs g, o = some (v, n, xs) → z = some g → v.ownBlock ≠ some g
section
variable {w0 W W' : World} {LD : List Value} {o : Option (Value × Nat × List Value)} {y z : Option Nat}
theorem ST.start (w0 : World) (LD : List Value) (W : World) (hb : Below w0.heap.size w0 W) : ST w0 LD W none none none :=
  ⟨hb, fun _ _ _ h => (nomatch h), fun _ h => (nomatch h), fun _ h => (nomatch h), fun _ _ _ _ h => (nomatch h), fun _ _ _ _ h => (nomatch h)⟩
theorem ST.up (h : ST w0 LD W o y z) (hb : Below W.heap.size W W') : ST w0 LD W' o y z :=
  ⟨h.B.trans (hb.mono h.B.size), fun v n xs e => own_below (h.O v n xs e) hb, fun g e => ⟨(h.Y g e).1.below hb, (h.Y g e).2⟩, fun g e => ⟨(h.Z g e).1.below hb, (h.Z g e).2⟩, h.NY, h.NZ⟩
theorem ST.drew (h : ST w0 LD W o y z) : ST w0 LD W.drew o y z := h.up (Below.refl W.heap.size W).drew
theorem ST.b0 (h : ST w0 LD W none y z) : ST w0 LD (W.alloc (.cells #[] 26)) (some (.slice (some ⟨W.heap.size, 0, none⟩) 0 0, 0, [])) y z := by
  have hu := h.up ((Below.refl W.heap.size W).alloc (Nat.le_refl _) (.cells #[] 26))
  refine ⟨hu.B, fun v n xs e => ?_, hu.Y, hu.Z, fun v n xs g e e2 => ?_, fun v n xs g e e2 => ?_⟩
  · injection e with e
    injection e with e1 e
    injection e with e2 e3
    subst e1 e2 e3
    exact World.ownsRow_lit W #[] 0 h.B.size (by unfold maxLen; omega) rfl
  · injection e with e
    injection e with e1 e
    subst e1
    have := (h.Y g e2).1.lt
    simp [Value.ownBlock]
    omega
  · injection e with e
    injection e with e1 e
    subst e1
    have := (h.Z g e2).1.lt
    simp [Value.ownBlock]
    omega
theorem ST.b1 (h : ST w0 LD W o none z) : ST w0 LD (W.alloc (.cells LD.toArray 26)) o (some W.heap.size) z := by
  have hu := h.up ((Below.refl W.heap.size W).alloc (Nat.le_refl _) (.cells LD.toArray 26))
  refine ⟨hu.B, hu.O, fun g e => ?_, hu.Z, fun v n xs g e e2 he => ?_, hu.NZ⟩
  · injection e with e
    subst e
    exact ⟨Box.new W _ _, h.B.size⟩
  · injection e2 with e2
    subst e2
    have := (h.O v n xs e).lt _ he
    omega
theorem ST.al (h : ST w0 LD W o y none) : ST w0 LD (W.alloc (.cells dz 26)) o y (some W.heap.size) := by
  have hu := h.up ((Below.refl W.heap.size W).alloc (Nat.le_refl _) (.cells dz 26))
  refine ⟨hu.B, hu.O, hu.Y, fun g e => ?_, hu.NY, fun v n xs g e e2 he => ?_⟩
  · injection e with e
    subst e
    exact ⟨Box.new W _ _, h.B.size⟩
  · injection e2 with e2
    subst e2
    have := (h.O v n xs e).lt _ he
    omega
theorem ST.c0 {g : Nat} (h : ST w0 LD W none y z) (hg : W.heap.size = g) : ST w0 LD (W.alloc (.cells #[] 26)) (some (.slice (some ⟨g, 0, none⟩) 0 0, 0, [])) y z := by subst hg; exact h.b0
theorem ST.c1 {g : Nat} (h : ST w0 LD W o none z) (hg : W.heap.size = g) : ST w0 LD (W.alloc (.cells LD.toArray 26)) o (some g) z := by subst hg; exact h.b1
theorem ST.cl {g : Nat} (h : ST w0 LD W o y none) (hg : W.heap.size = g) : ST w0 LD (W.alloc (.cells dz 26)) o y (some g) := by subst hg; exact h.al
theorem ST.row {v v' : Value} {n n' : Nat} {xs xs' : List Value} (h : ST w0 LD W (some (v, n, xs)) y z) (ho : W'.ownsRow w0.heap.size 26 32 v' n' xs') (hg : W.grownBy W' v.ownBlock)
    (hv : v'.ownBlock = v.ownBlock ∨ v'.ownBlock = some W.heap.size) : ST w0 LD W' (some (v', n', xs')) y z := by
  refine ⟨h.B.grown hg h.B.size (fun i hi => ((h.O v n xs rfl).lt i hi).1), fun _ _ _ e => ?_, fun g e => ⟨(h.Y g e).1.grown hg (fun e2 => h.NY v n xs g rfl e e2.symm), (h.Y g e).2⟩, fun g e => ⟨(h.Z g e).1.grown hg (fun e2 => h.NZ v n xs g rfl e e2.symm), (h.Z g e).2⟩, fun _ _ _ g e e2 => ?_, fun _ _ _ g e e2 => ?_⟩
  · injection e with e
    injection e with e1 e
    injection e with e2 e3
    subst e1 e2 e3
    exact ho
  · injection e with e
    injection e with e1 e
    subst e1
    intro he
    rcases hv with hv | hv
    · rw [hv] at he; exact h.NY v n xs g rfl e2 he
    · rw [hv] at he
      injection he with he
      have := (h.Y g e2).1.lt
      omega
  · injection e with e
    injection e with e1 e
    subst e1
    intro he
    rcases hv with hv | hv
    · rw [hv] at he; exact h.NZ v n xs g rfl e2 he
    · rw [hv] at he
      injection he with he
      have := (h.Z g e2).1.lt
      omega
end

theorem flat_length : ∀ (ds : List (List UInt8)), (∀ x, x ∈ ds → x.length = 32) → (flat ds).length = ds.length * 32
  | [], _ => rfl
  | x :: xs, h => by
    have ih := flat_length xs fun y hy => h y (by simp [hy])
    have hx := h x (by simp)
    unfold flat at ih ⊢
    rw [List.flatMap_cons, List.length_append, List.length_map, hx, ih, List.length_cons]
    omega
theorem flat_at (ds : List (List UInt8)) (hl : ∀ x, x ∈ ds → x.length = 32) (j : Nat) (u : Value) (hu : (flat ds)[j]? = some u) : ∃ (k : Nat) (d : List UInt8) (r : Nat), ds[k]? = some d ∧ j = k * 32 + r ∧ (d.map bv)[r]? = some u := by
  have hj := (List.getElem?_eq_some_iff.1 hu).1
  rw [flat_length ds hl] at hj
  have hk : j / 32 < ds.length := by omega
  refine ⟨j / 32, ds[j / 32], j % 32, List.getElem?_eq_getElem hk, by omega, ?_⟩
  have := flat_get ds (j / 32) (j % 32) ds[j / 32] hl (List.getElem?_eq_getElem hk) (by omega)
  rw [← this, show j / 32 * 32 + j % 32 = j by omega]
  exact hu
theorem dig_info2 : ∃ i, Tryd.prog.info? 26 = some i ∧ i.zero = some (.agg dz) ∧ i.size = 32 ∧ i.bytes = 32 := by
  have h := dig_info
  cases hi : Tryd.prog.info? 26 with
  | none => rw [hi] at h; cases h
  | some i =>
    rw [hi] at h
    simp only [Option.map_some, Option.some.injEq, Prod.mk.injEq] at h
    exact ⟨i, rfl, h.1, h.2.1, h.2.2⟩

section
variable {w0 w : World} {LD : List Value} {oo : Option (Value × Nat × List Value)} {y z : Option Nat} {ops : Array Oper} {o : Oper} {a : Act} {K : Act → World → Prop} {Q : Exit → Act → World → Prop} {E : Prop}
theorem wants (hgd : o.guard = none) : Region.wanted o (yielded ops a.tmps) = true := by simp [Region.wanted, hgd]
theorem run_b0 (w : World) : (Instr.buildSlice 30 0 #[]).run Tryd.prog w = .ok (.slice (some ⟨w.heap.size, 0, none⟩) 0 0) (w.alloc (.cells #[] 26)) := by
  kernel_rfl
theorem run_b1 (LD : List Value) (hL : LD.length = 32) (w : World) : (Instr.buildSlice 30 1 #[(0, .agg LD.toArray)]).run Tryd.prog w = .ok (.slice (some ⟨w.heap.size, 0, none⟩) 1 1) (w.alloc (.cells LD.toArray 26)) := by
  obtain ⟨i0, hi0, hz0, hz1, hz2⟩ := dig_info2
  have hs : LD.toArray.size = 32 := by simp [hL]
  refine run_buildSlice (P := Tryd.prog) w _ _ 1 _ LD.toArray i0 (.agg dz) Tryd.underlying30 hi0 hz0 (by rw [hz1]; decide) (by rw [hz1]; decide) ?_
  rw [hz1]
  have := Go.Great.fill_whole (s := 32) (by omega) [.agg LD.toArray] ((Array.range (1 * 32)).map (fun i => (Value.agg dz).cells[i % (Value.agg dz).cells.size]!)) (fun v hv => by simp at hv; subst hv; exact hs) (by simp)
  refine this.trans ?_
  simp [Value.cells]
theorem run_al (w : World) : (Instr.alloc 26 true (.tuple #[])).run Tryd.prog w = .ok (.pointer (some ⟨w.heap.size, 0, none⟩)) (w.alloc (.cells dz 26)) := by
  kernel_rfl

/-- The empty list. -/
theorem step_b0 (H : ST w0 LD w none y z) (hgd : o.guard = none) (ho : o.op = .buildSlice 30 0 #[])
    (h : ∀ g w', ST w0 LD w' (some (.slice (some ⟨g, 0, none⟩) 0 0, 0, [])) y z → K (a.put o.dst (.slice (some ⟨g, 0, none⟩) 0 0)) w') :
    if Region.wanted o (yielded ops a.tmps) = true then Oper.wp Tryd.prog o a w K Q else E := by
  rw [if_pos (wants hgd)]
  unfold Oper.wp execOp
  simp only [ho, Sem.run_bind, Sem.run_pure, Result.andThen_ok, List.map_toArray, List.map_nil, run_b0]
  exact h _ _ H.b0
/-- The list of the one digest. -/
theorem step_b1 (H : ST w0 LD w oo none z) (hgd : o.guard = none) (x : Operand) (ho : o.op = .buildSlice 30 1 #[(0, x)]) (hx : a.eval x = .agg LD.toArray) (hL : LD.length = 32)
    (h : ∀ g w', ST w0 LD w' oo (some g) z → K (a.put o.dst (.slice (some ⟨g, 0, none⟩) 1 1)) w') :
    if Region.wanted o (yielded ops a.tmps) = true then Oper.wp Tryd.prog o a w K Q else E := by
  rw [if_pos (wants hgd)]
  unfold Oper.wp execOp
  simp only [ho, hx, Sem.run_bind, Sem.run_pure, Result.andThen_ok, List.map_toArray, List.map_cons, List.map_nil, run_b1 LD hL]
  exact h _ _ H.b1
/-- A new digest. -/
theorem step_al (H : ST w0 LD w oo y none) (hgd : o.guard = none) (ho : o.op = .alloc 26)
    (h : ∀ g w', ST w0 LD w' oo y (some g) → K (a.put o.dst (.pointer (some ⟨g, 0, none⟩))) w') :
    if Region.wanted o (yielded ops a.tmps) = true then Oper.wp Tryd.prog o a w K Q else E := by
  rw [if_pos (wants hgd)]
  unfold Oper.wp execOp
  simp only [ho, Sem.run_bind, Sem.run_pure, Result.andThen_ok, run_al]
  exact h _ _ H.al
/-- append of the one digest. -/
theorem step_ap1 {v : Value} {n : Nat} {xs : List Value} {g : Nat} (H : ST w0 LD w (some (v, n, xs)) (some g) z) (hgd : o.guard = none) (s x : Operand)
    (ho : o.op = .call { callee := .builtin .append, args := #[s, x], argTypes := #[30, 30] }) (hs : a.eval s = v) (hx : a.eval x = .slice (some ⟨g, 0, none⟩) 1 1)
    (hL : LD.length = 32) (h1 : ∀ u ∈ LD, u.oneCell' = true) (N : Nat) (hN : n + 1 = N) (hn : N ≤ 1000000)
    (h : ∀ A' c' w', ST w0 LD w' (some (.slice A' N c', N, xs ++ LD)) (some g) z → K (a.put o.dst (.slice A' N c')) w') :
    if Region.wanted o (yielded ops a.tmps) = true then Oper.wp Tryd.prog o a w K Q else E := by
  rw [if_pos (wants hgd)]
  subst hN
  obtain ⟨i0, hi0, hz0, hz1, hz2⟩ := dig_info2
  obtain ⟨v', w', hr, h2, h3, _, h5⟩ := run_append_own_at (P := Tryd.prog) w w0.heap.size 30 o.type 26 i0 (.agg dz) 32 32 Tryd.underlying30 hi0 hz0 hz1 hz2 rfl (by decide) v n xs (H.O v n xs rfl) ⟨g, 0, none⟩ 1 1 LD hL
    (World.news_of_block (cs := LD.toArray) (H.Y g rfl).1) h1 (le_maxLen (by omega)) (by omega) H.B.size
  obtain ⟨A1, c1, rfl⟩ := own_form h2
  unfold Oper.wp execOp
  simp only [ho, resolve, invoke, builtin, Sem.run_bind, Sem.run_pure, Result.andThen_ok, List.map_toArray, List.map_cons, List.map_nil, hs, hx, hr]
  exact h A1 c1 w' (H.row h2 h3 h5)
/-- append of digests that came in. -/
theorem step_apd {v : Value} {n : Nat} {xs : List Value} (H : ST w0 LD w (some (v, n, xs)) y z) (hgd : o.guard = none) (s x : Operand)
    (ho : o.op = .call { callee := .builtin .append, args := #[s, x], argTypes := #[30, 30] }) (hs : a.eval s = v)
    (A : Option Addr) (ds : List (List UInt8)) (m c : Nat) (hm : ds.length = m) (hx : a.eval x = .slice A m c) (hD : Ds w0.heap.size w0 A ds) (hnil : A = none → c = 0) (N : Nat) (hN : n + m = N) (hn : N ≤ 1000000)
    (h : ∀ A' c' w', ST w0 LD w' (some (.slice A' N c', N, xs ++ flat ds)) y z → K (a.put o.dst (.slice A' N c')) w') :
    if Region.wanted o (yielded ops a.tmps) = true then Oper.wp Tryd.prog o a w K Q else E := by
  rw [if_pos (wants hgd)]
  subst hN
  obtain ⟨i0, hi0, hz0, hz1, hz2⟩ := dig_info2
  have hone : ∀ u ∈ flat ds, u.oneCell' = true := by
    intro u hu
    simp only [flat, List.mem_flatMap] at hu
    obtain ⟨d, _, hd⟩ := hu
    exact bv_one d u hd
  cases A with
  | none =>
    have hm0 : ds = [] := by
      rcases Nat.eq_zero_or_pos ds.length with h0 | h0
      · exact List.length_eq_zero_iff.1 h0
      · obtain ⟨b, off, hA, _⟩ := hD.2 h0
        cases hA
    subst hm0
    obtain rfl : m = 0 := by simpa using hm.symm
    obtain rfl := hnil rfl
    obtain ⟨A1, c1, hv⟩ := own_form (H.O v n xs rfl)
    have hrun := run_append_owned_none (P := Tryd.prog) (w := w) w0.heap.size 30 o.type 26 i0 32 Tryd.underlying30 hi0 v n xs (H.O v n xs rfl)
    unfold Oper.wp execOp
    simp only [ho, resolve, invoke, builtin, Sem.run_bind, Sem.run_pure, Result.andThen_ok, List.map_toArray, List.map_cons, List.map_nil, hs, hx, hrun]
    subst hv
    refine h A1 c1 w ?_
    simpa [flat] using H
  | some ad =>
    have hnews : ∀ j u, (flat ds)[j]? = some u → w.cell? (ad.add j) = some u := by
      intro j u hu
      have hp : 0 < ds.length := by
        rcases Nat.eq_zero_or_pos ds.length with h0 | h0
        · rw [List.length_eq_zero_iff.1 h0] at hu
          simp [flat] at hu
        · exact h0
      obtain ⟨b, off, hA, hb, hc⟩ := hD.2 hp
      injection hA with hA
      subst hA
      obtain ⟨k, d, r, hk, hjk, hr⟩ := flat_at ds hD.1 j u hu
      rw [add_off, show off + j = off + k * 32 + r by omega]
      exact (H.B.cell (p := ⟨b, off + k * 32 + r, none⟩) hb).trans (hc k d hk r u hr)
    obtain ⟨v', w', hr, h2, h3, _, h5⟩ := run_append_own_at (P := Tryd.prog) w w0.heap.size 30 o.type 26 i0 (.agg dz) 32 32 Tryd.underlying30 hi0 hz0 hz1 hz2 rfl (by decide) v n xs (H.O v n xs rfl) ad m c (flat ds) (by rw [flat_length ds hD.1, hm])
      hnews hone (le_maxLen (by omega)) (by omega) H.B.size
    obtain ⟨A1, c1, rfl⟩ := own_form h2
    unfold Oper.wp execOp
    simp only [ho, resolve, invoke, builtin, Sem.run_bind, Sem.run_pure, Result.andThen_ok, List.map_toArray, List.map_cons, List.map_nil, hs, hx, hr]
    exact h A1 c1 w' (H.row h2 h3 h5)
/-- A digest is laid down. -/
theorem step_st {g : Nat} (H : ST w0 LD w oo y (some g)) (hgd : o.guard = none) (s x : Operand) (ho : o.op = .store 26 s x) (hs : a.eval s = .pointer (some ⟨g, 0, none⟩)) (C : Array Value) (hx : a.eval x = .agg C) (hC : DF C)
    (h : ∀ w', Below w0.heap.size w0 w' → Box w' g C 26 → K (a.put o.dst undef) w') :
    if Region.wanted o (yielded ops a.tmps) = true then Oper.wp Tryd.prog o a w K Q else E := by
  rw [if_pos (wants hgd)]
  obtain ⟨hz, hg⟩ := H.Z g rfl
  exact wp_store_row 26 s x ho g C hs hx 26 dz hz hC.info hC.size hC.one (h _ (H.B.trans (below_grown (setRow_grown _ g C) hg H.B.size)) (Box.setRow hz))
theorem ST.there {g : Nat} (H : ST w0 LD w oo y (some g)) (LZ : List Value) (hL : LZ.length = 32) : w.there g 0 LZ.length := by
  intro j hj
  obtain ⟨hz, _⟩ := H.Z g rfl
  have hs : dz.size = 32 := (DF.of (d := List.replicate 32 0) rfl).size.trans (by simp [dcells])
  rw [Nat.zero_add, hz.cell j, hz.frozen j]
  exact ⟨by rw [Array.getElem?_eq_getElem (by omega)]; rfl, rfl⟩
theorem there_new (w : World) (LZ : List Value) (hL : LZ.length = 32) : (w.alloc (.cells dz 26)).there w.heap.size 0 LZ.length :=
  ((ST.start w [] w (Below.refl _ _)).al).there LZ hL
theorem below_setCells {B b : Nat} {a : World} (hb : B ≤ b) : ∀ (vs : List Value) (off : Nat) (w : World), Below B a w → Below B a (w.setCells b off vs)
  | [], _, _, h => h
  | v :: r, off, w, h => below_setCells hb r (off + 1) (w.setCell ⟨b, off, none⟩ v) (h.setCell (p := ⟨b, off, none⟩) hb v)
end
end Go.Proofs.YtdjlblfpkieenaaDoor
