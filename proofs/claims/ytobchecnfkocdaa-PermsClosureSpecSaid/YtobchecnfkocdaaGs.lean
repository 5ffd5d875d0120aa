/- The group in memory; put. -/
import Derived.Test.YtobchecnfkocdaaMe
import Derived.Test.YtobchecnfkocdaaQl
import Derived.Test.YtobchecnfkocdaaTail
import Derived.Test.YtobchecnfkocdaaLat
import Derived.Test.YtobchecnfkocdaaRPr
import Derived.Deep.RegionHeld3
import Derived.Deep.Cut
import Derived.Deep.CutRange
import Derived.LoopTactic
import Derived.Great.BuildSlice
import Derived.Great.FillDense
namespace Go.Proofs.Ytobchecnfkocdaa
open Go.RowKit
set_option linter.unusedVariables false
set_option linter.unusedSimpArgs false

theorem grown_drewN (w : World) (n : Nat) (r : Option Nat) : w.grownBy (w.drewN n) r := ⟨rfl, rfl, rfl, Nat.le_refl _, fun _ _ _ => rfl⟩
/-- The cells of a row of elements. -/
def flatE (l : List (List Nat)) : List Value := (l.map fun p => (eof p).toList).flatten
theorem flatE_nil : flatE [] = [] := rfl
theorem flatE_app (l : List (List Nat)) (p : List Nat) : flatE (l ++ [p]) = flatE l ++ (eof p).toList := by
  unfold flatE
  rw [List.map_append, List.flatten_append]
  simp
theorem eof_len (p : List Nat) : (eof p).toList.length = 256 := ucs_size _
theorem flatE_at : ∀ {l : List (List Nat)} {i j : Nat} {p : List Nat} {u : Value}, l[i]? = some p → (eof p).toList[j]? = some u → (flatE l)[i * 256 + j]? = some u
  | [], i, j, p, u, h, _ => by cases h
  | a :: l, 0, j, p, u, h, hu => by
    simp at h
    subst h
    show ((eof a).toList ++ flatE l)[0 * 256 + j]? = _
    rw [Nat.zero_mul, Nat.zero_add, List.getElem?_append_left (List.getElem?_eq_some_iff.1 hu).1]
    exact hu
  | a :: l, i + 1, j, p, u, h, hu => by
    show ((eof a).toList ++ flatE l)[(i + 1) * 256 + j]? = _
    rw [List.getElem?_append_right (by rw [eof_len]; omega), eof_len, show (i + 1) * 256 + j - 256 = i * 256 + j by omega]
    exact flatE_at (by simpa using h) hu
theorem el_full : (Try.prog.info? 55).map (fun i => (i.zero, i.size, i.bytes)) = some (some (.agg (ucs fun _ => 0)), 256, 256) := by kernel_rfl
theorem el_whole : (Try.prog.info? 55).map (·.size) = some 256 := by kernel_rfl
theorem exec_el {w : World} {ev : Operand → Value} {o : Oper} {x : Operand} (ho : o.op = .load 55 x) {b off : Nat} (hx : ev x = .pointer (some ⟨b, off, none⟩)) {cs : List Value} (hS : w.rangeAt b off cs) (hl : cs.length = 256) :
    (execOp ev o).run Try.prog w = .ok (.value (.agg cs.toArray)) w := by
  unfold execOp
  simp only [ho, hx, Instr.loadAt, Instr.sureAddr, Sem.run_bind, Sem.run_pure, Result.andThen_ok, run_loadVar_mid w b off 55 cs _ hS Try.underlying55 rfl (by rw [hl]; exact el_whole)]
theorem range_el {w : World} {g : Nat} {p : List Nat} {t : TypeId} (h : Box w g (eof p) t) : w.rangeAt g 0 (eof p).toList := Box.range h
/-- append of one element to a row of the call's own. -/
theorem wp_append_el {base : Nat} {w : World} {o : Oper} {a : Act} {K : Act → World → Prop} {Q : Exit → Act → World → Prop} (s x : Operand)
    (ho : o.op = .call { callee := .builtin .append, args := #[s, x], argTypes := #[62, 62] })
    (v : Value) (n : Nat) (l : List (List Nat)) (hs : a.eval s = v) (hown : w.ownsRow base 55 256 v n (flatE l)) (q : Nat) (p : List Nat) (hx : a.eval x = .slice (some ⟨q, 0, none⟩) 1 1) (hq : Box w q (eof p) 55) (hn : n ≤ 900000) (hbase : base ≤ w.heap.size)
    (h : ∀ g c' w', w'.ownsRow base 55 256 (.slice (some ⟨g, 0, none⟩) (n + 1) c') (n + 1) (flatE (l ++ [p])) → w.grownBy w' v.ownBlock → (v.ownBlock = some g ∨ g = w.heap.size) → K (a.put o.dst (.slice (some ⟨g, 0, none⟩) (n + 1) c')) w') : o.wp Try.prog a w K Q := by
  obtain ⟨i0, hi0, hz0, hz1, hz2⟩ := info_parts el_full
  refine wp_append_lies w s x 62 ho base 55 i0 (.agg (ucs fun _ => 0)) 256 256 Try.underlying62 hi0 hz0 hz1 hz2 (ucs_size _) (by decide) v n (flatE l) hs hown ⟨q, 0, none⟩ 1 1 (eof p).toList hx (by rw [eof_len]) (World.news_of_block hq) (fun u hu => ?_) (by decide) (le_maxLen (by omega)) (by omega) hbase w.heap.size rfl ?_
  · have h1 := ucs_one (fun i => p.getD i 0)
    rw [Array.all_eq_true_iff_forall_mem] at h1
    exact h1 u (by simpa [eof] using hu)
  · intro g c' w' h1 h2 h3 _
    exact h g c' w' (by rw [flatE_app]; exact h1) h2 h3

theorem step_append_el {base : Nat} {w : World} {ops : Array Oper} {o : Oper} {a : Act} {K : Act → World → Prop} {Q : Exit → Act → World → Prop} {E : Prop} (hgd : o.guard = none) (s x : Operand)
    (ho : o.op = .call { callee := .builtin .append, args := #[s, x], argTypes := #[62, 62] })
    (v : Value) (n : Nat) (l : List (List Nat)) (hs : a.eval s = v) (hown : w.ownsRow base 55 256 v n (flatE l)) (q : Nat) (p : List Nat) (hx : a.eval x = .slice (some ⟨q, 0, none⟩) 1 1) (hq : Box w q (eof p) 55) (hn : n ≤ 900000) (hbase : base ≤ w.heap.size)
    (h : ∀ g c' w', w'.ownsRow base 55 256 (.slice (some ⟨g, 0, none⟩) (n + 1) c') (n + 1) (flatE (l ++ [p])) → w.grownBy w' v.ownBlock → (v.ownBlock = some g ∨ g = w.heap.size) → K (a.put o.dst (.slice (some ⟨g, 0, none⟩) (n + 1) c')) w') :
    if Region.wanted o (yielded ops a.tmps) = true then Oper.wp Try.prog o a w K Q else E := by
  have hw : Region.wanted o (yielded ops a.tmps) = true := by simp [Region.wanted, hgd]
  rw [if_pos hw]
  exact wp_append_el s x ho v n l hs hown q p hx hq hn hbase h
theorem run_el1 (p : List Nat) (w : World) : (Instr.buildSlice 62 1 #[(0, .agg (eof p))]).run Try.prog w = .ok (.slice (some ⟨w.heap.size, 0, none⟩) 1 1) (w.alloc (.cells (eof p) 55)) := by
  obtain ⟨i0, hi0, hz0, hz1, hz2⟩ := info_parts el_full
  have hs : (eof p).size = 256 := ucs_size _
  refine run_buildSlice (P := Try.prog) w _ _ 1 _ (eof p) i0 (.agg (ucs fun _ => 0)) Try.underlying62 hi0 hz0 (by rw [hz1]; decide) (by rw [hz1]; decide) ?_
  rw [hz1]
  have := Go.Great.fill_whole (s := 256) (by omega) [.agg (eof p)] ((Array.range (1 * 256)).map (fun i => (Value.agg (ucs fun _ => 0)).cells[i % (Value.agg (ucs fun _ => 0)).cells.size]!)) (fun v hv => by simp at hv; subst hv; exact hs) (by simp)
  refine this.trans ?_
  simp [Value.cells]
theorem wantsE {ops : Array Oper} {o : Oper} {a : Act} (hgd : o.guard = none) : Region.wanted o (yielded ops a.tmps) = true := by simp [Region.wanted, hgd]
theorem step_el1 {w : World} {ops : Array Oper} {o : Oper} {a : Act} {K : Act → World → Prop} {Q : Exit → Act → World → Prop} {E : Prop} (hgd : o.guard = none) (x : Operand) (p : List Nat) (ho : o.op = .buildSlice 62 1 #[(0, x)]) (hx : a.eval x = .agg (eof p))
    (h : K (a.put o.dst (.slice (some ⟨w.heap.size, 0, none⟩) 1 1)) (w.alloc (.cells (eof p) 55))) :
    if Region.wanted o (yielded ops a.tmps) = true then Oper.wp Try.prog o a w K Q else E := by
  rw [if_pos (wantsE hgd)]
  unfold Oper.wp execOp
  simp only [ho, hx, Sem.run_bind, Sem.run_pure, Result.andThen_ok, List.map_toArray, List.map_cons, List.map_nil, run_el1 p]
  exact h

/-- The group g lies in block G: n numbers, generators, elements, and the map. -/
def GS (B N : Nat) (W : World) (G : Nat) (gens els : List (List Nat)) (mb mc : Nat) (Ag : Option Addr) (cg : Nat) (Ae : Option Addr) (ce : Nat) : Prop :=
  Box W G #[.int .i64 (N : Int), .slice Ag gens.length cg, .slice Ae els.length ce, .map (some mb)] 64 ∧
  W.ownsRow B 55 256 (.slice Ag gens.length cg) gens.length (flatE gens) ∧ W.ownsRow B 55 256 (.slice Ae els.length ce) els.length (flatE els) ∧
  ((Value.slice Ae els.length ce).ownBlock = none ∨ (Value.slice Ae els.length ce).ownBlock ≠ (Value.slice Ag gens.length cg).ownBlock) ∧
  (∃ S, ME N W mb mc S ∧ ∀ q, q ∈ S ↔ q ∈ els) ∧ B ≤ G ∧ B ≤ mb ∧ (∀ q ∈ gens, Ok N q) ∧ (∀ q ∈ els, Ok N q)
theorem map_box {N : Nat} {W : World} {mb mc g : Nat} {S : List (List Nat)} {cs : Array Value} {t : TypeId} (h : ME N W mb mc S) (hb : Box W g cs t) : g ≠ mb := by
  obtain ⟨D, ⟨es, ck, hh, _⟩, _⟩ := h
  rintro rfl
  have hb : W.heap[g]? = _ := hb
  rw [hb] at hh
  cases hh
theorem map_own {N : Nat} {W : World} {mb mc B n size : Nat} {e : TypeId} {S : List (List Nat)} {v : Value} {xs : List Value} (h : ME N W mb mc S) (ho : W.ownsRow B e size v n xs) : v.ownBlock ≠ some mb := by
  obtain ⟨D, ⟨es, ck, hh, _⟩, _⟩ := h
  intro e1
  rcases ho.2 with ⟨hv, _⟩ | ⟨g, cap, cur, hv, _, hg, _⟩
  · subst hv
    cases e1
  · subst hv
    injection e1 with e1
    simp only at e1
    subst e1
    rw [hg] at hh
    cases hh
theorem box_own {w : World} {b B s n : Nat} {cs : Array Value} {t e : TypeId} {v : Value} {xs : List Value} (hb : Box w b cs t) (h : w.ownsRow B e s v n xs) (hne : t ≠ e) : v.ownBlock ≠ some b := by
  intro e1
  rcases h.2 with ⟨hv, _⟩ | ⟨g, cap, cur, hv, _, hg, _⟩
  · subst hv
    cases e1
  · subst hv
    injection e1 with e1
    simp only at e1
    subst e1
    unfold Box at hb
    rw [hb] at hg
    injection hg with hg
    injection hg with _ hg
    exact hne hg

theorem put_mid {B N G mb mc cg ce B3 g c' : Nat} {W V1 V2 w11 : World} {gens els : List (List Nat)} {Ag Ae : Option Addr} {p : List Nat} {CX : Array Value} {S : List (List Nat)} (h : GS B N W G gens els mb mc Ag cg Ae ce) (hp : Ok N p)
    (hb : Box V1 G #[.int .i64 (N : Int), .slice Ag gens.length cg, .slice Ae els.length ce, .map (some mb)] 64) (h3 : Box V1 B3 CX 55)
    (hog : V1.ownsRow B 55 256 (.slice Ag gens.length cg) gens.length (flatE gens)) (hoe : V1.ownsRow B 55 256 (.slice Ae els.length ce) els.length (flatE els))
    (hme : ME N V1 mb (mc + 1) (p :: S)) (hbW : Below B W V1) (hSm : ∀ q, q ∈ S ↔ q ∈ els) (hB3 : W.heap.size = B3) (hba : Below V1.heap.size V1 V2)
    (ho : w11.ownsRow B 55 256 (.slice (some ⟨g, 0, none⟩) (els.length + 1) c') (els.length + 1) (flatE (els ++ [p]))) (hg : V2.grownBy w11 (Value.slice Ae els.length ce).ownBlock) (hat : (Value.slice Ae els.length ce).ownBlock = some g ∨ g = V2.heap.size) :
    Box w11 G #[.int .i64 (N : Int), .slice Ag gens.length cg, .slice Ae els.length ce, .map (some mb)] 64 ∧ Box w11 B3 CX 55 ∧
      GS B N (w11.setCell ⟨G, 2, none⟩ (.slice (some ⟨g, 0, none⟩) (els.length + 1) c')) G gens (els ++ [p]) mb (mc + 1) Ag cg (some ⟨g, 0, none⟩) c' ∧ Below B W (w11.setCell ⟨G, 2, none⟩ (.slice (some ⟨g, 0, none⟩) (els.length + 1) c')) := by
  obtain ⟨_, _, he0, hap, _, hBG, hBm, hg1, he1⟩ := h
  have hb2 := hb.below hba
  have hoe2 := own_below hoe hba
  have hog2 := own_below hog hba
  have hbx := hb2.grown hg (fun e => box_own hb2 hoe2 (by decide) e.symm)
  have hx3 := (h3.below hba).grown hg (fun e => by have := (he0.lt B3 e.symm).2; omega)
  have hogw : w11.ownsRow B 55 256 (.slice Ag gens.length cg) gens.length (flatE gens) := by
    refine hog2.kept hg ?_
    rcases hap with h1 | h1
    · rw [h1]
      cases hq : (Value.slice Ag gens.length cg).ownBlock with
      | none => exact .inl rfl
      | some i => exact .inr (by simp)
    · exact .inr (fun e => h1 e.symm)
  have hme2 : ME N V2 mb (mc + 1) (p :: S) := hme.kept (below_row hba none) (by simp)
  have hme3 : ME N w11 mb (mc + 1) (p :: S) := hme2.kept hg (fun e => map_own hme2 hoe2 e.symm)
  have hset := set_grown_at w11 G 2 (.slice (some ⟨g, 0, none⟩) (els.length + 1) c')
  have hgn : g ≠ G := by
    rintro rfl
    exact box_own hbx ho (by decide) rfl
  have hb11 : Below B W w11 := by
    have h1 : Below B W V2 := hbW.trans (hba.mono (Nat.le_trans (by have := hb.lt; have := hbW.size; omega) (Nat.le_refl _)))
    exact own_grown h1 hoe2 hg (by have := hb2.lt; omega)
  refine ⟨hbx, hx3, ⟨?_, ?_, ?_, ?_, ⟨p :: S, hme3.kept hset (by have := map_box hme3 hbx; simpa using fun e => this e.symm), fun q => ?_⟩, hBG, hBm, hg1, fun q hq => ?_⟩, hb11.setCell (p := ⟨G, 2, none⟩) hBG _⟩
  · have := hbx.set (i := 2) (v := .slice (some ⟨g, 0, none⟩) (els.length + 1) c')
    rw [List.length_append, List.length_singleton]
    exact this
  · exact hogw.kept hset (.inr (box_own hbx hogw (by decide)))
  · rw [List.length_append, List.length_singleton]
    exact ho.kept hset (.inr (box_own hbx ho (by decide)))
  · refine .inr (fun e => ?_)
    rw [List.length_append, List.length_singleton] at e
    have e : some g = (Value.slice Ag gens.length cg).ownBlock := e
    rcases hat with h1 | h1
    · rcases hap with h2 | h2
      · rw [h2] at h1; cases h1
      · exact h2 (h1.trans e)
    · have := (hog2.lt g e.symm).2
      omega
  · rw [List.mem_cons, List.mem_append, List.mem_singleton, hSm q]
    exact ⟨fun h => h.symm, fun h => h.symm⟩
  · rcases List.mem_append.1 hq with h1 | h1
    · exact he1 q h1
    · rw [List.mem_singleton.1 h1]; exact hp

set_option maxHeartbeats 8000000 in
set_option maxRecDepth 100000 in
theorem put_any (B N G : Nat) (gens els : List (List Nat)) (mb mc : Nat) (Ag : Option Addr) (cg : Nat) (Ae : Option Addr) (ce : Nat) (p : List Nat) (W : World) (h : GS B N W G gens els mb mc Ag cg Ae ce) (hp : Ok N p) (hN : N ≤ 256) (hm : mc ≤ 100000) (hel : els.length ≤ 100000) :
    Calls Try.prog 40 #[.pointer (some ⟨G, 0, none⟩), .agg (eof p)] W (fun e W' => e = .returned (.tuple #[]) ∧ ∃ Ae' ce', GS B N W' G gens (els ++ [p]) mb (mc + 1) Ag cg Ae' ce' ∧ Below B W W') := by
  have HH := Lib.hid h
  obtain ⟨hb, hg, he, hap, ⟨S, hS, hSm⟩, hBG, hBm, hg1, he1⟩ := h
  have hsz : B ≤ W.heap.size := by have := hb.lt; omega
  have HP := Lib.hid hp
  have hp2 := Lib.hid hp
  have HI := Lib.hid (show (Try.prog.info? 55).map (·.size) = some (eof p).size from el_info _)
  obtain ⟨CX, hCX⟩ : ∃ CX, eof p = CX := ⟨_, rfl⟩
  have HCX := Lib.hid hCX
  rw [hCX] at HI ⊢
  have hba := (Below.refl W.heap.size W).alloc (Nat.le_refl _) (.cells CX 55)
  have hx3 := Box.new W CX 55
  obtain ⟨B3, hB3⟩ : ∃ B3, W.heap.size = B3 := ⟨_, rfl⟩
  obtain ⟨V, hV⟩ : ∃ V, W.alloc (.cells CX 55) = V := ⟨_, rfl⟩
  rw [hV] at hba hx3
  rw [hB3] at hx3
  have g2 := (hb.below hba).cell 3
  simp only [List.getElem?_toArray, List.getElem?_cons_zero, List.getElem?_cons_succ] at g2
  obtain ⟨D, hD, ha⟩ := hS
  have K0 := Lib.hid (And.intro (hb.below hba) (And.intro (own_below hg hba) (And.intro (own_below he hba) (And.intro hx3 (And.intro (show ME N V mb mc S from ⟨D, hD.kept (below_row hba none) (by simp), ha⟩) hba)))))
  have KH := Lib.hid (And.intro hap (And.intro hSm (And.intro hBG (And.intro hBm (And.intro hg1 (And.intro he1 (And.intro hsz hB3)))))))
  clear hb hg he hap hD ha hSm hBG hBm hg1 he1 hsz hba hx3 hCX hp
  go_enter Try.func40, Try.ntmps40
  go_upto_region 1 with fail
  clear hV hB3
  have HRG := Lib.hid (Box.range (cs := CX.toList) (by rw [Array.toArray_toList]; exact K0.out.2.2.2.1))
  have hlen : CX.toList.length = 256 := by rw [← HCX.out]; exact eof_len p
  have HLN := Lib.hid hlen
  clear hlen
  refine region_tail_drew 5 (by kernel_rfl) (by kernel_rfl) ?_
  simp only [List.take_succ_cons, List.take_zero, List.drop_succ_cons, List.drop_zero]
  repeat (quiet_step (fail))
  refine qload rfl 55 (.tmp 3) rfl B3 0 rfl CX.toList _ (by rintro _ ⟨k, rfl⟩; exact HRG.out) Try.underlying55 rfl (by rw [HLN.out]; exact el_whole) ?_
  refine wpQuiet_nil ?_
  intro _ hw'
  obtain ⟨nq, rfl⟩ := hw'
  have HME : ME N (V.drewN nq) mb mc S := by
    have h := K0.out.2.2.2.2.1
    exact h.kept (row := none) (grown_drewN V nq none) (by simp)
  obtain ⟨V1, hu, hme, hgr⟩ := HME.upd HP.out hN (by unfold maxLen; omega)
  rw [HCX.out] at hu
  have hne1 : G ≠ mb := map_box HME (show Box (V.drewN nq) G _ _ from K0.out.1)
  have hne2 : B3 ≠ mb := map_box HME (show Box (V.drewN nq) B3 _ _ from K0.out.2.2.2.1)
  have hne3 := map_own HME (show (V.drewN nq).ownsRow B 55 256 (.slice Ag gens.length cg) gens.length (flatE gens) from K0.out.2.1)
  have hne4 := map_own HME (show (V.drewN nq).ownsRow B 55 256 (.slice Ae els.length ce) els.length (flatE els) from K0.out.2.2.1)
  have hbx := (show Box (V.drewN nq) G _ _ from K0.out.1).grown hgr (by simpa using hne1)
  have hbx3 := (show Box (V.drewN nq) B3 _ _ from K0.out.2.2.2.1).grown hgr (by simpa using hne2)
  have hog := (show (V.drewN nq).ownsRow B 55 256 (.slice Ag gens.length cg) gens.length (flatE gens) from K0.out.2.1).kept hgr (.inr hne3)
  have hoe := (show (V.drewN nq).ownsRow B 55 256 (.slice Ae els.length ce) els.length (flatE els) from K0.out.2.2.1).kept hgr (.inr hne4)
  have hbW : Below B W V1 := by
    have h1 : Below B W (V.drewN nq) := (K0.out.2.2.2.2.2.trans ((below_drewN V nq).mono K0.out.2.2.2.2.2.size)).mono KH.out.2.2.2.2.2.2.1
    exact h1.trans (below_grown hgr KH.out.2.2.2.1 (Nat.le_trans KH.out.2.2.2.2.2.2.1 h1.size))
  have K1 := Lib.hid (And.intro hbx (And.intro hbx3 (And.intro hog (And.intro hoe (And.intro hme hbW)))))
  have hu : (Instr.mapUpdate 61 (.map (some mb)) (.agg CX) (.bool true)).run Try.prog (V.drewN nq) = .ok () V1 := hu
  have hu2 : (Instr.mapUpdate 61 (.map (some mb)) (.agg CX.toList.toArray) (.bool true)).run Try.prog (V.drewN nq) = .ok () V1 := by rw [Array.toArray_toList]; exact hu
  clear hme hgr hne1 hne2 hne3 hne4 hbx hbx3 hog hoe hbW HME
  go_upto_region 2 with fail
  clear hu hu2 g2
  have hsz1 : B3 < V1.heap.size := K1.out.2.1.lt
  have hrg1 : V1.rangeAt B3 0 CX.toList := Box.range (by rw [Array.toArray_toList]; exact K1.out.2.1)
  have HDV := Lib.hid (show (fun w' => w'.cell? ⟨G, 2, none⟩ = some (.slice Ae els.length ce) ∧ w'.rangeAt B3 0 CX.toList) V1.drew from ⟨K1.out.1.cell 2, hrg1⟩)
  have HD1 := Lib.hid (fun W' (hb : Below V1.heap.size V1 W') => show (fun w' => w'.cell? ⟨G, 2, none⟩ = some (.slice Ae els.length ce) ∧ w'.rangeAt B3 0 CX.toList) W' from ⟨(K1.out.1.below hb).cell 2, range_below hrg1 hb⟩)
  have hbs := fun (w : World) => run_el1 p w
  rw [HCX.out] at hbs
  have hbase : B ≤ (V1.alloc (.cells CX 55)).drew.heap.size := by
    show B ≤ (V1.alloc _).heap.size
    rw [World.size_alloc]
    have := K1.out.2.2.2.2.2.size
    have := KH.out.2.2.2.2.2.2.1
    omega
  have hba := (Below.refl V1.heap.size V1).alloc (Nat.le_refl _) (.cells CX 55)
  have HBA := Lib.hid hba.drew
  have HQX := Lib.hid (show Box (V1.alloc (.cells CX 55)).drew V1.heap.size (eof p) 55 from by rw [HCX.out]; exact (Box.new V1 CX _).drew)
  have HBS := Lib.hid (And.intro hbase hsz1)
  clear hsz1 hrg1 hba hbase
  refine wp_region_later 10 (fun w' => w'.cell? ⟨G, 2, none⟩ = some (.slice Ae els.length ce) ∧ w'.rangeAt B3 0 CX.toList) (by kernel_rfl) ?_
  refine takeL (d := some 9) (i := 0) (v := ?v0) rfl rfl (by kernel_rfl) (by kernel_rfl) (by kernel_rfl) (fun _ _ _ h => h) rfl (by kernel_rfl) (Or.inl ⟨by rfl, ?y0⟩) HDV.out ?r0
  case y0 =>
    intro w hSw
    try dsimp only at hSw
    obtain ⟨d0, d1⟩ := hSw
    clear d1
    go_simp
    all_goals with_reducible rfl
  try simp only [Act.put, List.setIfInBounds_toArray, List.set_cons_zero, List.set_cons_succ]
  refine takeL (d := some 10) (i := 1) (v := ?v1) rfl rfl (by kernel_rfl) (by kernel_rfl) (by kernel_rfl) (fun _ _ _ h => h) rfl (by kernel_rfl) (Or.inl ⟨by rfl, ?y1⟩) HDV.out ?r1
  case y1 =>
    intro w hSw
    try dsimp only at hSw
    obtain ⟨d0, d1⟩ := hSw
    clear d1
    go_simp
    all_goals with_reducible rfl
  try simp only [Act.put, List.setIfInBounds_toArray, List.set_cons_zero, List.set_cons_succ]
  refine takeL (d := some 11) (i := 2) (v := ?v2) rfl rfl (by kernel_rfl) (by kernel_rfl) (by kernel_rfl) (fun _ _ _ h => h) rfl (by kernel_rfl) (Or.inl ⟨by rfl, ?y2⟩) HDV.out ?r2
  case y2 =>
    intro w hSw
    try dsimp only at hSw
    obtain ⟨d0, d1⟩ := hSw
    clear d1
    go_simp
    all_goals with_reducible rfl
  try simp only [Act.put, List.setIfInBounds_toArray, List.set_cons_zero, List.set_cons_succ]
  refine takeL (d := some 12) (i := 3) (v := ?v3) rfl rfl (by kernel_rfl) (by kernel_rfl) (by kernel_rfl) (fun _ _ _ h => h) rfl (by kernel_rfl) (Or.inl ⟨by rfl, ?y3⟩) HDV.out ?r3
  case y3 =>
    intro w hSw
    try dsimp only at hSw
    obtain ⟨d0, d1⟩ := hSw
    clear d1
    go_simp
    all_goals with_reducible rfl
  try simp only [Act.put, List.setIfInBounds_toArray, List.set_cons_zero, List.set_cons_succ]
  refine takeL (d := some 13) (i := 4) (v := ?v4) rfl rfl (by kernel_rfl) (by kernel_rfl) (by kernel_rfl) (fun _ _ _ h => h) rfl (by kernel_rfl) (Or.inl ⟨by rfl, ?y4⟩) HDV.out ?r4
  case y4 =>
    intro w hSw
    try dsimp only at hSw
    obtain ⟨d0, d1⟩ := hSw
    clear d1
    go_simp
    all_goals with_reducible rfl
  try simp only [Act.put, List.setIfInBounds_toArray, List.set_cons_zero, List.set_cons_succ]
  refine takeL (d := some 14) (i := 5) (v := .agg CX.toList.toArray) rfl rfl (by kernel_rfl) (by kernel_rfl) (by kernel_rfl) (fun _ _ _ h => h) rfl (by kernel_rfl) (Or.inl ⟨by rfl, ?y5⟩) HDV.out ?r5
  case y5 =>
    intro w hSw
    exact exec_el (x := .tmp 3) rfl (b := B3) (off := 0) rfl hSw.2 HLN.out
  try simp only [Act.put, List.setIfInBounds_toArray, List.set_cons_zero, List.set_cons_succ, Array.toArray_toList]
  refine oneL (i := 6) (by kernel_rfl) rfl (fun K' hK => ?_)
  refine step_el1 (by rfl) (.tmp 14) p (by rfl) (show Value.agg CX = Value.agg (eof p) by rw [HCX.out]) ?_
  rw [HCX.out]
  refine hK.out _ _ (fun _ => HD1.out _ HBA.out) ?_
  clear hK
  refine oneL (i := 7) (by kernel_rfl) rfl (fun K' hK => ?_)
  refine step_append_el (base := B) (by rfl) (.tmp 13) (.tmp 15) (by rfl) (.slice Ae els.length ce) els.length els (by rfl) (own_below K1.out.2.2.2.1 HBA.out) V1.heap.size p (by rfl) HQX.out (by omega) HBS.out.1 ?_
  intro g c' w11 ho hg hat
  have FIN := Lib.hid (put_mid HH.out hp2.out K1.out.1 K1.out.2.1 K1.out.2.2.1 K1.out.2.2.2.1 K1.out.2.2.2.2.1 K1.out.2.2.2.2.2 KH.out.2.1 KH.out.2.2.2.2.2.2.2 HBA.out ho hg hat)
  have HDW : Hid ((fun w' => w'.cell? ⟨G, 2, none⟩ = some (.slice Ae els.length ce) ∧ w'.rangeAt B3 0 CX.toList) w11) := ⟨FIN.out.1.cell 2, Box.range (by rw [Array.toArray_toList]; exact FIN.out.2.1)⟩
  have f11 := FIN.out.1.frozen 2
  have c11 : w11.cell? ⟨G, 2, none⟩ = some (.slice Ae els.length ce) := FIN.out.1.cell 2
  clear ho hg hat
  refine hK.out _ _ (fun _ => HDW.out) ?_
  clear hK
  refine oneL (i := 8) (by kernel_rfl) rfl (fun K' hK => ?_)
  go_simp
  refine hK.out _ _ (fun _ => HDW.out) ?_
  clear hK
  refine oneL (i := 9) (by kernel_rfl) rfl (fun K' hK => ?_)
  go_simp
  refine hK.out _ _ (fun _ => HDW.out) ?_
  clear hK
  refine oneL (i := 10) (by kernel_rfl) rfl (fun K' hK => ?_)
  go_simp
  refine hK.out _ _ (fun e => by simp at e) ?_
  clear hK
  refine doneL (by kernel_rfl) ?_ _
  have F := Lib.hid FIN.out.2.2
  clear f11 c11 HDW FIN
  generalize World.setCell _ ⟨G, 2, none⟩ _ = wF at *
  go_wp2_with fail
  go_end0
  exact ⟨rfl, ⟨_, _, F.out.1⟩, F.out.2⟩
end Go.Proofs.Ytobchecnfkocdaa
