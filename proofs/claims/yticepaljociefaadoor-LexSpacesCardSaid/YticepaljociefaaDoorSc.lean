/- The scanner: its variable, what is left, take. -/
import Derived.Test.YticepaljociefaaDoorNm
import Derived.Test.YticepaljociefaaDoorLat
import Derived.StillTail
import Derived.BigQuiet
import Derived.Deep.Cut
namespace Go.Proofs.YticepaljociefaaDoor
open Go.RowKit Go.Shelf
set_option linter.unusedVariables false

/-- A token's cells. -/
def tkc (t : Tk) : List Value := [.int .i64 t.k, .string (bs t.t), .int .i64 t.n, .int .i64 t.p]
def tkcs (l : List Tk) : List Value := (l.map tkc).flatten
theorem tkcs_len (l : List Tk) : (tkcs l).length = l.length * 4 := by
  unfold tkcs
  induction l with
  | nil => rfl
  | cons t r ih => simp only [List.map_cons, List.flatten_cons, List.length_append, ih, List.length_cons]; show 4 + _ = _; omega
theorem tkcs_app (l : List Tk) (t : Tk) : tkcs (l ++ [t]) = tkcs l ++ tkc t := by simp [tkcs]
theorem tk_info : (Tryd.prog.info? 35).map (fun i => (i.zero, i.size, i.bytes)) = some (some (.agg #[.int .i64 0, .string ⟨#[]⟩, .int .i64 0, .int .i64 0]), 4, 40) := by kernel_rfl

/-- All blocks below lo but sb are as they were. -/
structure Fr (sb lo : Nat) (w w' : World) : Prop where
  os : w'.os = w.os
  tape : w'.tape = w.tape
  output : w'.output = w.output
  size : w.heap.size ≤ w'.heap.size
  block : ∀ k, k < lo → k ≠ sb → w'.heap[k]? = w.heap[k]?
theorem Fr.refl (sb lo : Nat) (w : World) : Fr sb lo w w := ⟨rfl, rfl, rfl, Nat.le_refl _, fun _ _ _ => rfl⟩
theorem Fr.trans {sb lo : Nat} {a b c : World} (h : Fr sb lo a b) (k : Fr sb lo b c) : Fr sb lo a c :=
  ⟨k.os.trans h.os, k.tape.trans h.tape, k.output.trans h.output, Nat.le_trans h.size k.size, fun i hi hn => (k.block i hi hn).trans (h.block i hi hn)⟩
theorem Fr.of_below {sb lo : Nat} {w w' : World} (h : Below lo w w') : Fr sb lo w w' := ⟨h.os, h.tape, h.output, h.size, fun k hk _ => h.block k hk⟩
theorem Fr.below {sb lo B : Nat} {w w' : World} (h : Fr sb lo w w') (h1 : B ≤ sb) (h2 : B ≤ lo) : Below B w w' := ⟨h.os, h.tape, h.output, h.size, fun k hk => h.block k (by omega) (by omega)⟩
theorem Fr.set {sb lo : Nat} (w : World) (i : Nat) (v : Value) : Fr sb lo w (w.setCell ⟨sb, i, none⟩ v) :=
  ⟨rfl, rfl, rfl, by simp [World.setCell], fun k _ hk => Below.heap_setCell _ _ _ _ (fun e => hk e)⟩
theorem Fr.box {sb lo b : Nat} {w w' : World} {cs : Array Value} {t : TypeId} (h : Fr sb lo w w') (hx : Box w b cs t) (h1 : b < lo) (h2 : b ≠ sb) : Box w' b cs t := (h.block b h1 h2).trans hx
theorem Fr.kt {sb lo : Nat} {w w' : World} (h : Fr sb lo w w') (hK : KT w) (h1 : 0 < lo) (h2 : 0 < sb) : KT w' :=
  ⟨Nat.lt_of_lt_of_le hK.1 h.size, fun r hr => (World.cell?_of_block (a := ⟨0, r, none⟩) (h.block 0 h1 (by omega))).trans (hK.2 r hr)⟩
theorem own_set {w : World} {sb lo i n : Nat} {u v : Value} {e : TypeId} {size : Nat} {xs : List Value} (h : w.ownsRow lo e size v n xs) (hlt : sb < lo) : (w.setCell ⟨sb, i, none⟩ u).ownsRow lo e size v n xs :=
  h.kept (set_grown_at w sb i u) (by
    cases hv : v.ownBlock with
    | none => exact .inl rfl
    | some k => exact .inr (fun e => by injection e with e; have := (h.lt k hv).1; omega))
theorem own_grown {w w' : World} {lo n : Nat} {v : Value} {e : TypeId} {size : Nat} {xs : List Value} (h : w.ownsRow lo e size v n xs) (hg : w.grownBy w' v.ownBlock) (hz : lo ≤ w.heap.size) : Below lo w w' :=
  ⟨hg.os, hg.tape, hg.output, hg.size, fun k hk => hg.block k (by omega) (fun e => by have := (h.lt k e.symm).1; omega)⟩

/-- The scanner of a source at a place, with its tokens so far. -/
structure SC (w : World) (sb lo : Nat) (src : List UInt8) (i : Nat) (v : Value) (out : List Tk) : Prop where
  box : Box w sb #[.string (bs src), .int .i64 (i : Int), v] 45
  own : w.ownsRow lo 35 4 v out.length (tkcs out)
  lt : sb < lo
  size : lo ≤ w.heap.size
theorem SC.drew {w : World} {sb lo : Nat} {src : List UInt8} {i : Nat} {v : Value} {out : List Tk} (h : SC w sb lo src i v out) : SC w.drew sb lo src i v out := ⟨h.box.drew, h.own.drew, h.lt, h.size⟩
theorem SC.below {w w' : World} {sb lo : Nat} {src : List UInt8} {i : Nat} {v : Value} {out : List Tk} (h : SC w sb lo src i v out) (hb : Below w.heap.size w w') : SC w' sb lo src i v out := ⟨h.box.below hb, own_below h.own hb, h.lt, Nat.le_trans h.size hb.size⟩
theorem SC.form {w : World} {sb lo : Nat} {src : List UInt8} {i : Nat} {v : Value} {out : List Tk} (h : SC w sb lo src i v out) : ∃ A c, v = .slice A out.length c := own_form h.own
theorem SC.at_ {w : World} {sb lo : Nat} {src : List UInt8} {i : Nat} {v : Value} {out : List Tk} (h : SC w sb lo src i v out) (j : Nat) : SC (w.setCell ⟨sb, 1, none⟩ (.int .i64 (j : Int))) sb lo src j v out :=
  ⟨h.box.set (i := 1) (v := .int .i64 (j : Int)), own_set h.own h.lt, h.lt, by simpa [World.setCell] using h.size⟩

/-- A string; what lay before is as it was. -/
def LStr (l : List UInt8) (w : World) (e : Ending) (w' : World) : Prop := e = .returned (.string (bs l)) ∧ Below w.heap.size w w'
theorem below_drewN (w : World) (n : Nat) : Below w.heap.size w (w.drewN n) := ⟨rfl, rfl, rfl, Nat.le_refl _, fun _ _ => rfl⟩
set_option maxRecDepth 100000 in
theorem left_any (sb lo : Nat) (src : List UInt8) (i : Nat) (v : Value) (out : List Tk) (w : World) (hS : SC w sb lo src i v out) (hi : i ≤ src.length) (hl : src.length ≤ 1000000) :
    Calls Tryd.prog 53 #[.pointer (some ⟨sb, 0, none⟩)] w (LStr (src.drop i) w) := by
  unfold LStr
  have c0 : w.cell? ⟨sb, 0, none⟩ = some (.string (bs src)) := hS.box.cell 0
  have c1 : w.cell? ⟨sb, 1, none⟩ = some (.int .i64 (i : Int)) := hS.box.cell 1
  have hcut : ∀ wx, (Instr.slice 9 (.string (bs src)) (some (.int .i64 (i : Int))) none none).run Tryd.prog wx = .ok (.string (bs (src.drop i))) wx := fun wx => bs_cut hi _ Tryd.underlying9 wx
  clear hS
  go_enter Tryd.func53, Tryd.ntmps53
  go_wp2_with fail
  go_quiet (fail)
  go_wp2_with fail
  go_ret
  exact ⟨rfl, below_drewN w nq⟩

theorem step_append_tk {base : Nat} {w : World} {ops : Array Oper} {o : Oper} {a : Act} {K : Act → World → Prop} {Q : Exit → Act → World → Prop} {E : Prop} (hgd : o.guard = none) (s x : Operand)
    (ho : o.op = .call { callee := .builtin .append, args := #[s, x], argTypes := #[23, 23] })
    (v : Value) (n : Nat) (xs : List Value) (hs : a.eval s = v) (hown : w.ownsRow base 35 4 v n xs)
    (q : Nat) (t : Tk) (hx : a.eval x = .slice (some ⟨q, 0, none⟩) 1 1) (hq : Box w q #[.int .i64 t.k, .string (bs t.t), .int .i64 t.n, .int .i64 t.p] 35) (hn : n ≤ 1000000) (hbase : base ≤ w.heap.size)
    (h : ∀ A' c' w', w'.ownsRow base 35 4 (.slice A' (n + 1) c') (n + 1) (xs ++ tkc t) → w.grownBy w' v.ownBlock → K (a.put o.dst (.slice A' (n + 1) c')) w') :
    if Region.wanted o (yielded ops a.tmps) = true then Oper.wp Tryd.prog o a w K Q else E := by
  have hw : Region.wanted o (yielded ops a.tmps) = true := by simp [Region.wanted, hgd]
  rw [if_pos hw]
  obtain ⟨i0, hi0, hz0, hz1, hz2⟩ := info_parts tk_info
  refine wp_append_own w s x 23 ho base 35 i0 (.agg #[.int .i64 0, .string ⟨#[]⟩, .int .i64 0, .int .i64 0]) 4 40 Tryd.underlying23 hi0 hz0 hz1 hz2 rfl (by decide) v n xs hs hown ⟨q, 0, none⟩ 1 1 (tkc t) hx rfl (World.news_of_block hq) (by intro u hu; simp [tkc] at hu; rcases hu with rfl | rfl | rfl | rfl <;> rfl) (le_maxLen (by omega)) (by omega) hbase ?_
  intro v' w' ho' hg' _
  obtain ⟨A1, c1, rfl⟩ := own_form ho'
  exact h A1 c1 w' ho' hg'

/-- What take does. -/
def TakeP (sb lo : Nat) (src : List UInt8) (i : Nat) (out : List Tk) (w : World) (e : Ending) (w' : World) : Prop :=
  e = .returned (.tuple #[]) ∧ (∃ v, SC w' sb lo src i v out) ∧ Fr sb lo w w'
set_option maxHeartbeats 1000000 in
set_option maxRecDepth 100000 in
theorem take_any (sb lo : Nat) (src : List UInt8) (i m : Nat) (v : Value) (out : List Tk) (k n p0 : Int) (t : List UInt8) (w : World) (hS : SC w sb lo src i v out) (hi : i + m ≤ 1000000) (ho : out.length ≤ 1000000) :
    Calls Tryd.prog 54 #[.pointer (some ⟨sb, 0, none⟩), .agg #[.int .i64 k, .string (bs t), .int .i64 n, .int .i64 p0], .int .i64 (m : Int)] w (TakeP sb lo src (i + m) (out ++ [⟨k, t, n, i⟩]) w) := by
  unfold TakeP
  obtain ⟨j, hj⟩ : ∃ j, i + m = j := ⟨_, rfl⟩
  have him : (i : Int) + (m : Int) = (j : Int) := by omega
  rw [hj] at hi ⊢
  clear hj
  have HLT := Lib.hid (And.intro hS.lt hS.size)
  have hal0 := (Below.refl w.heap.size w).alloc (Nat.le_refl _) (.cells #[.int .i64 k, .string (bs t), .int .i64 n, .int .i64 p0] 35)
  have hal := (Below.refl w.heap.size w).alloc (Nat.le_refl _) (.cells #[.int .i64 k, .string (bs t), .int .i64 n, .int .i64 (i : Int)] 35)
  have c1 : (w.alloc (.cells #[.int .i64 k, .string (bs t), .int .i64 n, .int .i64 p0] 35)).cell? ⟨sb, 1, none⟩ = some (.int .i64 (i : Int)) := (hS.below hal0).box.cell 1
  have HS1 := Lib.hid (hS.below hal)
  have HB1 := Lib.hid (Box.new w #[.int .i64 k, .string (bs t), .int .i64 n, .int .i64 (i : Int)] 35)
  have HF1 := Lib.hid (show Fr sb lo w (w.alloc (.cells #[.int .i64 k, .string (bs t), .int .i64 n, .int .i64 (i : Int)] 35)) from Fr.of_below (hal.mono hS.size))
  obtain ⟨A, c, rfl⟩ := hS.form
  have HGB := Lib.hid (fun g hg => (hS.own.lt g hg).2)
  clear hS hal hal0
  go_enter Tryd.func54, Tryd.ntmps54
  go_upto_region 2 with fail
  clear c1
  generalize w.alloc (.cells #[.int .i64 k, .string (bs t), .int .i64 n, .int .i64 (i : Int)] 35) = W1 at *
  obtain ⟨tb, htb⟩ : ∃ tb, w.heap.size = tb := ⟨_, rfl⟩
  rw [htb] at HB1 HGB ⊢
  have HTB := Lib.hid htb
  clear htb
  have HD := Lib.hid (fun V (hb : Below W1.heap.size W1 V) => show (fun w' => w'.cell? ⟨sb, 2, none⟩ = some (.slice A out.length c) ∧ w'.cell? ⟨tb, 0, none⟩ = some (.int .i64 k) ∧ w'.cell? ⟨tb, 1, none⟩ = some (.string (bs t)) ∧ w'.cell? ⟨tb, 2, none⟩ = some (.int .i64 n) ∧ w'.cell? ⟨tb, 3, none⟩ = some (.int .i64 (i : Int))) V from
    ⟨(HS1.out.below hb).box.cell 2, (HB1.out.below hb).cell 0, (HB1.out.below hb).cell 1, (HB1.out.below hb).cell 2, (HB1.out.below hb).cell 3⟩)
  have HDW := Lib.hid (HD.out W1.drew (Below.refl _ _).drew)
  refine wp_region_later 10 (fun w' => w'.cell? ⟨sb, 2, none⟩ = some (.slice A out.length c) ∧ w'.cell? ⟨tb, 0, none⟩ = some (.int .i64 k) ∧ w'.cell? ⟨tb, 1, none⟩ = some (.string (bs t)) ∧ w'.cell? ⟨tb, 2, none⟩ = some (.int .i64 n) ∧ w'.cell? ⟨tb, 3, none⟩ = some (.int .i64 (i : Int))) (by kernel_rfl) ?_
  refine takeL (d := some 11) (i := 0) (v := ?v0) rfl rfl (by kernel_rfl) (by kernel_rfl) (by kernel_rfl) (fun _ _ _ h => h) rfl (by kernel_rfl) (Or.inl ⟨by rfl, ?y0⟩) HDW.out ?r0
  case y0 =>
    intro w hSw
    try dsimp only at hSw
    go_simp
    all_goals with_reducible rfl
  try simp only [Act.put, List.setIfInBounds_toArray, List.set_cons_zero, List.set_cons_succ]
  refine takeL (d := some 12) (i := 1) (v := ?v1) rfl rfl (by kernel_rfl) (by kernel_rfl) (by kernel_rfl) (fun _ _ _ h => h) rfl (by kernel_rfl) (Or.inl ⟨by rfl, ?y1⟩) HDW.out ?r1
  case y1 =>
    intro w hSw
    try dsimp only at hSw
    go_simp
    all_goals with_reducible rfl
  try simp only [Act.put, List.setIfInBounds_toArray, List.set_cons_zero, List.set_cons_succ]
  refine takeL (d := some 13) (i := 2) (v := ?v2) rfl rfl (by kernel_rfl) (by kernel_rfl) (by kernel_rfl) (fun _ _ _ h => h) rfl (by kernel_rfl) (Or.inl ⟨by rfl, ?y2⟩) HDW.out ?r2
  case y2 =>
    intro w hSw
    try dsimp only at hSw
    go_simp
    all_goals with_reducible rfl
  try simp only [Act.put, List.setIfInBounds_toArray, List.set_cons_zero, List.set_cons_succ]
  refine takeL (d := some 14) (i := 3) (v := ?v3) rfl rfl (by kernel_rfl) (by kernel_rfl) (by kernel_rfl) (fun _ _ _ h => h) rfl (by kernel_rfl) (Or.inl ⟨by rfl, ?y3⟩) HDW.out ?r3
  case y3 =>
    intro w hSw
    try dsimp only at hSw
    go_simp
    all_goals with_reducible rfl
  try simp only [Act.put, List.setIfInBounds_toArray, List.set_cons_zero, List.set_cons_succ]
  refine takeL (d := some 15) (i := 4) (v := ?v4) rfl rfl (by kernel_rfl) (by kernel_rfl) (by kernel_rfl) (fun _ _ _ h => h) rfl (by kernel_rfl) (Or.inl ⟨by rfl, ?y4⟩) HDW.out ?r4
  case y4 =>
    intro w hSw
    try dsimp only at hSw
    go_simp
    all_goals with_reducible rfl
  try simp only [Act.put, List.setIfInBounds_toArray, List.set_cons_zero, List.set_cons_succ]
  refine takeL (d := some 16) (i := 5) (v := ?v5) rfl rfl (by kernel_rfl) (by kernel_rfl) (by kernel_rfl) (fun _ _ _ h => h) rfl (by kernel_rfl) (Or.inl ⟨by rfl, ?y5⟩) HDW.out ?r5
  case y5 =>
    intro w hSw
    try dsimp only at hSw
    go_simp
    all_goals with_reducible rfl
  try simp only [Act.put, List.setIfInBounds_toArray, List.set_cons_zero, List.set_cons_succ]
  refine oneL (i := 6) (by kernel_rfl) rfl (fun K' hK => ?_)
  have hb2 := ((Below.refl W1.heap.size W1).alloc (Nat.le_refl _) (.cells #[.int .i64 k, .string (bs t), .int .i64 n, .int .i64 (i : Int)] 35)).drew
  have HD2 := Lib.hid (HD.out _ hb2)
  have HS2 := Lib.hid (HS1.out.below hb2)
  have HB2 := Lib.hid ((Box.new W1 #[.int .i64 k, .string (bs t), .int .i64 n, .int .i64 (i : Int)] 35).drew)
  have HF2 := Lib.hid (HF1.out.trans (Fr.of_below (hb2.mono HS1.out.size)))
  have HB1' := Lib.hid (HB1.out.below hb2)
  clear hb2
  go_simp
  refine hK.out _ _ (fun _ => HD2.out) ?_
  clear hK
  generalize (W1.alloc (.cells #[.int .i64 k, .string (bs t), .int .i64 n, .int .i64 (i : Int)] 35)).drew = W2 at *
  refine oneL (i := 7) (by kernel_rfl) rfl (fun K' hK => ?_)
  refine step_append_tk (base := lo) (by rfl) (.tmp 15) (.tmp 17) (by rfl) (.slice A out.length c) out.length (tkcs out) (by rfl) HS2.out.own W1.heap.size ⟨k, t, n, i⟩ (by rfl) HB2.out ho HS2.out.size ?_
  intro A3 c3 W3 ho3 hg3
  have hb3 := own_grown HS2.out.own hg3 HS2.out.size
  have hx3 := HS2.out.box.grown hg3 (fun e => by have := (HS2.out.own.lt sb e.symm).1; have := HLT.out.1; omega)
  have HO3 := Lib.hid (show W3.ownsRow lo 35 4 (.slice A3 (out.length + 1) c3) (out ++ [Tk.mk k t n (i : Int)]).length (tkcs (out ++ [Tk.mk k t n (i : Int)])) from by
    rw [tkcs_app, List.length_append]
    exact ho3)
  have HX3 := Lib.hid hx3
  have ht3 := HB1'.out.grown hg3 (fun e => by have := HGB.out tb e.symm; omega)
  have HD3 := Lib.hid (show (fun w' => w'.cell? ⟨sb, 2, none⟩ = some (.slice A out.length c) ∧ w'.cell? ⟨tb, 0, none⟩ = some (.int .i64 k) ∧ w'.cell? ⟨tb, 1, none⟩ = some (.string (bs t)) ∧ w'.cell? ⟨tb, 2, none⟩ = some (.int .i64 n) ∧ w'.cell? ⟨tb, 3, none⟩ = some (.int .i64 (i : Int))) W3 from ⟨hx3.cell 2, ht3.cell 0, ht3.cell 1, ht3.cell 2, ht3.cell 3⟩)
  clear ht3
  have HF3 := Lib.hid (HF2.out.trans (Fr.of_below hb3))
  have HZ3 := Lib.hid (Nat.le_trans HS2.out.size hb3.size)
  clear ho3 hg3 hb3
  have HSC := Lib.hid (show SC ((W3.setCell ⟨sb, 2, none⟩ (.slice A3 (out.length + 1) c3)).setCell ⟨sb, 1, none⟩ (.int .i64 (j : Int))) sb lo src j (.slice A3 (out.length + 1) c3) (out ++ [⟨k, t, n, (i : Int)⟩]) from
    ⟨(hx3.set (i := 2) (v := .slice A3 (out.length + 1) c3)).set (i := 1) (v := .int .i64 (j : Int)), own_set (own_set HO3.out HLT.out.1) HLT.out.1, HLT.out.1, by simpa [World.setCell] using HZ3.out⟩)
  have HFF := Lib.hid (show Fr sb lo w ((W3.setCell ⟨sb, 2, none⟩ (.slice A3 (out.length + 1) c3)).setCell ⟨sb, 1, none⟩ (.int .i64 (j : Int))) from (HF3.out.trans (Fr.set _ 2 _)).trans (Fr.set _ 1 _))
  have HXS := Lib.hid (hx3.set (i := 2) (v := .slice A3 (out.length + 1) c3))
  have z2 := hx3.cell 2
  have f2 := hx3.frozen 2
  clear hx3
  refine hK.out _ _ (fun _ => HD3.out) ?_
  clear hK
  refine oneL (i := 8) (by kernel_rfl) rfl (fun K' hK => ?_)
  go_simp
  refine hK.out _ _ (fun _ => HD3.out) ?_
  clear hK
  refine oneL (i := 9) (by kernel_rfl) rfl (fun K' hK => ?_)
  go_simp
  refine hK.out _ _ (fun _ => HD3.out) ?_
  clear hK
  refine oneL (i := 10) (by kernel_rfl) rfl (fun K' hK => ?_)
  go_simp
  refine hK.out _ _ (fun e => by simp at e) ?_
  clear hK
  refine doneL (by kernel_rfl) ?_ _
  have y1 := HXS.out.cell 1
  have g1 := HXS.out.frozen 1
  clear z2 f2
  go_wp2_with fail
  refine bodyPost_end (results_none Tryd.results54 _ _ _) rfl ?_
  exact ⟨rfl, ⟨_, HSC.out⟩, HFF.out⟩
end Go.Proofs.YticepaljociefaaDoor
