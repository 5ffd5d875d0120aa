/- Regions that draw their order, by a table of what each operation leaves. -/
import Derived.Test.YtdjlblfpkieenaaDoorReg2
import Derived.Test.YtdjlblfpkieenaaDoorApp
import Derived.Deep.MidRow
namespace Go.Proofs.YtdjlblfpkieenaaDoor
open Go.RowKit Go.Sort
set_option linter.unusedVariables false

/-- What an operation leaves: a value; a row of its own; a list of one digest; a new variable. -/
inductive Lf where
  | val (v : Value)
  | row (t : TypeId) (sz n : Nat) (xs : List Value)
  | one (cs : Array Value)
  | ptr (cs : Array Value)
  | any
def Lf.holds (B : Nat) : Lf → Value → World → Prop
  | .val x, v, _ => v = x
  | .row t sz n xs, v, W => ∃ A c, v = .slice A n c ∧ W.ownsRow B t sz v n xs
  | .one cs, v, W => ∃ g, v = .slice (some ⟨g, 0, none⟩) 1 1 ∧ Box W g cs 26
  | .ptr cs, v, W => ∃ g, v = .pointer (some ⟨g, 0, none⟩) ∧ B ≤ g ∧ Box W g cs 26
  | .any, _, _ => True
def Lf.mem : Lf → Bool
  | .val _ => false
  | .any => false
  | _ => true
theorem Lf.lasts {B : Nat} : ∀ (f : Lf) (v : Value) (w w' : World), f.holds B v w → Below w.heap.size w w' → f.holds B v w'
  | .val _, _, _, _, h, _ => h
  | .row _ _ _ _, _, _, _, ⟨A, c, h1, h2⟩, hb => ⟨A, c, h1, own_below h2 hb⟩
  | .one _, _, _, _, ⟨g, h1, h2⟩, hb => ⟨g, h1, h2.below hb⟩
  | .ptr _, _, _, _, ⟨g, h1, h2, h3⟩, hb => ⟨g, h1, h2, h3.below hb⟩
  | .any, _, _, _, _, _ => trivial
theorem Lf.lt {B : Nat} : ∀ {f : Lf} {u : Value} {w : World}, f.mem = true → f.holds B u w → ∀ g, blk u = some g → g < w.heap.size
  | .val _, _, _, h, _ => by cases h
  | .row _ _ _ _, u, w, _, ⟨A, c, h1, h2⟩ => fun g hg => by
    rw [h1, blk_own, ← h1] at hg
    exact (h2.lt g hg).2
  | .one _, u, w, _, ⟨g', h1, h2⟩ => fun g hg => by
    rw [h1] at hg
    injection hg with hg
    subst hg
    exact h2.lt
  | .ptr _, u, w, _, ⟨g', h1, _, h2⟩ => fun g hg => by
    rw [h1] at hg
    injection hg with hg
    subst hg
    exact h2.lt
  | .any, _, _, h, _ => by cases h
theorem Lf.kept {B : Nat} {r : Option Nat} : ∀ {f : Lf} {u : Value} {w w' : World}, f.holds B u w → w.grownBy w' r → (f.mem = true → ∀ g, r = some g → blk u ≠ some g) → f.holds B u w'
  | .val _, _, _, _, h, _, _ => h
  | .row _ _ _ _, u, w, w', ⟨A, c, h1, h2⟩, hg, hne => by
    refine ⟨A, c, h1, h2.kept hg ?_⟩
    cases ho : u.ownBlock with
    | none => exact .inl rfl
    | some g =>
      refine .inr fun e => hne rfl g e.symm ?_
      rw [h1, blk_own, ← h1, ho]
  | .one _, u, w, w', ⟨g, h1, h2⟩, hg, hne => ⟨g, h1, h2.grown hg fun e => hne rfl g e.symm (by rw [h1]; rfl)⟩
  | .ptr _, u, w, w', ⟨g, h1, h2, h3⟩, hg, hne => ⟨g, h1, h2, h3.grown hg fun e => hne rfl g e.symm (by rw [h1]; rfl)⟩
  | .any, _, _, _, _, _, _ => trivial

def phiT (B : Nat) (T : List Lf) (i : Nat) (v : Value) (w : World) : Prop := (T.getD i .any).holds B v w
def psiT (T : List Lf) (i j : Nat) (v u : Value) : Prop := (T.getD i .any).mem = true → (T.getD j .any).mem = true → ∀ g, blk v = some g → blk u ≠ some g
def Aft (W0 W : World) : Prop := Below W0.heap.size W0 W

section
variable {frame : (Nat → Value) → Act} {W0 : World} {T : List Lf} {eats : Nat → Nat → Bool} {l : List Oper} {n : Nat} {Q : Exit → Act → World → Prop}
theorem leftT {use : Nat → Bool} {i : Nat} {vs : Nat → Value} {w w' : World} {a' : Act} (v : Value) (h1 : a' = frame (upd vs i v)) (hb : Below w.heap.size w w') (hC : Aft W0 w) (h4 : (T.getD i .any).holds W0.heap.size v w')
    (hn : (T.getD i .any).mem = true → ∀ g, blk v = some g → g = w.heap.size) : LeftG frame (Aft W0) (phiT W0.heap.size T) (psiT T) eats use i vs w a' w' :=
  LeftG.below v h1 hb (hC.trans (hb.mono hC.size)) h4 (fun j u w w' h hb => Lf.lasts _ u w w' h hb) fun j u hj hu =>
    ⟨fun hi hk g hg he => by have := Lf.lt hk hu g he; have := hn hi g hg; omega, fun hk hi g hg he => by have := Lf.lt hk hu g hg; have := hn hi g he; omega⟩
theorem left_val {use : Nat → Bool} {i : Nat} {vs : Nat → Value} {w w' : World} {a' : Act} (v : Value) (hT : T.getD i .any = .val v) (h1 : a' = frame (upd vs i v)) (hb : Below w.heap.size w w') (hC : Aft W0 w) :
    LeftG frame (Aft W0) (phiT W0.heap.size T) (psiT T) eats use i vs w a' w' :=
  leftT v h1 hb hC (by rw [hT]; rfl) (fun h => by rw [hT] at h; cases h)
/-- An append to the row that js left. -/
theorem left_app {i js : Nat} {use : Nat → Bool} {vs : Nat → Value} {w w' : World} {a' : Act} {t : TypeId} {sz k0 N : Nat} {xs ys : List Value} {A' : Option Addr} {c' : Nat} (hT : T.getD i .any = .row t sz N ys) (hTs : T.getD js .any = .row t sz k0 xs)
    (hus : use js = true) (he : eats i js = true) (hC : Aft W0 w) (hd : phiT W0.heap.size T js (vs js) w) (h1 : a' = frame (upd vs i (.slice A' N c'))) (ho : w'.ownsRow W0.heap.size t sz (.slice A' N c') N ys) (hg : w.grownBy w' (vs js).ownBlock)
    (hown : (Value.slice A' N c').ownBlock = (vs js).ownBlock ∨ (Value.slice A' N c').ownBlock = some w.heap.size) : LeftG frame (Aft W0) (phiT W0.heap.size T) (psiT T) eats use i vs w a' w' := by
  unfold phiT at hd
  rw [hTs] at hd
  obtain ⟨A, c, e, hr⟩ := hd
  have hq : ∀ q, (vs js).ownBlock = some q → blk (vs js) = some q := fun q h => by rw [e, blk_own, ← e]; exact h
  refine ⟨.slice A' N c', h1, hC.grown hg hC.size (fun q hq => (hr.lt q hq).1), ?_, ?_, ?_⟩
  · unfold phiT
    rw [hT]
    exact ⟨A', c', rfl, ho⟩
  · intro k u hk hek hu hps
    have hkj : k ≠ js := fun e => by subst e; rw [he] at hek; cases hek
    exact Lf.kept hu hg fun hm q hq' => hps js hus (fun e => hkj e.symm) (by rw [hTs]; rfl) hm q (hq q hq')
  · intro k u hk hek hu hps
    have hkj : k ≠ js := fun e => by subst e; rw [he] at hek; cases hek
    have key : (T.getD k .any).mem = true → ∀ q, blk (.slice A' N c') = some q → blk u ≠ some q := fun hm q hq' => by
      rw [blk_own] at hq'
      rcases hown with h | h
      · rw [h] at hq'
        exact hps js hus (fun e => hkj e.symm) (by rw [hTs]; rfl) hm q (hq q hq')
      · rw [h] at hq'
        injection hq' with hq'
        intro he2
        have := Lf.lt hm hu q he2
        omega
    exact ⟨fun _ hm q hq' => key hm q hq', fun hm _ q hq' he2 => key hm q he2 hq'⟩

variable (frame W0 T eats l n Q)
abbrev StepT (o : Oper) (i : Nat) : Prop := StepG frame (Aft W0) (phiT W0.heap.size T) (psiT T) eats l n Q Tryd.prog o i
variable {frame W0 T eats l n Q}
theorem st_b0 {o : Oper} {i : Nat} (hT : T.getD i .any = .row 26 32 0 []) (hgd : o.guard = none) (ho : o.op = .buildSlice 30 0 #[]) (hp : ∀ vs v, (frame vs).put o.dst v = frame (upd vs i v)) :
    StepT frame W0 T eats l n Q o i := by
  constructor
  intro vs W hC hd
  have hb := (Below.refl W.heap.size W).alloc (Nat.le_refl _) (.cells #[] 26)
  refine ⟨wants hgd, fun K hK => wp_b0 ho (hK _ _ (leftT (.slice (some ⟨W.heap.size, 0, none⟩) 0 0) (hp vs _) hb hC ?_ (fun _ g h => by injection h with h; exact h.symm)))⟩
  rw [hT]
  exact ⟨_, _, rfl, World.ownsRow_lit W #[] 0 hC.size (by unfold maxLen; omega) rfl⟩
theorem run_c0 (w : World) : (Instr.buildSlice 22 0 #[]).run Tryd.prog w = .ok (.slice (some ⟨w.heap.size, 0, none⟩) 0 0) (w.alloc (.cells #[] 5)) := by
  kernel_rfl
theorem st_c0 {o : Oper} {i : Nat} (hT : T.getD i .any = .row 5 1 0 []) (hgd : o.guard = none) (ho : o.op = .buildSlice 22 0 #[]) (hp : ∀ vs v, (frame vs).put o.dst v = frame (upd vs i v)) :
    StepT frame W0 T eats l n Q o i := by
  constructor
  intro vs W hC hd
  have hb := (Below.refl W.heap.size W).alloc (Nat.le_refl _) (.cells #[] 5)
  refine ⟨wants hgd, fun K hK => ?_⟩
  unfold Oper.wp execOp
  simp only [ho, Sem.run_bind, Sem.run_pure, Result.andThen_ok, List.map_toArray, List.map_nil, run_c0]
  refine hK _ _ (leftT (.slice (some ⟨W.heap.size, 0, none⟩) 0 0) (hp vs _) hb hC ?_ (fun _ g h => by injection h with h; exact h.symm))
  rw [hT]
  exact ⟨_, _, rfl, own_empty W hC.size⟩
theorem st_b1 {o : Oper} {i : Nat} (jx : Nat) (x : Operand) {LD : List Value} (hT : T.getD i .any = .one LD.toArray) (hTx : T.getD jx .any = .val (.agg LD.toArray)) (hux : usable eats l n i jx = true) (hgd : o.guard = none) (ho : o.op = .buildSlice 30 1 #[(0, x)])
    (hx : ∀ vs, (frame vs).eval x = vs jx) (hL : LD.length = 32) (hp : ∀ vs v, (frame vs).put o.dst v = frame (upd vs i v)) :
    StepT frame W0 T eats l n Q o i := by
  constructor
  intro vs W hC hd
  have e := hd jx hux
  unfold phiT at e
  rw [hTx] at e
  have hb := (Below.refl W.heap.size W).alloc (Nat.le_refl _) (.cells LD.toArray 26)
  refine ⟨wants hgd, fun K hK => wp_b1 x ho ((hx vs).trans e) hL (hK _ _ (leftT (.slice (some ⟨W.heap.size, 0, none⟩) 1 1) (hp vs _) hb hC ?_ (fun _ g h => by injection h with h; exact h.symm)))⟩
  rw [hT]
  exact ⟨_, rfl, Box.new W _ _⟩
theorem st_al {o : Oper} {i : Nat} (hT : T.getD i .any = .ptr dz) (hgd : o.guard = none) (ho : o.op = .alloc 26) (hp : ∀ vs v, (frame vs).put o.dst v = frame (upd vs i v)) :
    StepT frame W0 T eats l n Q o i := by
  constructor
  intro vs W hC hd
  have hb := (Below.refl W.heap.size W).alloc (Nat.le_refl _) (.cells dz 26)
  refine ⟨wants hgd, fun K hK => wp_al ho (hK _ _ (leftT (.pointer (some ⟨W.heap.size, 0, none⟩)) (hp vs _) hb hC ?_ (fun _ g h => by injection h with h; exact h.symm)))⟩
  rw [hT]
  exact ⟨_, rfl, hC.size, Box.new W _ _⟩
/-- append(row, slice of digests that were there before). -/
theorem st_apd {o : Oper} {i : Nat} (js jx : Nat) (s x : Operand) {k m N : Nat} {xs : List Value} {A : Option Addr} {c : Nat} {ds : List (List UInt8)} (hT : T.getD i .any = .row 26 32 N (xs ++ flat ds)) (hTs : T.getD js .any = .row 26 32 k xs)
    (hTx : T.getD jx .any = .val (.slice A m c)) (hus : usable eats l n i js = true) (hux : usable eats l n i jx = true) (he : eats i js = true) (hgd : o.guard = none)
    (ho : o.op = .call { callee := .builtin .append, args := #[s, x], argTypes := #[30, 30] }) (hs : ∀ vs, (frame vs).eval s = vs js) (hx : ∀ vs, (frame vs).eval x = vs jx) (hp : ∀ vs v, (frame vs).put o.dst v = frame (upd vs i v))
    (hm : ds.length = m) (hD : Ds W0.heap.size W0 A ds) (hnil : A = none → c = 0) (hN : k + m = N) (hn : N ≤ 1000000) : StepT frame W0 T eats l n Q o i := by
  constructor
  intro vs W hC hd
  have e := hd jx hux
  unfold phiT at e
  rw [hTx] at e
  have hd1 := hd js hus
  have hd2 := hd1
  unfold phiT at hd2
  rw [hTs] at hd2
  obtain ⟨A1, c1, e1, hr⟩ := hd2
  refine ⟨wants hgd, fun K hK => wp_apd W0.heap.size (v := vs js) s x ho (hs vs) hr hC.size A ds m c hm ((hx vs).trans e) (hD.up hC) hnil N hN hn fun A' c' w' ho' hg' hown' => ?_⟩
  exact hK _ _ (left_app hT hTs hus he hC hd1 (hp vs _) ho' hg' hown')
/-- append(row, d) with the list of one digest that jx left. -/
theorem st_ap1 {o : Oper} {i : Nat} (js jx : Nat) (s x : Operand) {k N : Nat} {xs LD : List Value} (hT : T.getD i .any = .row 26 32 N (xs ++ LD)) (hTs : T.getD js .any = .row 26 32 k xs)
    (hTx : T.getD jx .any = .one LD.toArray) (hus : usable eats l n i js = true) (hux : usable eats l n i jx = true) (he : eats i js = true) (hgd : o.guard = none)
    (ho : o.op = .call { callee := .builtin .append, args := #[s, x], argTypes := #[30, 30] }) (hs : ∀ vs, (frame vs).eval s = vs js) (hx : ∀ vs, (frame vs).eval x = vs jx) (hp : ∀ vs v, (frame vs).put o.dst v = frame (upd vs i v))
    (hL : LD.length = 32) (hone : ∀ u ∈ LD, u.oneCell' = true) (hN : k + 1 = N) (hn : N ≤ 1000000) : StepT frame W0 T eats l n Q o i := by
  constructor
  intro vs W hC hd
  have e := hd jx hux
  unfold phiT at e
  rw [hTx] at e
  obtain ⟨g, e, hbx⟩ := e
  have hd1 := hd js hus
  have hd2 := hd1
  unfold phiT at hd2
  rw [hTs] at hd2
  obtain ⟨A1, c1, e1, hr⟩ := hd2
  refine ⟨wants hgd, fun K hK => wp_ap1 W0.heap.size (v := vs js) s x ho (hs vs) hr hC.size ((hx vs).trans e) hbx hL hone N hN hn fun A' c' w' ho' hg' hown' => ?_⟩
  exact hK _ _ (left_app hT hTs hus he hC hd1 (hp vs _) ho' hg' hown')
/-- append(row, bytes of a variable that was there before). -/
theorem st_apb {o : Oper} {i : Nat} (js jx : Nat) (s x : Operand) {k m N : Nat} {xs : List Value} {ad : Addr} {c : Nat} {L : List UInt8} (hT : T.getD i .any = .row 5 1 N (xs ++ L.map bv)) (hTs : T.getD js .any = .row 5 1 k xs)
    (hTx : T.getD jx .any = .val (.slice (some ad) m c)) (hus : usable eats l n i js = true) (hux : usable eats l n i jx = true) (he : eats i js = true) (hgd : o.guard = none)
    (ho : o.op = .call { callee := .builtin .append, args := #[s, x], argTypes := #[22, 22] }) (hs : ∀ vs, (frame vs).eval s = vs js) (hx : ∀ vs, (frame vs).eval x = vs jx) (hp : ∀ vs v, (frame vs).put o.dst v = frame (upd vs i v))
    (hm : L.length = m) (hS : Sl W0 (some ad) L c) (hN : k + m = N) (hn : N ≤ 1000000) : StepT frame W0 T eats l n Q o i := by
  constructor
  intro vs W hC hd
  have e := hd jx hux
  unfold phiT at e
  rw [hTx] at e
  have hd1 := hd js hus
  have hd2 := hd1
  unfold phiT at hd2
  rw [hTs] at hd2
  obtain ⟨A1, c1, e1, hr⟩ := hd2
  subst hN
  obtain ⟨i0, hi0, hz0, hz1, hz2⟩ := info_parts u8_info
  obtain ⟨v', w', hr', h2, h3, _, h5⟩ := run_append_own_at (P := Tryd.prog) W W0.heap.size 22 o.type 5 i0 (.int .u8 0) 1 1 Tryd.underlying22 hi0 hz0 hz1 hz2 rfl (by decide) (vs js) k xs hr ad m c (L.map bv) (by rw [List.length_map, hm, Nat.mul_one])
    (hS.up hC).news (bv_one L) (le_maxLen (by omega)) (by omega) hC.size
  obtain ⟨A', c', rfl⟩ := own_form h2
  refine ⟨wants hgd, fun K hK => ?_⟩
  unfold Oper.wp execOp
  simp only [ho, resolve, invoke, builtin, Sem.run_bind, Sem.run_pure, Result.andThen_ok, List.map_toArray, List.map_cons, List.map_nil, hs vs, (hx vs).trans e, hr']
  exact hK _ _ (left_app hT hTs hus he hC hd1 (hp vs _) h2 h3 h5)
/-- Loads. -/
theorem st_ld {o : Oper} {i : Nat} (x : Operand) (g : Nat) {cs : Array Value} (hT : T.getD i .any = .val (.agg cs)) (hw : ∀ vs W, (∀ j, usable eats l n i j = true → phiT W0.heap.size T j (vs j) W) → Region.wanted o (yielded l.toArray (frame vs).tmps) = true)
    (ho : o.op = .load 26 x) (hx : ∀ vs, (frame vs).eval x = .pointer (some ⟨g, 0, none⟩)) (hg : Box W0 g cs 26) (hC1 : DF cs) (hp : ∀ vs v, (frame vs).put o.dst v = frame (upd vs i v)) :
    StepT frame W0 T eats l n Q o i := by
  constructor
  intro vs W hC hd
  exact ⟨hw vs W hd, fun K hK => wp_ldrow x ho g (hx vs) (hg.below hC) hC1 (hK _ _ (left_val _ hT (hp vs _) (Below.refl _ _) hC))⟩
theorem st_ldmid {o : Oper} {i : Nat} (jx : Nat) (x : Operand) (b off : Nat) {cs : List Value} {C : Array Value} (hC0 : cs.toArray = C) (hT : T.getD i .any = .val (.agg C)) (hTx : T.getD jx .any = .val (.pointer (some ⟨b, off, none⟩))) (hux : usable eats l n i jx = true)
    (hw : ∀ vs W, (∀ j, usable eats l n i j = true → phiT W0.heap.size T j (vs j) W) → Region.wanted o (yielded l.toArray (frame vs).tmps) = true)
    (ho : o.op = .load 26 x) (hx : ∀ vs, (frame vs).eval x = vs jx) (hr : W0.rangeAt b off cs) (hi : (Tryd.prog.info? 26).map (·.size) = some cs.length) (hp : ∀ vs v, (frame vs).put o.dst v = frame (upd vs i v)) :
    StepT frame W0 T eats l n Q o i := by
  subst hC0
  constructor
  intro vs W hC hd
  have e := hd jx hux
  unfold phiT at e
  rw [hTx] at e
  exact ⟨hw vs W hd, fun K hK => wp_load_mid 26 x ho b off ((hx vs).trans e) cs _ (range_below hr hC) Tryd.underlying26 rfl hi (hK _ _ (left_val _ hT (hp vs _) (Below.refl _ _) hC))⟩
end
end Go.Proofs.YtdjlblfpkieenaaDoor
