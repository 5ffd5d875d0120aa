/- Acts that wait: a row of the call's own, whose cells' kinds are known; small boxes of bytes; what a disk reaches lies in neither. -/
import Derived.Test.YtiphajgmjmjanaaRow
import Derived.Test.YtiphajgmjmjanaaKeep
import Derived.Test.YtiphajgmjmjanaaPlH
namespace Go.Proofs.Ytiphajgmjmjanaa
open Go.RowKit
set_option linter.unusedVariables false
set_option linter.unusedSimpArgs false

theorem AA.up {w w' : World} {A : Option Addr} {l : List (Bool × UInt8 × UInt8)} {c : Nat} (h : AA w A l c) (k : Below w.heap.size w w') : AA w' A l c := by
  refine ⟨fun hp => ?_, h.2⟩
  obtain ⟨b, off, e, hb, hs⟩ := h.1 hp
  refine ⟨b, off, e, Nat.lt_of_lt_of_le hb k.size, fun i s hi => ?_⟩
  obtain ⟨h1, h2, h3⟩ := hs i s hi
  exact ⟨(k.cell (p := ⟨b, off + i * 3, none⟩) hb).trans h1, (k.cell (p := ⟨b, off + i * 3 + 1, none⟩) hb).trans h2, (k.cell (p := ⟨b, off + i * 3 + 2, none⟩) hb).trans h3⟩
theorem box_keep4 {w : World} {g b : Nat} {t : TypeId} {cs : Array Value} (v0 v1 v2 v3 : Value) (h : Box w g cs t) (hne : g ≠ b) : Box ((((w.setCell ⟨b, 0, none⟩ v0).setCell ⟨b, 1, none⟩ v1).setCell ⟨b, 2, none⟩ v2).setCell ⟨b, 3, none⟩ v3) g cs t :=
  box_other (box_other (box_other (box_other h hne) hne) hne) hne

theorem act_info : (Try.prog.info? 46).map (fun i => (i.zero, i.size, i.bytes)) = some (some (.agg #[.bool false, .int .u8 0, .int .u8 0]), 3, 3) := by kernel_rfl

/-- What a disk reaches stays, where a block changes in which no row, no write and no whole sector lies. -/
theorem DkIn.apart {w w' : World} {d : Dk} {A B : Option Addr} {c k g : Nat} (h : DkIn w d A c B k) (hw : whl d) (hg : w.grownBy w' (some g))
    (h1 : ∀ off s e, Sl w (some ⟨g, off, none⟩) s e → s.length ≠ 128) (h2 : ∀ off (f : Nat → Option Addr × Nat × Nat), 0 < d.secs.length → ¬ (∀ i, i < d.secs.length → w.cell? ⟨g, off + i, none⟩ = some (.slice (f i).1 (f i).2.1 (f i).2.2))) (h3 : ∀ off x D n e, w.cell? ⟨g, off, none⟩ = some (.int .i64 x) → w.cell? ⟨g, off + 1, none⟩ = some (.slice D n e) → False) : DkIn w' d A c B k := by
  have hsl : ∀ D s e, s.length = 128 → Sl w D s e → Sl w' D s e := fun D s e hs hD => hD.keep hg (fun b off he => by
    subst he
    intro hb
    injection hb with hb
    subst hb
    exact h1 off s e hD hs)
  constructor
  · refine ⟨fun hp => ?_, h.1.2⟩
    obtain ⟨b, off, e, hb, hat⟩ := h.1.1 hp
    have hne : b ≠ g := by
      intro hbg
      subst hbg
      have hex : ∀ i, ∃ f : Option Addr × Nat × Nat, i < d.secs.length → w.cell? ⟨b, off + i, none⟩ = some (.slice f.1 f.2.1 f.2.2) := by
        intro i
        by_cases hi : i < d.secs.length
        · obtain ⟨D, n, q1, _⟩ := hat i _ (List.getElem?_eq_getElem hi)
          exact ⟨(D, _, n), fun _ => q1⟩
        · exact ⟨(none, 0, 0), fun h => absurd h hi⟩
      exact h2 off (fun i => Classical.choose (hex i)) hp (fun i hi => Classical.choose_spec (hex i) hi)
    refine ⟨b, off, e, Nat.lt_of_lt_of_le hb hg.size, fun i s hi => ?_⟩
    obtain ⟨D, n, q1, q2⟩ := hat i s hi
    exact ⟨D, n, hg.cell q1 (by simpa using hne), hsl D s n (hw.1 s (List.mem_of_getElem? hi)) q2⟩
  · refine ⟨fun hp => ?_, h.2.2⟩
    obtain ⟨b, off, e, hb, hat⟩ := h.2.1 hp
    have hne : b ≠ g := by
      intro hbg
      subst hbg
      obtain ⟨D, n, q0, q1, _⟩ := hat 0 _ (List.getElem?_eq_getElem hp)
      exact h3 _ _ _ _ _ q0 q1
    refine ⟨b, off, e, Nat.lt_of_lt_of_le hb hg.size, fun i s hi => ?_⟩
    obtain ⟨D, n, q0, q1, q2⟩ := hat i s hi
    exact ⟨D, n, hg.cell q0 (by simpa using hne), hg.cell q1 (by simpa using hne), hsl D s.2 n (hw.2 s (List.mem_of_getElem? hi)) q2⟩

/-! Small boxes of bytes. -/
def arr (F : List UInt8) : Array Value := (F.map bv).toArray
theorem arr_cell {w : World} {b : Nat} {F : List UInt8} {t : TypeId} (h : Box w b (arr F) t) (i : Nat) : w.cell? ⟨b, i, none⟩ = (F[i]?).map bv := by
  rw [h.cell]
  unfold arr
  simp
theorem arr_set {w : World} {b i : Nat} {F : List UInt8} {t : TypeId} {x : UInt8} (h : Box w b (arr F) t) : Box (w.setCell ⟨b, i, none⟩ (bv x)) b (arr (F.set i x)) t := by
  have := h.set (i := i) (v := bv x)
  have e : (arr F).setIfInBounds i (bv x) = arr (F.set i x) := by
    unfold arr
    simp [List.map_set]
  rw [e] at this
  exact this
theorem DkIn.small {w : World} {d : Dk} {A B : Option Addr} {c k b i : Nat} {F : List UInt8} {t : TypeId} {v : Value} (h : DkIn w d A c B k) (hw : whl d) (hb : Box w b (arr F) t) (hF : F.length < 128) : DkIn (w.setCell ⟨b, i, none⟩ v) d A c B k := by
  refine h.apart hw (set_grown_at w b i v) (fun off s e hs hl => sl_no_box hs hl hb (by unfold arr; simpa using hF)) (fun off f hp hf => ?_) (fun off x D n e h0 _ => ?_)
  · have := hf 0 hp
    rw [arr_cell hb] at this
    cases hq : F[off + 0]? with
    | none => rw [hq] at this; cases this
    | some y => rw [hq] at this; simp [bv] at this
  · rw [arr_cell hb] at h0
    cases hq : F[off]? with
    | none => rw [hq] at h0; cases h0
    | some y => rw [hq] at h0; simp [bv] at h0

/-! The row of acts. -/
def acf : List (Bool × UInt8 × UInt8) → List Value
  | [] => []
  | a :: l => .bool a.1 :: bv a.2.1 :: bv a.2.2 :: acf l
theorem acf_length : ∀ l, (acf l).length = l.length * 3
  | [] => rfl
  | a :: l => by simp [acf, acf_length l]; omega
theorem acf_snoc (a : Bool × UInt8 × UInt8) : ∀ l, acf (l ++ [a]) = acf l ++ [.bool a.1, bv a.2.1, bv a.2.2]
  | [] => rfl
  | x :: l => by simp [acf, acf_snoc a l]
theorem acf_at {a : Bool × UInt8 × UInt8} : ∀ {l : List (Bool × UInt8 × UInt8)} {i : Nat}, l[i]? = some a → (acf l)[i * 3]? = some (.bool a.1) ∧ (acf l)[i * 3 + 1]? = some (bv a.2.1) ∧ (acf l)[i * 3 + 2]? = some (bv a.2.2)
  | [], i, h => by cases h
  | x :: l, 0, h => by cases h; exact ⟨rfl, rfl, rfl⟩
  | x :: l, i + 1, h => by
    obtain ⟨h1, h2, h3⟩ := acf_at (l := l) (i := i) (by simpa using h)
    rw [show (i + 1) * 3 = i * 3 + 1 + 1 + 1 by omega]
    exact ⟨h1, h2, h3⟩
/-- The kinds of an act's cells. -/
def kd (j : Nat) (u : Value) : Prop := (j % 3 = 0 ∧ ∃ q, u = .bool q) ∨ (j % 3 ≠ 0 ∧ ∃ q, u = .int .u8 q)
theorem acf_kd : ∀ (l : List (Bool × UInt8 × UInt8)) (j : Nat) (u : Value), (acf l)[j]? = some u → kd j u
  | [], j, u, h => by cases h
  | x :: l, 0, u, h => by cases h; exact .inl ⟨rfl, _, rfl⟩
  | x :: l, 1, u, h => by cases h; exact .inr ⟨by decide, _, rfl⟩
  | x :: l, 2, u, h => by cases h; exact .inr ⟨by decide, _, rfl⟩
  | x :: l, j + 3, u, h => by
    have := acf_kd l j u (by simpa [acf] using h)
    unfold kd at this ⊢
    rw [show (j + 3) % 3 = j % 3 by omega]
    exact this
def WT (w : World) (lo g c : Nat) (l : List (Bool × UInt8 × UInt8)) : Prop := ∃ cur : Array Value, Box w g cur 46 ∧ lo ≤ g ∧ l.length ≤ c ∧ c ≤ maxLen ∧ cur.size = c * 3 ∧ cur.toList.take (l.length * 3) = acf l ∧ ∀ j u, cur[j]? = some u → kd j u
theorem WT.grown {w w' : World} {lo g c : Nat} {l : List (Bool × UInt8 × UInt8)} {row : Option Nat} (h : WT w lo g c l) (hg : w.grownBy w' row) (hne : some g ≠ row) : WT w' lo g c l := by
  obtain ⟨cur, h1, h2⟩ := h
  exact ⟨cur, h1.grown hg hne, h2⟩
theorem WT.up {w w' : World} {lo g c : Nat} {l : List (Bool × UInt8 × UInt8)} (h : WT w lo g c l) (hb : Below w.heap.size w w') : WT w' lo g c l := by
  obtain ⟨cur, h1, h2⟩ := h
  exact ⟨cur, h1.below hb, h2⟩
theorem WT.set {w : World} {lo g c b i : Nat} {l : List (Bool × UInt8 × UInt8)} {v : Value} (h : WT w lo g c l) (hb : b < lo) : WT (w.setCell ⟨b, i, none⟩ v) lo g c l := by
  have hlo : lo ≤ g := by obtain ⟨_, _, h2, _⟩ := h; exact h2
  exact h.grown (set_grown_at w b i v) (by intro e; injection e; omega)
theorem WT.lo {w : World} {lo g c : Nat} {l : List (Bool × UInt8 × UInt8)} (h : WT w lo g c l) : lo ≤ g ∧ g < w.heap.size ∧ l.length ≤ c := by
  obtain ⟨cur, h1, h2, h3, _⟩ := h
  exact ⟨h2, h1.lt, h3⟩
theorem WT.new (w : World) (lo : Nat) (h : lo ≤ w.heap.size) : WT (w.alloc (.cells #[] 46)) lo w.heap.size 0 [] :=
  ⟨#[], Box.new w _ _, h, Nat.le_refl _, Nat.zero_le _, rfl, rfl, fun j u hu => by simp at hu⟩
theorem WT.at_ {w : World} {lo g c i : Nat} {l : List (Bool × UInt8 × UInt8)} {a : Bool × UInt8 × UInt8} (h : WT w lo g c l) (hi : l[i]? = some a) : w.cell? ⟨g, i * 3, none⟩ = some (.bool a.1) ∧ w.cell? ⟨g, i * 3 + 1, none⟩ = some (bv a.2.1) ∧ w.cell? ⟨g, i * 3 + 2, none⟩ = some (bv a.2.2) := by
  obtain ⟨cur, h1, _, _, _, _, h6, _⟩ := h
  have hil := (List.getElem?_eq_some_iff.1 hi).1
  have hc : ∀ j, j < l.length * 3 → w.cell? ⟨g, j, none⟩ = (acf l)[j]? := fun j hj => by
    rw [h1.cell, ← h6, List.getElem?_take, if_pos hj]
    simp
  obtain ⟨q1, q2, q3⟩ := acf_at hi
  exact ⟨(hc _ (by omega)).trans q1, (hc _ (by omega)).trans q2, (hc _ (by omega)).trans q3⟩
/-- What a disk reaches does not lie in the row. -/
theorem DkIn.wt {w w' : World} {d : Dk} {A B : Option Addr} {c k lo g cg : Nat} {l : List (Bool × UInt8 × UInt8)} (h : DkIn w d A c B k) (hw : whl d) (hW : WT w lo g cg l) (h4 : 3 ≤ d.secs.length) (hg : w.grownBy w' (some g)) : DkIn w' d A c B k := by
  obtain ⟨cur, h1, _, _, _, _, _, hk⟩ := hW
  have hc : ∀ j u, w.cell? ⟨g, j, none⟩ = some u → kd j u := fun j u hu => hk j u (by rw [h1.cell] at hu; exact hu)
  refine h.apart hw hg (fun off s e hs hl => ?_) (fun off f hp hf => ?_) (fun off x D n e h0 _ => ?_)
  · obtain ⟨b', off', e', _, hat⟩ := hs.1 (by omega)
    cases e'
    have g0 := hc _ _ (hat 0 s[0] (List.getElem?_eq_getElem (by omega)))
    have g1 := hc _ _ (hat 1 s[1] (List.getElem?_eq_getElem (by omega)))
    have g2 := hc _ _ (hat 2 s[2] (List.getElem?_eq_getElem (by omega)))
    rcases g0 with ⟨_, q, e⟩ | ⟨n0, _⟩
    · simp [bv] at e
    · rcases g1 with ⟨_, q, e⟩ | ⟨n1, _⟩
      · simp [bv] at e
      · rcases g2 with ⟨_, q, e⟩ | ⟨n2, _⟩
        · simp [bv] at e
        · omega
  · have g0 := hc _ _ (hf 0 (by omega))
    rcases g0 with ⟨_, q, e⟩ | ⟨n0, q, e⟩ <;> simp at e
  · rcases hc _ _ h0 with ⟨_, q, e⟩ | ⟨_, q, e⟩ <;> simp at e

theorem zero_kd (m j : Nat) (u : Value) (h : (Builtin.zeroCells #[Value.bool false, .int .u8 0, .int .u8 0] m)[j]? = some u) : kd j u := by
  unfold Builtin.zeroCells at h
  have hj : j < m * 3 := by
    have := (Array.getElem?_eq_some_iff.1 h).1
    simpa using this
  simp [hj] at h
  subst h
  unfold kd
  have h3 : j % 3 = 0 ∨ j % 3 = 1 ∨ j % 3 = 2 := by omega
  rcases h3 with h3 | h3 | h3 <;> rw [h3] <;> simp

/-- append of one act. -/
theorem wpList_append_act {w : World} {ops : Array Oper} {rest : List Oper} {o : Oper} {a : Act} {Q : Exit → Act → World → Prop} (hgd : o.guard = none) (s x : Operand)
    (ho : o.op = .call { callee := .builtin .append, args := #[s, x], argTypes := #[43, 43] })
    (lo g n c : Nat) (l : List (Bool × UInt8 × UInt8)) (hn : l.length = n) (hs : a.eval s = .slice (some ⟨g, 0, none⟩) n c) (hW : WT w lo g c l)
    (q : Nat) (y : Bool × UInt8 × UInt8) (hx : a.eval x = .slice (some ⟨q, 0, none⟩) 1 1) (hq : Box w q #[.bool y.1, bv y.2.1, bv y.2.2] 46) (hlo : lo ≤ w.heap.size) (hb : n ≤ 100000)
    (h : ∀ g' c' w', WT w' lo g' c' (l ++ [y]) → w.grownBy w' (some g) → wpList Try.prog ops Q rest (a.put o.dst (.slice (some ⟨g', 0, none⟩) (n + 1) c')) w') : wpList Try.prog ops Q (o :: rest) a w := by
  subst hn
  obtain ⟨i0, hi0, hz0, hz1, hz2⟩ := info_parts act_info
  obtain ⟨cur, h1, h2, h3, h4, h5, h6, h7⟩ := hW
  have hnews : ∀ j v, [Value.bool y.1, bv y.2.1, bv y.2.2][j]? = some v → w.cell? ((⟨q, 0, none⟩ : Addr).add j) = some v := World.news_of_block hq
  have hone : ∀ u ∈ [Value.bool y.1, bv y.2.1, bv y.2.2], u.oneCell' = true := by intro v hv; simp at hv; rcases hv with rfl | rfl | rfl <;> rfl
  refine wpList_plain hgd fun K hK => ?_
  by_cases hr : l.length + 1 ≤ c
  · have hrun := run_append_room (P := Try.prog) w 43 o.type 46 i0 Try.underlying43 hi0 g l.length c cur h1 ⟨q, 0, none⟩ 1 1 [.bool y.1, bv y.2.1, bv y.2.2] (by rw [hz1]; rfl) hnews hone hr (by rw [hz1, h5]; show l.length * 3 + 3 ≤ c * 3; omega)
    unfold Oper.wp
    simp [execOp, ho, resolve, invoke, builtin, hs, hx, hrun, Result.andThen]
    rw [hz1, h6]
    refine hK _ _ (h g c _ ⟨_, h1.setRow, h2, by rw [List.length_append]; exact hr, h4, ?_, ?_, ?_⟩ (setRow_grown w g _))
    · have hlt := acf_length l
      have hcs : cur.toList.length = c * 3 := by simpa using h5
      simp only [List.size_toArray, List.length_append, List.length_cons, List.length_nil, List.length_drop, hlt, hcs]
      omega
    · have e : ∀ t : List Value, acf l ++ Value.bool y.1 :: bv y.2.1 :: bv y.2.2 :: t = acf (l ++ [y]) ++ t := by intro t; rw [acf_snoc]; simp
      have hlt : (acf (l ++ [y])).length = (l ++ [y]).length * 3 := acf_length _
      rw [← hlt]
      simp only [List.append_assoc, List.cons_append, List.nil_append]
      rw [e]
      exact List.take_left
    · intro j u hu
      have e : ∀ t : List Value, acf l ++ Value.bool y.1 :: bv y.2.1 :: bv y.2.2 :: t = acf (l ++ [y]) ++ t := by intro t; rw [acf_snoc]; simp
      rw [e, List.getElem?_toArray] at hu
      have hlt : (acf (l ++ [y])).length = (l ++ [y]).length * 3 := acf_length _
      by_cases hj : j < (acf (l ++ [y])).length
      · rw [List.getElem?_append_left hj] at hu
        exact acf_kd _ _ _ hu
      · rw [List.getElem?_append_right (by omega), List.getElem?_drop] at hu
        refine h7 j u ?_
        rw [← hu, ← Array.getElem?_toList]
        congr 1
        rw [hlt] at hj ⊢
        simp at hj ⊢
        omega
  · have holds : ∀ j u, (acf l)[j]? = some u → w.cell? ((⟨g, 0, none⟩ : Addr).add j) = some u := by
      intro j u hu
      have hj : j < l.length * 3 := by
        have := (List.getElem?_eq_some_iff.1 hu).1
        rw [acf_length] at this
        exact this
      rw [add_off, Nat.zero_add, h1.cell, ← hu, ← h6, List.getElem?_take, if_pos hj]
      simp
    have hmx : l.length + 1 ≤ maxLen := by unfold maxLen; omega
    have hrun := run_append_grow (P := Try.prog) w 43 o.type 46 i0 _ Try.underlying43 hi0 hz0 ⟨g, 0, none⟩ l.length c (acf l) (by rw [hz1, acf_length]) holds ⟨q, 0, none⟩ 1 1 [.bool y.1, bv y.2.1, bv y.2.2] (by rw [hz1]; rfl) hnews (by omega) (by omega) (growslice_fits (by omega) (by rw [hz2]; omega))
    have hge := grownCap_ge w (l.length + 1) c 46
    have hcm := grownCap_le_maxLen w (l.length + 1) c 46 hmx
    unfold Oper.wp
    simp only [execOp, ho, resolve, invoke, builtin, Sem.run_bind, Sem.run_pure, Result.andThen_ok, List.map_toArray, List.map_cons, List.map_nil, hs, hx, hrun]
    generalize grownCap w (l.length + 1) c 46 = G at *
    refine hK _ _ (h w.heap.size G _ ⟨_, Box.new w.drew _ _, hlo, by rw [List.length_append]; exact hge, hcm, ?_, ?_, ?_⟩ ⟨rfl, rfl, rfl, by simp, fun k hk _ => heap_alloc_old w.drew (.cells _ _) hk⟩)
    · simp only [Array.size_append, List.size_toArray, size_zeroCells, acf_length]
      show l.length * 3 + 3 + (G - (l.length + 1)) * 3 = G * 3
      omega
    · have hlt : (acf (l ++ [y])).length = (l ++ [y]).length * 3 := acf_length _
      rw [← hlt]
      simp only [Array.toList_append]
      rw [← acf_snoc]
      exact List.take_left
    · intro j u hu
      rw [← Array.getElem?_toList] at hu
      simp only [Array.toList_append] at hu
      rw [← acf_snoc] at hu
      have hlt : (acf (l ++ [y])).length = (l ++ [y]).length * 3 := acf_length _
      by_cases hj : j < (acf (l ++ [y])).length
      · rw [List.getElem?_append_left hj] at hu
        exact acf_kd _ _ _ hu
      · rw [List.getElem?_append_right (by omega), Array.getElem?_toList] at hu
        have := zero_kd _ _ _ hu
        unfold kd at this ⊢
        rw [hlt] at this hj
        rw [show (j - (l ++ [y]).length * 3) % 3 = j % 3 by omega] at this
        exact this

/-- The writes of acts, on four sectors. -/
def acs (l : List (Bool × UInt8 × UInt8)) : List (Nat × UInt8) := l.map fun a => (a.2.1.toNat % 4, a.2.2)
theorem acs_length (l : List (Bool × UInt8 × UInt8)) : (acs l).length = l.length := by simp [acs]
theorem acs_four (l : List (Bool × UInt8 × UInt8)) : ∀ a ∈ acs l, a.1 < 4 := by
  intro a ha
  obtain ⟨b, _, e⟩ := List.mem_map.1 ha
  subst e
  exact Nat.mod_lt _ (by decide)
theorem acs_snoc (l : List (Bool × UInt8 × UInt8)) (a : Bool × UInt8 × UInt8) : acs (l ++ [a]) = acs l ++ [(a.2.1.toNat % 4, a.2.2)] := by simp [acs]
theorem acs_take (l : List (Bool × UInt8 × UInt8)) (k : Nat) : acs (l.take k) = (acs l).take k := by simp [acs, List.map_take]
theorem four_of {F : List UInt8} (h : F.length = 4) : ∃ f0 f1 f2 f3, F = [f0, f1, f2, f3] := by
  match F, h with
  | [f0, f1, f2, f3], _ => exact ⟨f0, f1, f2, f3, rfl⟩
theorem whl_sy {d : Dk} (h : rng d = true) : whl (sy d) := by
  obtain ⟨hv, _⟩ := rng_facts h
  obtain ⟨f1, f2, f3, f4, f5⟩ := vld_facts.1 hv
  unfold sy
  rw [if_neg (by rw [h]; decide)]
  split
  · refine ⟨fun s hs => ?_, fun a ha => by cases ha⟩
    have hp := perf_mem (d.pend.take d.left.toNat) d.secs f4 (fun a ha => (f5 a (List.mem_of_mem_take ha)).2)
    rename_i hst
    unfold stops at hst
    obtain ⟨q1, q2⟩ := of_decide_eq_true hst
    have hlt : d.left.toNat < d.pend.length := by omega
    have hg : d.pend.getD d.left.toNat (0, []) = d.pend[d.left.toNat] := by rw [List.getD_eq_getElem?_getD, List.getElem?_eq_getElem hlt]; rfl
    obtain ⟨⟨g1, g2⟩, g3⟩ := f5 _ (List.getElem_mem hlt)
    rcases List.mem_or_eq_of_mem_set hs with h1 | h1
    · exact hp s h1
    · subst h1
      rw [hg]
      have hlt2 : (d.pend[d.left.toNat]).1.toNat < (perf d.secs (d.pend.take d.left.toNat)).length := by rw [perf_length]; omega
      refine torn_length ?_ g3
      rw [List.getD_eq_getElem?_getD, List.getElem?_eq_getElem hlt2]
      exact hp _ (List.getElem_mem hlt2)
  · exact ⟨perf_mem d.pend d.secs f4 (fun a ha => (f5 a ha).2), fun a ha => by cases ha⟩
theorem lup_next {F : List UInt8} {ws : List (Nat × UInt8)} {k q : Nat} {c : UInt8} (h : ws[k]? = some (q, c)) : lup F (ws.take (k + 1)) = (lup F (ws.take k)).set q c := by
  rw [take_snoc h, lup_snoc]
theorem acs_at {l : List (Bool × UInt8 × UInt8)} {i : Nat} {a : Bool × UInt8 × UInt8} (h : l[i]? = some a) : (acs l)[i]? = some (a.2.1.toNat % 4, a.2.2) := by
  unfold acs
  rw [List.getElem?_map, h]
  rfl
theorem whl_rng {d : Dk} (h : rng d = true) : whl d := whl_vld (rng_facts h).1
end Go.Proofs.Ytiphajgmjmjanaa
