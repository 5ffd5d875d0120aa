/- Packets in a row of the call's own that grows in its place: its slack's cells are known; valid links do not lie in its slack. -/
import Derived.Test.YtojijebmipgeeaaRMv
import Derived.Test.YtojijebmipgeeaaPlN
import Derived.Test.YtojijebmipgeeaaPlC
namespace Go.Proofs.Ytojijebmipgeeaa
open Go.RowKit
set_option linter.unusedVariables false
set_option linter.unusedSimpArgs false

/-- The kinds of a packet's cells. -/
def kp (j : Nat) (u : Value) : Prop := (j % 3 = 2 ∧ ∃ A n c, u = .slice A n c) ∨ (j % 3 ≠ 2 ∧ ∃ z, u = .int .i64 z)
theorem kp_int {j : Nat} {k : IntKind} {z : Int} (h : kp j (.int k z)) : j % 3 ≠ 2 ∧ k = .i64 := by
  rcases h with ⟨_, A, n, c, e⟩ | ⟨h, z', e⟩
  · cases e
  · cases e; exact ⟨h, rfl⟩
theorem kp_sl {j : Nat} {A : Option Addr} {n c : Nat} (h : kp j (.slice A n c)) : j % 3 = 2 := by
  rcases h with ⟨h, _⟩ | ⟨_, z, e⟩
  · exact h
  · cases e
theorem PkF.kinds {w : World} : ∀ {l : List Pk} {vs : List Value}, PkF w l vs → ∀ (j : Nat) u, vs[j]? = some u → kp j u
  | [], vs, h, j, u, hu => by cases h; cases hu
  | p :: l, vs, ⟨A, c, vs', e, h1, h⟩, j, u, hu => by
    subst e
    match j, hu with
    | 0, hu => cases hu; exact .inr ⟨by decide, _, rfl⟩
    | 1, hu => cases hu; exact .inr ⟨by decide, _, rfl⟩
    | 2, hu => cases hu; exact .inl ⟨rfl, _, _, _, rfl⟩
    | j + 3, hu =>
      have := PkF.kinds h j u (by simpa using hu)
      unfold kp at this ⊢
      rw [show (j + 3) % 3 = j % 3 by omega]
      exact this
theorem zero_kp (m j : Nat) (u : Value) (h : (Builtin.zeroCells #[Value.int .i64 0, .int .i64 0, .slice none 0 0] m)[j]? = some u) : kp j u ∧ ∀ z, u = .int .i64 z → z = 0 := by
  unfold Builtin.zeroCells at h
  have hj : j < m * 3 := by
    have := (Array.getElem?_eq_some_iff.1 h).1
    simpa using this
  simp [hj] at h
  subst h
  unfold kp
  have h3 : j % 3 = 0 ∨ j % 3 = 1 ∨ j % 3 = 2 := by omega
  rcases h3 with h3 | h3 | h3 <;> rw [h3] <;> simp
  all_goals (intro z e; exact e.symm)

/-- A row of packets in block g, with slack. -/
def WP (w : World) (lo g c : Nat) (l : List Pk) : Prop := ∃ (cur : Array Value) (vs : List Value), Box w g cur 28 ∧ lo ≤ g ∧ l.length ≤ c ∧ c ≤ maxLen ∧ cur.size = c * 3 ∧ PkF w l vs ∧ cur.toList.take (l.length * 3) = vs ∧ (∀ (j : Nat) u, cur[j]? = some u → kp j u) ∧ ∀ (j : Nat) z, l.length * 3 ≤ j → cur[j]? = some (.int .i64 z) → z = 0
theorem WP.up {w w' : World} {lo g c : Nat} {l : List Pk} (h : WP w lo g c l) (hb : Below w.heap.size w w') : WP w' lo g c l := by
  obtain ⟨cur, vs, h1, h2, h3, h4, h5, h6, h7⟩ := h
  exact ⟨cur, vs, h1.below hb, h2, h3, h4, h5, h6.up hb, h7⟩
theorem WP.off {w : World} {lo g c : Nat} {l : List Pk} (h : WP w lo g c l) {b : Nat} {cs : Array Value} {t : TypeId} (hx : Box w b cs t) (hs : OnlyS cs) (hlt : b < lo) (i : Nat) (v : Value) : WP (w.setCell ⟨b, i, none⟩ v) lo g c l := by
  obtain ⟨cur, vs, h1, h2, h3, h4, h5, h6, h7⟩ := h
  exact ⟨cur, vs, box_other h1 (by omega), h2, h3, h4, h5, h6.off hx hs i v, h7⟩
theorem WP.qq {w : World} {lo g c : Nat} {l : List Pk} (h : WP w lo g c l) : QQ w (some ⟨g, 0, none⟩) l c := by
  obtain ⟨cur, vs, h1, h2, h3, h4, h5, h6, h7, _⟩ := h
  refine ⟨fun hp => ⟨g, 0, vs, rfl, h1.lt, h6, fun j u hu => ?_⟩, h3, h4, fun e => by cases e⟩
  rw [Nat.zero_add, h1.cell, ← hu, ← h7, List.getElem?_take]
  have hj : j < l.length * 3 := by
    have := (List.getElem?_eq_some_iff.1 hu).1
    rw [h6.length] at this
    exact this
  rw [if_pos hj]
  simp

section
variable {w w' : World} {g : Nat} {cur : Array Value} {t : TypeId}
theorem Sl.apk {A : Option Addr} {l : List UInt8} {c : Nat} (h : Sl w A l c) (hx : Box w g cur t) (hk : ∀ (j : Nat) u, cur[j]? = some u → kp j u) (hg : w.grownBy w' (some g)) : Sl w' A l c := by
  by_cases hp : 0 < l.length
  · obtain ⟨b2, off, e, hlt, hc⟩ := h.1 hp
    refine h.keep hg (fun b3 off3 e3 => ?_)
    rw [e] at e3
    cases e3
    have h0 := hc 0 l[0] (List.getElem?_eq_getElem hp)
    intro e4
    injection e4 with e4
    subst e4
    rw [hx.cell] at h0
    exact absurd (kp_int (hk _ _ h0)).2 (by decide)
  · have : l = [] := List.eq_nil_of_length_eq_zero (by omega)
    subst this
    exact ⟨Bs.none_, h.2⟩
theorem PkF.apk (hx : Box w g cur t) (hk : ∀ (j : Nat) u, cur[j]? = some u → kp j u) (hg : w.grownBy w' (some g)) : ∀ {l : List Pk} {vs : List Value}, PkF w l vs → PkF w' l vs
  | [], vs, h => h
  | p :: l, vs, ⟨A, c, vs', e, h1, h⟩ => ⟨A, c, vs', e, h1.apk hx hk hg, PkF.apk hx hk hg h⟩
/-- Valid packets stay where the slack of a row changes. -/
theorem QQ.apk {L : Nat} {A : Option Addr} {l : List Pk} {c : Nat} (h : QQ w A l c) (hv : ∀ p ∈ l, okp p = true) (hx : Box w g cur t) (hk : ∀ (j : Nat) u, cur[j]? = some u → kp j u) (hz : ∀ (j : Nat) z, L * 3 ≤ j → cur[j]? = some (.int .i64 z) → z = 0) (hg : w.grownBy w' (some g)) (hc : ∀ j, j < L * 3 → w'.cell? ⟨g, j, none⟩ = w.cell? ⟨g, j, none⟩) : QQ w' A l c := by
  refine ⟨fun hp => ?_, h.2⟩
  obtain ⟨b, off, vs, e, hlt, hf, hcs⟩ := h.1 hp
  refine ⟨b, off, vs, e, Nat.lt_of_lt_of_le hlt hg.size, hf.apk hx hk hg, fun j u hj => ?_⟩
  by_cases hb : b = g
  · subst hb
    have hjl : j < l.length * 3 := by
      have := (List.getElem?_eq_some_iff.1 hj).1
      rw [hf.length] at this
      exact this
    obtain ⟨i, r, hi, hr, e2⟩ : ∃ i r, i < l.length ∧ r < 3 ∧ j = i * 3 + r := ⟨j / 3, j % 3, by omega, Nat.mod_lt _ (by decide), by omega⟩
    obtain ⟨b2, off2, D, d, e3, _, h0, h1, h2, _⟩ := h.at_ (List.getElem?_eq_getElem hi)
    rw [e] at e3
    cases e3
    have hL : off + i * 3 + 2 < L * 3 := by
      rw [hx.cell] at h0 h1 h2
      have k0 := (kp_int (hk _ _ h0)).1
      have k2 := kp_sl (hk _ _ h2)
      rcases Nat.lt_or_ge (off + i * 3 + 2) (L * 3) with hlt | hge
      · exact hlt
      · have z0 := hz _ _ (by omega) h0
        have z1 := hz _ _ (by omega) h1
        have := hv _ (List.getElem_mem hi)
        unfold okp talk at this
        rw [z0, z1] at this
        simp at this
    rw [hc _ (by omega)]
    exact hcs j u hj
  · exact hg.cell (hcs j u hj) (by simpa using hb)
theorem PP.apk {L : Nat} {A : Option Addr} {l : List (Int × Int)} {c : Nat} (h : PP w A l c) (hv : ∀ x ∈ l, okr x = true) (hx : Box w g cur t) (hk : ∀ (j : Nat) u, cur[j]? = some u → kp j u) (hz : ∀ (j : Nat) z, L * 3 ≤ j → cur[j]? = some (.int .i64 z) → z = 0) (hg : w.grownBy w' (some g)) (hc : ∀ j, j < L * 3 → w'.cell? ⟨g, j, none⟩ = w.cell? ⟨g, j, none⟩) : PP w' A l c := by
  refine ⟨fun hp => ?_, h.2⟩
  obtain ⟨b, off, e, hlt, hcs⟩ := h.1 hp
  refine ⟨b, off, e, Nat.lt_of_lt_of_le hlt hg.size, fun j u hj => ?_⟩
  by_cases hb : b = g
  · subst hb
    have hjl : j < l.length * 2 := by
      have := (List.getElem?_eq_some_iff.1 hj).1
      rw [prc_length] at this
      exact this
    obtain ⟨i, r, hi, hr, e2⟩ : ∃ i r, i < l.length ∧ r < 2 ∧ j = i * 2 + r := ⟨j / 2, j % 2, by omega, Nat.mod_lt _ (by decide), by omega⟩
    obtain ⟨b2, off2, e3, _, h0, h1⟩ := h.at_ (List.getElem?_eq_getElem hi)
    rw [e] at e3
    cases e3
    have hL : off + i * 2 + 1 < L * 3 := by
      rw [hx.cell] at h0 h1
      have k0 := (kp_int (hk _ _ h0)).1
      have k1 := (kp_int (hk _ _ h1)).1
      rcases Nat.lt_or_ge (off + i * 2 + 1) (L * 3) with hlt | hge
      · exact hlt
      · have z0 := hz _ _ (by omega) h0
        have z1 := hz _ _ (by omega) h1
        have := hv _ (List.getElem_mem hi)
        unfold okr at this
        rw [z0, z1] at this
        simp at this
    rw [hc _ (by omega)]
    exact hcs j u hj
  · exact hg.cell (hcs j u hj) (by simpa using hb)
end
theorem NtIn.wp {w w' : World} {n : Nt} {A B : Option Addr} {c k g L : Nat} {cur : Array Value} {t : TypeId} (h : NtIn w n A c B k) (hv : vld n = true) (hx : Box w g cur t) (hk : ∀ (j : Nat) u, cur[j]? = some u → kp j u) (hz : ∀ (j : Nat) z, L * 3 ≤ j → cur[j]? = some (.int .i64 z) → z = 0) (hg : w.grownBy w' (some g)) (hc : ∀ j, j < L * 3 → w'.cell? ⟨g, j, none⟩ = w.cell? ⟨g, j, none⟩) : NtIn w' n A c B k :=
  ⟨h.1.apk ((vld_iff n).1 hv).2.1 hx hk hz hg hc, h.2.apk ((apk_iff _).1 ((vld_iff n).1 hv).2.2).1 hx hk hz hg hc⟩

/-- The row, or nothing yet. -/
def RowP (w : World) (lo : Nat) (v : Value) (l : List Pk) : Prop := (v = .slice none 0 0 ∧ l = []) ∨ ∃ g c, v = .slice (some ⟨g, 0, none⟩) l.length c ∧ WP w lo g c l
theorem RowP.up {w w' : World} {lo : Nat} {v : Value} {l : List Pk} (h : RowP w lo v l) (hb : Below w.heap.size w w') : RowP w' lo v l := by
  rcases h with h | ⟨g, c, e, h⟩
  · exact .inl h
  · exact .inr ⟨g, c, e, h.up hb⟩
theorem RowP.off {w : World} {lo : Nat} {v : Value} {l : List Pk} (h : RowP w lo v l) {b : Nat} {cs : Array Value} {t : TypeId} (hx : Box w b cs t) (hs : OnlyS cs) (hlt : b < lo) (i : Nat) (u : Value) : RowP (w.setCell ⟨b, i, none⟩ u) lo v l := by
  rcases h with h | ⟨g, c, e, h⟩
  · exact .inl h
  · exact .inr ⟨g, c, e, h.off hx hs hlt i u⟩
theorem RowP.qq {w : World} {lo : Nat} {v : Value} {l : List Pk} (h : RowP w lo v l) : ∃ A c, v = .slice A l.length c ∧ QQ w A l c := by
  rcases h with ⟨e, rfl⟩ | ⟨g, c, e, h⟩
  · exact ⟨none, 0, e, fun h => absurd h (by simp), by simp, by unfold maxLen; omega, fun _ => ⟨rfl, rfl⟩⟩
  · exact ⟨_, c, e, h.qq⟩

/-- A new row behind everything. -/
theorem wp_fresh (w : World) (lo G : Nat) (l : List Pk) (vs : List Value) (hf : PkF w l vs) (hlo : lo ≤ w.heap.size) (hge : l.length ≤ G) (hm : G ≤ maxLen) :
    WP (w.drew.alloc (.cells (vs.toArray ++ Builtin.zeroCells #[.int .i64 0, .int .i64 0, .slice none 0 0] (G - l.length)) 28)) lo w.heap.size G l := by
  have hl := hf.length
  have hb : Below w.heap.size w (w.drew.alloc (.cells (vs.toArray ++ Builtin.zeroCells #[.int .i64 0, .int .i64 0, .slice none 0 0] (G - l.length)) 28)) := ((Below.refl w.heap.size w).drew).alloc (Nat.le_refl _) _
  refine ⟨_, vs, Box.new w.drew _ _, hlo, hge, hm, ?_, hf.up hb, ?_, fun j u hu => ?_, fun j z hj hu => ?_⟩
  · simp only [Array.size_append, List.size_toArray, size_zeroCells, hl]
    show l.length * 3 + (G - l.length) * 3 = G * 3
    omega
  · rw [← hl]
    simp only [Array.toList_append]
    exact List.take_left
  · rw [← Array.getElem?_toList] at hu
    simp only [Array.toList_append] at hu
    by_cases hj : j < vs.length
    · rw [List.getElem?_append_left hj] at hu
      exact hf.kinds j u hu
    · rw [List.getElem?_append_right (by omega), Array.getElem?_toList] at hu
      have := (zero_kp _ _ _ hu).1
      unfold kp at this ⊢
      rw [hl] at this hj
      rw [show (j - l.length * 3) % 3 = j % 3 by omega] at this
      exact this
  · rw [← Array.getElem?_toList] at hu
    simp only [Array.toList_append] at hu
    rw [List.getElem?_append_right (by omega), Array.getElem?_toList] at hu
    exact (zero_kp _ _ _ hu).2 z rfl

/-- append of one packet. -/
theorem wpList_append_wq {w : World} {ops : Array Oper} {rest : List Oper} {o : Oper} {a : Act} {Q : Exit → Act → World → Prop} (hgd : o.guard = none) (s x : Operand)
    (ho : o.op = .call { callee := .builtin .append, args := #[s, x], argTypes := #[22, 22] })
    (lo : Nat) (v : Value) (l : List Pk) (hs : a.eval s = v) (hR : RowP w lo v l)
    (q : Nat) (y : Pk) (D : Option Addr) (d m : Nat) (hm : y.da.length = m) (hx : a.eval x = .slice (some ⟨q, 0, none⟩) 1 1) (hq : Box w q #[.int .i64 y.fr, .int .i64 y.to, .slice D m d] 28) (hy : Sl w D y.da d) (hlo : lo ≤ w.heap.size) (hb : l.length ≤ 100000)
    (h : ∀ v' w', RowP w' lo v' (l ++ [y]) → (∀ n A c B k, vld n = true → NtIn w n A c B k → NtIn w' n A c B k) → (∀ b cs t, 0 < cs.size → OnlyS cs → Box w b cs t → Box w' b cs t) → Below lo w w' → wpList Try.prog ops Q rest (a.put o.dst v') w') : wpList Try.prog ops Q (o :: rest) a w := by
  obtain ⟨i0, hi0, hz0, hz1, hz2⟩ := info_parts pk_info
  have hnews : ∀ (j : Nat) v, [Value.int .i64 y.fr, .int .i64 y.to, .slice D m d][j]? = some v → w.cell? ((⟨q, 0, none⟩ : Addr).add j) = some v := World.news_of_block hq
  have hone : ∀ u ∈ [Value.int .i64 y.fr, .int .i64 y.to, .slice D m d], u.oneCell' = true := by intro v hv; simp at hv; rcases hv with rfl | rfl | rfl <;> rfl
  have hfy : PkF w [y] [.int .i64 y.fr, .int .i64 y.to, .slice D m d] := PkF.one_ hm hy
  refine wpList_plain hgd fun K hK => ?_
  rcases hR with ⟨rfl, rfl⟩ | ⟨g, c, rfl, cur, vs, h1, h2, h3, h4, h5, h6, h7, h8, h9⟩
  · have hrun := run_append_nil (P := Try.prog) (w := w) 22 o.type 28 i0 _ Try.underlying22 hi0 hz0 ⟨q, 0, none⟩ 1 1 [.int .i64 y.fr, .int .i64 y.to, .slice D m d] (by rw [hz1]; rfl) hnews (by omega) (by omega) (by rw [hz2]; omega)
    have hge := grownCap_ge w 1 0 28
    have hcm := grownCap_le_maxLen w 1 0 28 (by unfold maxLen; omega)
    unfold Oper.wp
    simp only [execOp, ho, resolve, invoke, builtin, Sem.run_bind, Sem.run_pure, Result.andThen_ok, List.map_toArray, List.map_cons, List.map_nil, hs, hx, hrun]
    generalize grownCap w 1 0 28 = G at *
    have hW := wp_fresh w lo G [y] _ hfy hlo hge hcm
    have hbb : Below w.heap.size w (w.drew.alloc (.cells ([Value.int .i64 y.fr, .int .i64 y.to, .slice D m d].toArray ++ Builtin.zeroCells #[.int .i64 0, .int .i64 0, .slice none 0 0] (G - [y].length)) 28)) := ((Below.refl w.heap.size w).drew).alloc (Nat.le_refl _) _
    exact hK _ _ (h _ _ (.inr ⟨_, _, rfl, hW⟩) (fun n A c B k _ hn => hn.up hbb) (fun b cs t _ _ hx => hx.below hbb) (hbb.mono hlo))
  · have hvl := h6.length
    by_cases hr : l.length + 1 ≤ c
    · have hrun := run_append_room (P := Try.prog) w 22 o.type 28 i0 Try.underlying22 hi0 g l.length c cur h1 ⟨q, 0, none⟩ 1 1 [.int .i64 y.fr, .int .i64 y.to, .slice D m d] (by rw [hz1]; rfl) hnews hone hr (by rw [hz1, h5]; show l.length * 3 + 3 ≤ c * 3; omega)
      unfold Oper.wp
      simp [execOp, ho, resolve, invoke, builtin, hs, hx, hrun, Result.andThen]
      rw [hz1, h7]
      have hgr := setRow_grown w g (vs ++ Value.int .i64 y.fr :: .int .i64 y.to :: .slice D m d :: cur.toList.drop (l.length * 3 + 3)).toArray
      have hnew := (h1.setRow (cs' := (vs ++ Value.int .i64 y.fr :: .int .i64 y.to :: .slice D m d :: cur.toList.drop (l.length * 3 + 3)).toArray))
      have e : vs ++ Value.int .i64 y.fr :: .int .i64 y.to :: .slice D m d :: cur.toList.drop (l.length * 3 + 3) = (vs ++ [.int .i64 y.fr, .int .i64 y.to, .slice D m d]) ++ cur.toList.drop (l.length * 3 + 3) := by simp
      have hfa : PkF w (l ++ [y]) (vs ++ [.int .i64 y.fr, .int .i64 y.to, .slice D m d]) := h6.app hfy
      have hfl := hfa.length
      have hcs : cur.toList.length = c * 3 := by simpa using h5
      have hLs : (l ++ [y]).length = l.length + 1 := by simp
      refine hK _ _ (h _ _ (.inr ⟨g, c, by rw [hLs], _, _, hnew, h2, by rw [hLs]; exact hr, h4, ?_, hfa.apk h1 h8 hgr, ?_, fun j u hu => ?_, fun j z hj hu => ?_⟩) (fun n A c B k hv hn => hn.wp (L := l.length) hv h1 h8 h9 hgr (fun j hj => ?_)) (fun b cs t hp ho hx => hx.grown hgr (fun e => ?_)) ?_)
      · rw [e]
        simp only [List.size_toArray, List.length_append, hfl, hLs, List.length_drop, hcs] at *
        omega
      · rw [e, ← hfl]
        exact List.take_left
      · rw [e, List.getElem?_toArray] at hu
        by_cases hj : j < (vs ++ [Value.int .i64 y.fr, .int .i64 y.to, .slice D m d]).length
        · rw [List.getElem?_append_left hj] at hu
          exact hfa.kinds j u hu
        · rw [List.getElem?_append_right (by omega), List.getElem?_drop] at hu
          refine h8 j u ?_
          rw [← hu, ← Array.getElem?_toList]
          congr 1
          rw [hfl, hLs] at hj ⊢
          omega
      · rw [e, List.getElem?_toArray] at hu
        rw [List.getElem?_append_right (by rw [hfl]; exact hj), List.getElem?_drop] at hu
        refine h9 j z (by rw [hLs] at hj; omega) ?_
        rw [← hu, ← Array.getElem?_toList]
        congr 1
        rw [hfl, hLs]
        rw [hLs] at hj
        omega
      · rw [hnew.cell, h1.cell, List.getElem?_toArray, List.getElem?_append_left (by rw [hvl]; exact hj), ← h7, List.getElem?_take, if_pos hj]
        simp
      · injection e with e
        subst e
        have hj := hx.cell 0
        rw [h1.cell] at hj
        obtain ⟨A, n, c', he⟩ := ho 0 cs[0] (Array.getElem?_eq_getElem hp)
        rw [Array.getElem?_eq_getElem hp, he] at hj
        have := kp_sl (h8 _ _ hj)
        omega
      · exact below_grown hgr h2 hlo
    · have holds : ∀ (j : Nat) u, vs[j]? = some u → w.cell? ((⟨g, 0, none⟩ : Addr).add j) = some u := by
        intro j u hu
        have hj : j < l.length * 3 := by
          have := (List.getElem?_eq_some_iff.1 hu).1
          rw [hvl] at this
          exact this
        rw [add_off, Nat.zero_add, h1.cell, ← hu, ← h7, List.getElem?_take, if_pos hj]
        simp
      have hmx : l.length + 1 ≤ maxLen := by unfold maxLen; omega
      have hrun := run_append_grow (P := Try.prog) w 22 o.type 28 i0 _ Try.underlying22 hi0 hz0 ⟨g, 0, none⟩ l.length c vs (by rw [hz1, hvl]) holds ⟨q, 0, none⟩ 1 1 [.int .i64 y.fr, .int .i64 y.to, .slice D m d] (by rw [hz1]; rfl) hnews (by omega) (by omega) (growslice_fits (by omega) (by rw [hz2]; omega))
      have hge := grownCap_ge w (l.length + 1) c 28
      have hcm := grownCap_le_maxLen w (l.length + 1) c 28 hmx
      unfold Oper.wp
      simp only [execOp, ho, resolve, invoke, builtin, Sem.run_bind, Sem.run_pure, Result.andThen_ok, List.map_toArray, List.map_cons, List.map_nil, hs, hx, hrun]
      generalize grownCap w (l.length + 1) c 28 = G at *
      have hLs : (l ++ [y]).length = l.length + 1 := by simp
      have hW := wp_fresh w lo G (l ++ [y]) _ (h6.app hfy) hlo (by rw [hLs]; exact hge) hcm
      rw [hLs, ← List.append_toArray] at hW
      have hbb := ((Below.refl w.heap.size w).drew).alloc (Nat.le_refl _) (.cells (vs.toArray ++ [Value.int .i64 y.fr, .int .i64 y.to, .slice D m d].toArray ++ Builtin.zeroCells #[.int .i64 0, .int .i64 0, .slice none 0 0] (G - (l.length + 1))) 28)
      exact hK _ _ (h _ _ (.inr ⟨_, _, by rw [hLs], hW⟩) (fun n A c B k _ hn => hn.up hbb) (fun b cs t _ _ hx => hx.below hbb) (hbb.mono hlo))
/-- append of one packet; of valid links alone. -/
theorem wpList_append_wp {w : World} {ops : Array Oper} {rest : List Oper} {o : Oper} {a : Act} {Q : Exit → Act → World → Prop} (hgd : o.guard = none) (s x : Operand)
    (ho : o.op = .call { callee := .builtin .append, args := #[s, x], argTypes := #[22, 22] })
    (lo : Nat) (v : Value) (l : List Pk) (hs : a.eval s = v) (hR : RowP w lo v l)
    (q : Nat) (y : Pk) (D : Option Addr) (d m : Nat) (hm : y.da.length = m) (hx : a.eval x = .slice (some ⟨q, 0, none⟩) 1 1) (hq : Box w q #[.int .i64 y.fr, .int .i64 y.to, .slice D m d] 28) (hy : Sl w D y.da d) (hlo : lo ≤ w.heap.size) (hb : l.length ≤ 100000)
    (h : ∀ v' w', RowP w' lo v' (l ++ [y]) → (∀ n A c B k, vld n = true → NtIn w n A c B k → NtIn w' n A c B k) → Below lo w w' → wpList Try.prog ops Q rest (a.put o.dst v') w') : wpList Try.prog ops Q (o :: rest) a w :=
  wpList_append_wq hgd s x ho lo v l hs hR q y D d m hm hx hq hy hlo hb (fun v' w' h1 h2 _ h3 => h v' w' h1 h2 h3)
end Go.Proofs.Ytojijebmipgeeaa
