/- Operations that make lists of digests, as laws for regions in general. -/
import Derived.Test.YtdjlblfpkieenaaDoorReg
import Derived.Test.YtdjlblfpkieenaaDoorSt
namespace Go.Proofs.YtdjlblfpkieenaaDoor
open Go.RowKit Go.Sort
set_option linter.unusedVariables false

theorem vs_is {vs : Nat → Value} {i : Nat} {x : Value} (h : vs i = x) : vs = upd vs i x := by
  funext m
  unfold upd
  split
  · rename_i e; rw [e, h]
  · rfl
/-- The block that a value names. -/
def blk : Value → Option Nat
  | .slice (some a) _ _ => some a.block
  | .pointer (some a) => some a.block
  | _ => none
theorem blk_own {A : Option Addr} {n c : Nat} : blk (.slice A n c) = (Value.slice A n c).ownBlock := by cases A <;> rfl

section
variable {P : Program} {frame : (Nat → Value) → Act} {C : World → Prop} {φ : Nat → Value → World → Prop} {ψ : Nat → Nat → Value → Value → Prop} {eats : Nat → Nat → Bool} {Q : Exit → Act → World → Prop}
theorem LeftG.below {use : Nat → Bool} {i : Nat} {vs : Nat → Value} {w w' : World} {a' : Act} (v : Value) (h1 : a' = frame (upd vs i v)) (hb : Below w.heap.size w w') (hC : C w') (h4 : φ i v w')
    (hl : ∀ j u w w', φ j u w → Below w.heap.size w w' → φ j u w') (h5 : ∀ j u, j ≠ i → φ j u w → ψ i j v u ∧ ψ j i u v) : LeftG frame C φ ψ eats use i vs w a' w' :=
  ⟨v, h1, hC, h4, fun j u _ _ h _ => hl j u w w' h hb, fun j u hj _ h _ => h5 j u hj h⟩
end
theorem dep {o : Oper} {j : Nat} (h : List.elem j (depsOf o) = true) : j ∈ depsOf o := List.elem_iff.1 h

section
variable {w : World} {o : Oper} {a : Act} {K : Act → World → Prop} {Q : Exit → Act → World → Prop}
theorem wp_b0 (ho : o.op = .buildSlice 30 0 #[]) (h : K (a.put o.dst (.slice (some ⟨w.heap.size, 0, none⟩) 0 0)) (w.alloc (.cells #[] 26))) : o.wp Tryd.prog a w K Q := by
  unfold Oper.wp execOp
  simp only [ho, Sem.run_bind, Sem.run_pure, Result.andThen_ok, List.map_toArray, List.map_nil, run_b0]
  exact h
theorem wp_b1 (x : Operand) (ho : o.op = .buildSlice 30 1 #[(0, x)]) {LD : List Value} (hx : a.eval x = .agg LD.toArray) (hL : LD.length = 32)
    (h : K (a.put o.dst (.slice (some ⟨w.heap.size, 0, none⟩) 1 1)) (w.alloc (.cells LD.toArray 26))) : o.wp Tryd.prog a w K Q := by
  unfold Oper.wp execOp
  simp only [ho, hx, Sem.run_bind, Sem.run_pure, Result.andThen_ok, List.map_toArray, List.map_cons, List.map_nil, run_b1 LD hL]
  exact h
theorem wp_al (ho : o.op = .alloc 26) (h : K (a.put o.dst (.pointer (some ⟨w.heap.size, 0, none⟩))) (w.alloc (.cells dz 26))) : o.wp Tryd.prog a w K Q := by
  unfold Oper.wp execOp
  simp only [ho, Sem.run_bind, Sem.run_pure, Result.andThen_ok, run_al]
  exact h
theorem wp_apd (base : Nat) {v : Value} {n : Nat} {xs : List Value} (s x : Operand)
    (ho : o.op = .call { callee := .builtin .append, args := #[s, x], argTypes := #[30, 30] }) (hs : a.eval s = v) (hown : w.ownsRow base 26 32 v n xs) (hbase : base ≤ w.heap.size)
    (A : Option Addr) (ds : List (List UInt8)) (m c : Nat) (hm : ds.length = m) (hx : a.eval x = .slice A m c) (hD : Ds w.heap.size w A ds) (hnil : A = none → c = 0) (N : Nat) (hN : n + m = N) (hn : N ≤ 1000000)
    (h : ∀ A' c' w', w'.ownsRow base 26 32 (.slice A' N c') N (xs ++ flat ds) → w.grownBy w' v.ownBlock → ((Value.slice A' N c').ownBlock = v.ownBlock ∨ (Value.slice A' N c').ownBlock = some w.heap.size) → K (a.put o.dst (.slice A' N c')) w') :
    o.wp Tryd.prog a w K Q := by
  subst hN
  obtain ⟨i0, hi0, hz0, hz1, hz2⟩ := dig_info2
  have hone : ∀ u ∈ flat ds, u.oneCell' = true := by
    intro u hu
    simp only [flat, List.mem_flatMap] at hu
    obtain ⟨d, _, hd⟩ := hu
    exact bv_one d u hd
  cases A with
  | none =>
    have hm0 : ds = [] := by
      rcases Nat.eq_zero_or_pos ds.length with h0 | h0
      · exact List.length_eq_zero_iff.1 h0
      · obtain ⟨b, off, hA, _⟩ := hD.2 h0
        cases hA
    subst hm0
    obtain rfl : m = 0 := by simpa using hm.symm
    obtain rfl := hnil rfl
    obtain ⟨A1, c1, hv⟩ := own_form hown
    have hrun := run_append_owned_none (P := Tryd.prog) (w := w) base 30 o.type 26 i0 32 Tryd.underlying30 hi0 v n xs hown
    unfold Oper.wp execOp
    simp only [ho, resolve, invoke, builtin, Sem.run_bind, Sem.run_pure, Result.andThen_ok, List.map_toArray, List.map_cons, List.map_nil, hs, hx, hrun]
    subst hv
    refine h A1 c1 w ?_ (World.grownBy.refl w _) (.inl rfl)
    simpa [flat] using hown
  | some ad =>
    have hnews : ∀ j u, (flat ds)[j]? = some u → w.cell? (ad.add j) = some u := by
      intro j u hu
      have hp : 0 < ds.length := by
        rcases Nat.eq_zero_or_pos ds.length with h0 | h0
        · rw [List.length_eq_zero_iff.1 h0] at hu
          simp [flat] at hu
        · exact h0
      obtain ⟨b, off, hA, hb, hc⟩ := hD.2 hp
      injection hA with hA
      subst hA
      obtain ⟨k, d, r, hk, hjk, hr⟩ := flat_at ds hD.1 j u hu
      rw [add_off, show off + j = off + k * 32 + r by omega]
      exact hc k d hk r u hr
    obtain ⟨v', w', hr, h2, h3, _, h5⟩ := run_append_own_at (P := Tryd.prog) w base 30 o.type 26 i0 (.agg dz) 32 32 Tryd.underlying30 hi0 hz0 hz1 hz2 rfl (by decide) v n xs hown ad m c (flat ds) (by rw [flat_length ds hD.1, hm])
      hnews hone (le_maxLen (by omega)) (by omega) hbase
    obtain ⟨A1, c1, rfl⟩ := own_form h2
    unfold Oper.wp execOp
    simp only [ho, resolve, invoke, builtin, Sem.run_bind, Sem.run_pure, Result.andThen_ok, List.map_toArray, List.map_cons, List.map_nil, hs, hx, hr]
    exact h A1 c1 w' h2 h3 h5
theorem wp_ap1 (base : Nat) {v : Value} {n : Nat} {xs : List Value} {g : Nat} {LD : List Value} (s x : Operand)
    (ho : o.op = .call { callee := .builtin .append, args := #[s, x], argTypes := #[30, 30] }) (hs : a.eval s = v) (hown : w.ownsRow base 26 32 v n xs) (hbase : base ≤ w.heap.size)
    (hx : a.eval x = .slice (some ⟨g, 0, none⟩) 1 1) (hg : Box w g LD.toArray 26) (hL : LD.length = 32) (h1 : ∀ u ∈ LD, u.oneCell' = true) (N : Nat) (hN : n + 1 = N) (hn : N ≤ 1000000)
    (h : ∀ A' c' w', w'.ownsRow base 26 32 (.slice A' N c') N (xs ++ LD) → w.grownBy w' v.ownBlock → ((Value.slice A' N c').ownBlock = v.ownBlock ∨ (Value.slice A' N c').ownBlock = some w.heap.size) → K (a.put o.dst (.slice A' N c')) w') :
    o.wp Tryd.prog a w K Q := by
  subst hN
  obtain ⟨i0, hi0, hz0, hz1, hz2⟩ := dig_info2
  obtain ⟨v', w', hr, h2, h3, _, h5⟩ := run_append_own_at (P := Tryd.prog) w base 30 o.type 26 i0 (.agg dz) 32 32 Tryd.underlying30 hi0 hz0 hz1 hz2 rfl (by decide) v n xs hown ⟨g, 0, none⟩ 1 1 LD hL
    (World.news_of_block (cs := LD.toArray) hg) h1 (le_maxLen (by omega)) (by omega) hbase
  obtain ⟨A1, c1, rfl⟩ := own_form h2
  unfold Oper.wp execOp
  simp only [ho, resolve, invoke, builtin, Sem.run_bind, Sem.run_pure, Result.andThen_ok, List.map_toArray, List.map_cons, List.map_nil, hs, hx, hr]
  exact h A1 c1 w' h2 h3 h5
theorem wp_ldrow (x : Operand) (ho : o.op = .load 26 x) (g : Nat) (hx : a.eval x = .pointer (some ⟨g, 0, none⟩)) {cs : Array Value} (hg : Box w g cs 26) (hC : DF cs)
    (h : K (a.put o.dst (.agg cs)) w) : o.wp Tryd.prog a w K Q :=
  wp_load_row 26 x ho g hx 26 cs (0, 0) _ hg Tryd.underlying26 rfl hC.info h
end
end Go.Proofs.YtdjlblfpkieenaaDoor
