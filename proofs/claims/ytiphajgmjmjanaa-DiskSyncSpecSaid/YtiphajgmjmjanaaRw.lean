/- The reference's Write: rows of bytes and of writes of the call's own. -/
import Derived.Test.YtiphajgmjmjanaaWr
import Derived.Test.YtiphajgmjmjanaaRCk
import Derived.Test.YtiphajgmjmjanaaPlT
namespace Go.Proofs.Ytiphajgmjmjanaa
open Go.RowKit
set_option linter.unusedVariables false
set_option linter.unusedSimpArgs false

/-- Bytes of the call's own. -/
def Row8 (w0 w : World) (A : Option Addr) (l : List UInt8) (c : Nat) : Prop := w.ownsRow w0.heap.size 5 1 (.slice A l.length c) l.length (l.map bv) ∧ Below w0.heap.size w0 w
theorem Row8.up {w0 w w' : World} {A : Option Addr} {l : List UInt8} {c : Nat} (h : Row8 w0 w A l c) (hb : Below w.heap.size w w') : Row8 w0 w' A l c := ⟨own_below h.1 hb, h.2.trans (hb.mono h.2.size)⟩
theorem Row8.start (w : World) : Row8 w (w.alloc (.cells #[] 5)) (some ⟨w.heap.size, 0, none⟩) [] 0 := ⟨own_empty w (Nat.le_refl _), (Below.refl w.heap.size w).alloc (Nat.le_refl _) _⟩
theorem Row8.sl {w0 w : World} {A : Option Addr} {l : List UInt8} {c : Nat} (h : Row8 w0 w A l c) : Sl w A l c := by
  have h1 := Bs.of_own h.1
  refine ⟨h1.1, h1.2.1, h1.2.2, fun hA => ?_⟩
  subst hA
  rcases h.1.2 with ⟨hv, hn⟩ | ⟨g, cap, cur, hv, _⟩
  · injection hv with _ _ hc
    exact ⟨List.length_eq_zero_iff.1 hn, hc⟩
  · injection hv with hv
    cases hv
/-- A literal of one byte. -/
theorem sl_one (w : World) (x : UInt8) : Sl (w.alloc (.cells #[bv x] 5)) (some ⟨w.heap.size, 0, none⟩) [x] 1 :=
  ⟨Bs.of_box (l := [x]) (t := 5) (Box.new w #[bv x] 5), Nat.le_refl _, by unfold maxLen; omega, fun h => by cases h⟩
theorem sl_val (w : World) (x : UInt8) (X : Int) (h : X = (x.toNat : Int)) : Sl (w.alloc (.cells #[.int .u8 X] 5)) (some ⟨w.heap.size, 0, none⟩) [x] 1 := by
  subst h
  exact sl_one w x
theorem byte_at (n i : Nat) : ((n : Int) * 8 / 2 ^ (8 * i) % 256) = ((UInt8.ofNat (n * 8 / 256 ^ i % 256)).toNat : Int) := by
  have e : (2 : Nat) ^ (8 * i) = 256 ^ i := by rw [Nat.pow_mul]
  rw [← e]
  generalize 8 * i = m
  have h : n * 8 / 2 ^ m % 256 < 256 := Nat.mod_lt _ (by omega)
  rw [UInt8.toNat_ofNat_of_lt' h, Int.natCast_emod, Int.natCast_ediv, Int.natCast_mul, Int.natCast_pow]
  rfl
theorem wpList_append_bytes {w0 w : World} {ops : Array Oper} {rest : List Oper} {o : Oper} {a : Act} {Q : Exit → Act → World → Prop} (hgd : o.guard = none) (s x : Operand)
    (ho : o.op = .call { callee := .builtin .append, args := #[s, x], argTypes := #[35, 35] })
    (A : Option Addr) (l : List UInt8) (n c : Nat) (hs : a.eval s = .slice A n c) (hl : l.length = n) (hR : Row8 w0 w A l c)
    (A2 : Option Addr) (l2 : List UInt8) (m c2 : Nat) (hm : l2.length = m) (hx : a.eval x = .slice A2 m c2) (hS : Sl w A2 l2 c2) (N : Nat) (hN : n + m = N) (hn : N ≤ 1000000)
    (h : ∀ A' c' w', Row8 w0 w' A' (l ++ l2) c' → wpList Try.prog ops Q rest (a.put o.dst (.slice A' N c')) w') : wpList Try.prog ops Q (o :: rest) a w := by
  subst hl hN
  refine wpList_plain hgd fun K hK => wp_append_sl s x ho _ _ _ hs hR.1 A2 l2 m c2 hm hx hS hn hR.2.size fun A' c' w' h1 h2 => hK _ _ (h A' c' w' ⟨?_, hR.2.grown h2 hR.2.size (fun i hi => (hR.1.lt i hi).1)⟩)
  rw [List.length_append, List.map_append, hm]
  exact h1

/-- append(own[:0], writes...). -/
theorem wpList_append_wall {w0 w : World} {ops : Array Oper} {rest : List Oper} {o : Oper} {a : Act} {Q : Exit → Act → World → Prop} (hgd : o.guard = none) (s x : Operand)
    (ho : o.op = .call { callee := .builtin .append, args := #[s, x], argTypes := #[23, 23] })
    (g0 : Nat) (hs : a.eval s = .slice (some ⟨g0, 0, none⟩) 0 0) (hown : w.ownsRow w0.heap.size 54 2 (.slice (some ⟨g0, 0, none⟩) 0 0) 0 [])
    (B : Option Addr) (l : List (Int × List UInt8)) (n k : Nat) (hn : l.length = n) (hx : a.eval x = .slice B n k) (hW : WW w0 B l k) (hb0 : Below w0.heap.size w0 w) (hb : n ≤ 1000000)
    (h : ∀ vs A' c' w', vs.length = n * 2 → (∀ (i : Nat) (a : Int × List UInt8), l[i]? = some a → ∃ D d, vs[i * 2]? = some (.int .i64 a.1) ∧ vs[i * 2 + 1]? = some (.slice D a.2.length d) ∧ Sl w0 D a.2 d) → w'.ownsRow w0.heap.size 54 2 (.slice A' n c') n vs → Below w0.heap.size w0 w' → wpList Try.prog ops Q rest (a.put o.dst (.slice A' n c')) w') : wpList Try.prog ops Q (o :: rest) a w := by
  obtain ⟨i0, hi0, hz0, hz1, hz2⟩ := info_parts wr_info
  refine wpList_plain hgd fun K hK => ?_
  cases B with
  | none =>
    obtain ⟨rfl, rfl⟩ := hW.2.2.2 rfl
    obtain rfl : n = 0 := by simpa using hn.symm
    have hrun := run_append_owned_none (P := Try.prog) (w := w) w0.heap.size 23 o.type 54 i0 2 Try.underlying23 hi0 (.slice (some ⟨g0, 0, none⟩) 0 0) 0 [] hown
    unfold Oper.wp
    simp [execOp, ho, resolve, invoke, builtin, hs, hx, hrun, Result.andThen]
    exact hK _ _ (h [] _ 0 w rfl (fun i a hi => by cases hi) hown hb0)
  | some b =>
    obtain ⟨vs, v1, v2, v3, v4⟩ : ∃ vs : List Value, vs.length = l.length * 2 ∧ (∀ u ∈ vs, u.oneCell' = true) ∧ (∀ (i : Nat) (a : Int × List UInt8), l[i]? = some a → ∃ D d, vs[i * 2]? = some (.int .i64 a.1) ∧ vs[i * 2 + 1]? = some (.slice D a.2.length d) ∧ Sl w0 D a.2 d) ∧ ∀ j u, vs[j]? = some u → w.cell? (b.add j) = some u := by
      by_cases hp : 0 < l.length
      · obtain ⟨b', off, e, _⟩ := hW.1 hp
        cases e
        obtain ⟨vs, v1, v2, v3, v4⟩ := hW.cells
        refine ⟨vs, v1, v2, v3, fun j u hu => ?_⟩
        have h4 := v4 j u hu
        rw [add_off] at h4 ⊢
        exact (hb0.cell (p := ⟨b', off + j, none⟩) (World.block_lt_of_cell? _ _ h4)).trans h4
      · have : l = [] := List.eq_nil_of_length_eq_zero (by omega)
        subst this
        exact ⟨[], rfl, (fun u hu => by cases hu), (fun i a hi => by cases hi), (fun j u hu => by cases hu)⟩
    refine wp_append_own w s x 23 ho w0.heap.size 54 i0 (.agg #[.int .i64 0, .slice none 0 0]) 2 32 Try.underlying23 hi0 hz0 hz1 hz2 rfl (by decide) _ 0 [] hs hown b n k vs hx (by rw [v1, hn]) v4 v2 (le_maxLen (by omega)) (by omega) hb0.size ?_
    intro v' w' ho' hg' _
    rw [Nat.zero_add, List.nil_append] at ho'
    obtain ⟨A1, c1, rfl⟩ := own_form ho'
    exact hK _ _ (h vs A1 c1 w' (by rw [v1, hn]) v3 ho' (hb0.grown hg' hb0.size (fun i hi => (hown.lt i hi).1)))
/-- append of one write to writes of the call's own. -/
theorem wpList_append_w1 {w0 w : World} {ops : Array Oper} {rest : List Oper} {o : Oper} {a : Act} {Q : Exit → Act → World → Prop} (hgd : o.guard = none) (s x : Operand)
    (ho : o.op = .call { callee := .builtin .append, args := #[s, x], argTypes := #[23, 23] })
    (v : Value) (n : Nat) (xs : List Value) (hs : a.eval s = v) (hown : w.ownsRow w0.heap.size 54 2 v n xs)
    (q : Nat) (y : Int) (D : Option Addr) (m d : Nat) (hx : a.eval x = .slice (some ⟨q, 0, none⟩) 1 1) (hq : Box w q #[.int .i64 y, .slice D m d] 54) (hb : n ≤ 1000000) (hb0 : Below w0.heap.size w0 w)
    (h : ∀ g' c' w', w'.ownsRow w0.heap.size 54 2 (.slice (some ⟨g', 0, none⟩) (n + 1) c') (n + 1) (xs ++ [.int .i64 y, .slice D m d]) → w0.heap.size ≤ g' → Below w0.heap.size w0 w' → wpList Try.prog ops Q rest (a.put o.dst (.slice (some ⟨g', 0, none⟩) (n + 1) c')) w') : wpList Try.prog ops Q (o :: rest) a w := by
  obtain ⟨i0, hi0, hz0, hz1, hz2⟩ := info_parts wr_info
  have hnews : ∀ j v, [Value.int .i64 y, .slice D m d][j]? = some v → w.cell? ((⟨q, 0, none⟩ : Addr).add j) = some v := World.news_of_block hq
  refine wpList_append_own w hgd s x 23 ho w0.heap.size 54 i0 (.agg #[.int .i64 0, .slice none 0 0]) 2 32 Try.underlying23 hi0 hz0 hz1 hz2 rfl (by decide) v n xs hs hown ⟨q, 0, none⟩ 1 1 [.int .i64 y, .slice D m d] hx rfl hnews (by intro v hv; simp at hv; rcases hv with rfl | rfl <;> rfl) (le_maxLen (by omega)) (by omega) hb0.size ?_
  intro v' w' ho' hg' _
  obtain ⟨g, cg, rfl, hgb, _⟩ := ho'.form (by omega)
  exact h g cg w' ho' hgb (hb0.grown hg' hb0.size (fun i hi => (hown.lt i hi).1))
end Go.Proofs.Ytiphajgmjmjanaa
