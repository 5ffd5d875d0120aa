/- The law of lists. -/
import Derived.Test.YtemlkklcjemjcaaLawRound
import Derived.Test.YtemlkklcjemjcaaReadL
namespace Go.Proofs.Ytemlkklcjemjcaa
open Go.RowKit
set_option linter.unusedVariables false

theorem own_ne {w : World} {B B' n n' s s' : Nat} {v v' : Value} {e e' : TypeId} {xs xs' : List Value} (h : w.ownsRow B e s v n xs) (h' : w.ownsRow B' e' s' v' n' xs') (hne : e' ≠ e) : v.ownBlock = none ∨ v.ownBlock ≠ v'.ownBlock := by
  rcases h.2 with ⟨rfl, _⟩ | ⟨g, cap, cur, rfl, _, hg, _⟩
  · exact .inl rfl
  · refine .inr ?_
    have := own_other h' hg hne
    simpa [Value.ownBlock] using this
theorem own_up {w w' : World} {B n s : Nat} {v : Value} {e : TypeId} {xs : List Value} (h : w.ownsRow B e s v n xs) (hb : Below w.heap.size w w') : w'.ownsRow B e s v n xs :=
  h.kept (row := none) ⟨hb.os, hb.tape, hb.output, hb.size, fun k hk _ => hb.block k hk⟩ (by cases hv : v.ownBlock <;> simp)

/-- The cells of j zeros. -/
def zs : Nat → List Value
  | 0 => []
  | j + 1 => zs j ++ [.int .i64 1, .int .i64 0, .string ⟨#[]⟩, .slice none 0 0]
theorem zs_len (j : Nat) : (zs j).length = j * 4 := by
  induction j with
  | zero => rfl
  | succ j ih => simp only [zs, List.length_append, ih, List.length_cons, List.length_nil]; omega
theorem zs_row (w : World) (j : Nat) : RowT (fun _ => False) w (List.replicate j (tInt 0)) (zs j) := by
  induction j with
  | zero => intro i t h; simp at h
  | succ j ih =>
    rw [List.replicate_succ']
    exact ih.snoc (by rw [zs_len, List.length_replicate]) (RdQ.int _ w 0 (by unfold Fit; omega))
theorem zs_list {w : World} {base j : Nat} {v : Value} (h : w.ownsRow base 24 4 v j (zs j)) (hj : j ≤ maxLen) :
    ∃ A c, v = .slice A j c ∧ Rd w.heap.size w (tList (List.replicate j (tInt 0))) (.agg #[.int .i64 3, .int .i64 0, .string ⟨#[]⟩, .slice A j c]) := by
  obtain ⟨A, c, rfl⟩ := own_form h
  have hl : (List.replicate j (tInt 0)).length = j := List.length_replicate
  have := RowT.list (Q' := fun _ => True) (A := A) (c := c) (zs_row w j) (by rw [hl]; exact h) (by rw [hl]; exact hj) (fun _ h => h.elim) (fun _ _ => True.intro)
  rw [hl] at this
  exact ⟨A, c, rfl, this.rd⟩

theorem catTo_const (g : Nat → List UInt8) (m j : Nat) (h : ∀ i, i < j → (g i).length = m) : (catTo g j).length = m * j := by
  induction j with
  | zero => simp [catTo]
  | succ j ih =>
    simp only [catTo, List.length_append]
    rw [ih (fun i hi => h i (by omega)), h j (by omega), Nat.mul_succ]
theorem catTo_bound (g : Nat → List UInt8) (m j : Nat) (h : ∀ i, i < j → (g i).length ≤ m) : (catTo g j).length ≤ m * j := by
  induction j with
  | zero => simp [catTo]
  | succ j ih =>
    simp only [catTo, List.length_append]
    have := ih (fun i hi => h i (by omega))
    have := h j (by omega)
    rw [Nat.mul_succ]
    omega
theorem getD_rep (j i : Nat) (h : i < j) : (List.replicate j (tInt 0)).getD i .nil = tInt 0 := by
  simp [List.getD, h]
theorem zeros_facts (j : Nat) : dep (tList (List.replicate j (tInt 0))) ≤ 1 ∧ chk (tList (List.replicate j (tInt 0))) = 0 ∧ (enc (tList (List.replicate j (tInt 0)))).length = 1 + (num j).length + 2 * j := by
  have hd : dep (tList (List.replicate j (tInt 0))) ≤ 1 := by
    simp only [dep, tList, if_true]
    have := maxTo_le (g := fun i => dep ((List.replicate j (tInt 0)).getD i .nil)) (n := (List.replicate j (tInt 0)).length) (M := 0) (fun i hi => by
      rw [List.length_replicate] at hi
      show dep ((List.replicate j (tInt 0)).getD i .nil) ≤ 0
      rw [getD_rep j i hi]
      simp [dep, tInt])
    omega
  refine ⟨hd, chk_ok ?_ (by omega), ?_⟩
  · simp [wfB, tList]
    refine allTo_eq.2 fun i hi => ?_
    have := getD_rep j i hi
    simp only [List.getD] at this
    first
      | (rw [this]; simp [wfB, tInt])
      | (simp [hi, wfB, tInt])
  · simp only [enc, tList]
    rw [if_neg (by omega), if_neg (by omega), List.length_cons, List.length_append, List.length_replicate]
    have := catTo_const (fun i => enc ((List.replicate j (tInt 0)).getD i .nil)) 2 j (fun i hi => by
      show (enc ((List.replicate j (tInt 0)).getD i .nil)).length = 2
      rw [getD_rep j i hi]
      rfl)
    rw [this]
    omega

def lst (len : Nat) (f : Nat → T) : T := .mk 3 0 ⟨#[]⟩ len f
theorem lst_rd {w : World} {len cap : Nat} {f : Nat → T} {a : Option Addr} (hl : len ≤ maxLen) (h : RdS w.heap.size w len f a) : Rd w.heap.size w (lst len f) (.agg #[.int .i64 3, .int .i64 0, .string ⟨#[]⟩, .slice a len cap]) :=
  ⟨a, cap, rfl, by unfold Fit; omega, by unfold Fit; omega, by unfold maxLen; simp [ByteArray.size], hl, h⟩
theorem lst_wf (len : Nat) (f : Nat → T) : wfB (lst len f) = allTo (fun i => wfB (f i)) len := by simp [wfB, lst]
theorem lst_dep (len : Nat) (f : Nat → T) : dep (lst len f) = maxTo (fun i => dep (f i)) len + 1 := by simp [dep, lst]
theorem lst_enc (len : Nat) (f : Nat → T) : enc (lst len f) = 3 :: (num len ++ catTo (fun i => enc (f i)) len) := by simp [enc, lst]
theorem lst_bad {len j : Nat} {f : Nat → T} (hj : j < len) (h : chk (f j) ≠ 0) : chk (lst len f) ≠ 0 := by
  intro h0
  obtain ⟨h1, h2⟩ := chk_zero h0
  rw [lst_wf] at h1
  rw [lst_dep] at h2
  have h3 : dep (f j) ≤ _ := le_maxTo (g := fun i => dep (f i)) hj
  exact h (chk_ok (allTo_eq.1 h1 j hj) (by omega))
theorem lst_limit {len : Nat} {f : Nat → T} (h : ∀ i, i < len → chk (f i) = 0) (h0 : chk (lst len f) ≠ 0) : chk (lst len f) = 2 := by
  have hw : wfB (lst len f) = true := by
    rw [lst_wf]
    exact allTo_eq.2 fun i hi => (chk_zero (h i hi)).1
  unfold chk at *
  rw [if_pos hw] at *
  split at h0
  · rename_i hd; rw [if_pos hd]
  · exact absurd rfl h0

theorem RdS.up {w w' : World} {len : Nat} {f : Nat → T} {a : Option Addr} (h : RdS w.heap.size w len f a) (hb : Below w.heap.size w w') : RdS w'.heap.size w' len f a := (h.below hb).more hb.size
end Go.Proofs.Ytemlkklcjemjcaa
