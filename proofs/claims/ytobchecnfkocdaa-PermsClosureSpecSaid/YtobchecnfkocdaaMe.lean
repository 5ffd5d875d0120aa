/- A set of elements: a map whose keys are arrays of 256 bytes. -/
import Derived.Maps.OwnSet
import Derived.Maps.Views
import Derived.WideKeyPair
import Derived.Test.YtobchecnfkocdaaEl
namespace Go.Proofs.Ytobchecnfkocdaa
open Go.RowKit
open Go.Maps (Keyed)
set_option linter.unusedVariables false
set_option linter.unusedSimpArgs false

theorem el_arr : Go.WideMaps.ArrKey Try.prog 55 5 256 := ⟨Try.underlying55, by kernel_rfl, by kernel_rfl, by kernel_rfl⟩
theorem el_keyed : Keyed Try.prog 55 := Go.Maps.Keyed.of_law el_arr.law
theorem mapM_some {α β : Type} (g : α → Option β) (h : α → β) : ∀ (l : List α), (∀ x ∈ l, g x = some (h x)) → l.mapM g = some (l.map h)
  | [], _ => rfl
  | x :: l, hh => by
    rw [List.mapM_cons, hh x (List.mem_cons_self ..), mapM_some g h l (fun y hy => hh y (List.mem_cons_of_mem _ hy))]
    rfl
theorem types_pos : ∃ m, Try.prog.types.size = m + 2 := ⟨Try.prog.types.size - 2, by
  have : 2 ≤ Try.prog.types.size := of_decide_eq_true (by kernel_rfl)
  omega⟩
theorem el_key (f : Nat → Nat) (hf : ∀ i, i < 256 → f i < 256) : ∃ l, keyOf Try.prog 55 (.agg (ucs f)) = some l := by
  obtain ⟨m, hm⟩ := types_pos
  have A := el_arr
  have hkt := A.keyType ⟨m + 1, hm⟩
  unfold keyOf
  simp only [A.hu]
  rw [if_pos (by simp [hkt, Value.formed, A.hu, A.size, ucs_size]), hm]
  unfold Program.keyLits
  simp only [A.hu, Value.cells]
  have hl : (ucs f).toList.length = Try.prog.cellsOf 55 := by rw [A.size]; exact ucs_size f
  rw [if_pos hl]
  have hM : (List.range 256).mapM (fun i => Try.prog.keyLits (m + 2) 5 (((ucs f).toList.drop (i * Try.prog.cellsOf 5)).take (Try.prog.cellsOf 5))) = some ((List.range 256).map fun i => [Lit.int .u8 (f i : Int)]) := by
    refine mapM_some _ _ _ fun i hi => ?_
    have hi := List.mem_range.1 hi
    have h1 : ((ucs f).toList.drop (i * Try.prog.cellsOf 5)).take (Try.prog.cellsOf 5) = [.int .u8 (f i : Int)] := by
      rw [A.one, Nat.mul_one]
      have h2 : (ucs f).toList[i]? = some (.int .u8 (f i : Int)) := by
        have := ucs_at f hi
        rwa [← Array.getElem?_toList] at this
      obtain ⟨h3, h4⟩ := List.getElem?_eq_some_iff.1 h2
      rw [List.drop_eq_getElem_cons h3, h4]
      rfl
    rw [h1]
    unfold Program.keyLits
    have hw : (Lit.int .u8 (f i : Int)).wf = true := by
      have := hf i hi
      simp [Lit.wf, IntKind.min, IntKind.max, IntKind.signed, IntKind.bits]
      omega
    simp [Try.underlying5, hw]
  rw [hM]
  exact ⟨_, rfl⟩
theorem eof_inj {p q : List Nat} {n : Nat} (hp : p.length = n) (hq : q.length = n) (hn : n ≤ 256) (h : eof p = eof q) : p = q := by
  refine ext_getD (by rw [hp, hq]) (fun i hi => ?_)
  have h1 := ucs_at (fun i => p.getD i 0) (i := i) (by omega)
  have h2 := ucs_at (fun i => q.getD i 0) (i := i) (by omega)
  have h3 : (ucs fun i => p.getD i 0)[i]? = (ucs fun i => q.getD i 0)[i]? := congrArg (fun (x : Array Value) => x[i]?) h
  rw [h1, h2] at h3
  injection h3 with h3
  injection h3 with _ h3
  omega
/-- A list that is an element of n numbers. -/
def Ok (N : Nat) (p : List Nat) : Prop := p.length = N ∧ ∀ x ∈ p, x < 256
theorem Ok.key {N : Nat} {p : List Nat} (h : Ok N p) : ∃ l, keyOf Try.prog 55 (.agg (eof p)) = some l :=
  el_key _ fun i _ => by
    by_cases hi : i < p.length
    · exact h.2 _ (getD_mem hi)
    · rw [List.getD_eq_getElem?_getD, List.getElem?_eq_none (by omega)]
      decide
/-- Block b is a map that says of each element whether it is in S. -/
def ME (N : Nat) (W : World) (b n : Nat) (S : List (List Nat)) : Prop := ∃ D : DataW Unit, W.ownsMap Try.prog 55 (plainElem Try.prog 4) b n D ∧
  ∀ p l, Ok N p → keyOf Try.prog 55 (.agg (eof p)) = some l → D.atKey l (.lit (.bool false)) = .lit (.bool (decide (p ∈ S)))
theorem ME.new (N : Nat) (W : World) : ME N (W.alloc (.map #[] 0)) W.heap.size 0 [] := ⟨_, World.ownsMap_made W _ _ _, fun p l h1 h2 => by
  clear h1 h2
  simp [DataW.atKey]⟩
theorem ME.kept {N : Nat} {W W' : World} {b n : Nat} {S : List (List Nat)} {row : Option Nat} (h : ME N W b n S) (hg : W.grownBy W' row) (hne : some b ≠ row) : ME N W' b n S := by
  obtain ⟨D, hD, ha⟩ := h
  exact ⟨D, hD.kept hg hne, ha⟩
set_option maxRecDepth 100000 in
theorem plainElem_bool_inv {v : Value} {z : DataW Unit × List MemPlace} (h : plainElem Try.prog 4 v = some z) : ∃ x, v = .bool x ∧ z = (.lit (.bool x), []) := by
  unfold plainElem at h
  rw [Try.underlying4] at h
  cases v <;> simp at h
  exact ⟨_, rfl, h.symm⟩
set_option maxRecDepth 100000 in
theorem ME.look {N : Nat} {W : World} {b n : Nat} {S : List (List Nat)} (h : ME N W b n S) {p : List Nat} (hp : Ok N p) : (Instr.lookup 61 (.map (some b)) (.agg (eof p)) false).run Try.prog W = .ok (.bool (decide (p ∈ S))) W := by
  obtain ⟨D, hD, ha⟩ := h
  obtain ⟨l, hl⟩ := hp.key
  obtain ⟨v, ps, hrun, hv⟩ := hD.lookup el_keyed Try.underlying61 (Try.zeroValue4 W) (plainElem_bool Try.underlying4 false) hl
  obtain ⟨y, rfl, hz⟩ := plainElem_bool_inv hv
  rw [ha p l hp hl] at hz
  have : decide (p ∈ S) = y := by simpa using (Prod.mk.inj hz).1
  rw [hrun, this]
set_option maxRecDepth 100000 in
theorem ME.upd {N : Nat} {W : World} {b n : Nat} {S : List (List Nat)} (h : ME N W b n S) {p : List Nat} (hp : Ok N p) (hN : N ≤ 256) (hn : n < maxLen) : ∃ W', (Instr.mapUpdate 61 (.map (some b)) (.agg (eof p)) (.bool true)).run Try.prog W = .ok () W' ∧ ME N W' b (n + 1) (p :: S) ∧ W.grownBy W' (some b) := by
  obtain ⟨D, hD, ha⟩ := h
  obtain ⟨l, hl⟩ := hp.key
  obtain ⟨W', hrun, ho, hg⟩ := hD.update el_keyed Try.underlying61 hn hl (plainElem_bool Try.underlying4 true)
  refine ⟨W', hrun, ⟨_, ho, fun q lq hq hlq => ?_⟩, hg⟩
  by_cases e : q = p
  · subst e
    obtain rfl : l = lq := Option.some.inj (hl.symm.trans hlq)
    rw [Maps.atKey_put_same hD.isMap (el_keyed.key hl), decide_eq_true (List.mem_cons_self ..)]
  · rw [Maps.atKey_put_other (fun e2 => e (by
      subst e2
      have := el_keyed.inj hlq hl
      injection this with this
      exact eof_inj hq.1 hp.1 hN this)), ha q lq hq hlq]
    have h3 : decide (q ∈ p :: S) = decide (q ∈ S) := by rw [decide_eq_decide, List.mem_cons]; exact ⟨fun h => h.resolve_left e, .inr⟩
    rw [h3]
end Go.Proofs.Ytobchecnfkocdaa
