/- list: the normal list of a set. -/
import Derived.Test.YtnmlfdmlcpgaaaaIter
import Derived.Maps.AppendAt
namespace Go.Proofs.Ytnmlfdmlcpgaaaa
open Go.RowKit Go.Shelf
set_option linter.unusedVariables false
attribute [local go_sem] Oper.semAt_some

/-- The cells of spans. -/
def svs (l : List (Int × Int)) : List Value := l.flatMap fun s => [.int .i64 s.1, .int .i64 s.2]
theorem svs_snoc (l : List (Int × Int)) (s : Int × Int) : svs (l ++ [s]) = svs l ++ [.int .i64 s.1, .int .i64 s.2] := by simp [svs]
theorem svs_length (l : List (Int × Int)) : (svs l).length = l.length * 2 := by
  induction l with
  | nil => rfl
  | cons s l ih => simp [svs] at ih ⊢; omega
theorem svs_get : ∀ (l : List (Int × Int)) (j : Nat) (s : Int × Int), l[j]? = some s → (svs l)[j * 2]? = some (.int .i64 s.1) ∧ (svs l)[j * 2 + 1]? = some (.int .i64 s.2)
  | [], j, s, h => by simp at h
  | t :: l, 0, s, h => by
    simp at h
    subst h
    exact ⟨rfl, rfl⟩
  | t :: l, j + 1, s, h => by
    have ih := svs_get l j s (by simpa using h)
    have e : svs (t :: l) = .int .i64 t.1 :: .int .i64 t.2 :: svs l := rfl
    rw [e, show (j + 1) * 2 = j * 2 + 1 + 1 by omega, show j * 2 + 1 + 1 + 1 = (j * 2 + 1) + 1 + 1 by omega]
    simpa using ih
theorem svs_one (l : List (Int × Int)) : ∀ u ∈ svs l, u.oneCell' = true := by
  intro u hu
  simp only [svs, List.mem_flatMap] at hu
  obtain ⟨s, _, hs⟩ := hu
  simp at hs
  rcases hs with rfl | rfl <;> rfl
theorem span_info : (Try.prog.info? 31).map (fun i => (i.zero, i.size, i.bytes)) = some (some (.agg #[.int .i64 0, .int .i64 0]), 2, 16) := by kernel_rfl

/-- A row of the call's own, as spans that came in. -/
theorem Sl.of_own {w : World} {B : Nat} {v : Value} {l : List (Int × Int)} (h : w.ownsRow B 31 2 v l.length (svs l)) : ∃ A c, v = .slice A l.length c ∧ Sl w A l c := by
  rcases h.2 with ⟨rfl, hn⟩ | ⟨g, cap, cur, rfl, hbg, hg, h1, h2, _⟩
  · refine ⟨none, 0, by rw [hn], fun hp => ?_, by omega, Nat.zero_le _⟩
    omega
  · refine ⟨_, _, rfl, fun hp => ⟨g, 0, rfl, heap_lt hg, fun j s hs => ?_⟩, h1, h2⟩
    obtain ⟨e1, e2⟩ := svs_get l j s hs
    have k1 := h.cells (g := g) rfl _ _ e1
    have k2 := h.cells (g := g) rfl _ _ e2
    rw [add_off] at k1 k2
    rw [Nat.zero_add] at k1 k2 ⊢
    exact ⟨k1, k2⟩

theorem box_own {β : Type} (B : Nat) (t : TypeId) (f : β → Array Value) : Own (fun s W => Box W B (f s) t) := fun s X Y row hs hg hrow =>
  hs.grown hg (fun e' => by obtain ⟨o, ho, hc⟩ := hrow B e'.symm; rw [show X.heap[B]? = _ from hs] at ho; cases ho; cases hc)
theorem two_new (W : World) (a b : Value) (t : TypeId) : ∀ j u, [a, b][j]? = some u → (W.alloc (.cells #[a, b] t)).cell? ((⟨W.heap.size, 0, none⟩ : Addr).add j) = some u := by
  intro j u hu
  rw [add_off, (Box.new W #[a, b] t).cell]
  rw [Nat.zero_add]
  simpa using hu

theorem own_other {w : World} {B n g : Nat} {v : Value} {e t : TypeId} {size : Nat} {xs : List Value} {cs : Array Value} {z : Nat × Nat} (h : w.ownsRow B e size v n xs) (hg : w.heap[g]? = some (.cells cs t z)) (hne : e ≠ t) : some g ≠ v.ownBlock := by
  rcases h.2 with ⟨rfl, _⟩ | ⟨g', cap, cur, rfl, _, hh, _⟩
  · simp [Value.ownBlock]
  · intro he
    simp [Value.ownBlock] at he
    subst he
    rw [hh] at hg
    injection hg with hg
    injection hg with _ ht
    exact hne ht
/-- What a function that makes spans leaves. -/
def RowPost (l : List (Int × Int)) (w : World) (e : Ending) (w' : World) : Prop :=
  ∃ A c, e = .returned (.slice A l.length c) ∧ Sl w' A l c ∧ Below w.heap.size w w'

set_option maxRecDepth 100000 in
set_option maxHeartbeats 2000000 in
theorem list_in (n : Nat) (hn : 3 ≤ n) (f : Nat → Bool) (w : World) :
    CallsIn Fence.wide n Try.prog 26 #[.agg (bcells f)] w (RowPost (nl f 1024) w) := by
  have h1 : 1 ≤ n := by omega
  obtain ⟨i0, hi, hz0, hz1, hz2⟩ := info_parts span_info
  have HI := Lib.hid (size_set f)
  have hne := bcells_ne f
  have bD := (Box.new w (bcells f) 40).alloc (.cells #[.slice none 0 0] 22)
  have bL := Boxed.new (w.alloc (.cells (bcells f) 40)) 22 (.slice none 0 0)
  have hB0 := ((Below.refl w.heap.size w).alloc (Nat.le_refl _) (.cells (bcells f) 40)).alloc (by simp) (.cells #[.slice none 0 0] 22)
  have bN := Box.new ((w.alloc (.cells (bcells f) 40)).alloc (.cells #[.slice none 0 0] 22)) (bcells f) 40
  have bL2 := bL.alloc (.cells (bcells f) 40)
  have hB2 := hB0.alloc (by simp; omega) (.cells (bcells f) 40)
  simp only [World.size_alloc] at bL bL2 bN
  have HD := Lib.hid bD
  have HS := Lib.hid (spans_stops (n - 1) (by omega) (w.heap.size + 1 + 1) f _ bN)
  have HC := Lib.hid (fun w => (callsIn_wide (n := n - 1)).2 (spans_any f w))
  have HL := Lib.hid (And.intro bL2 hB2)
  clear bD bL hB0 bN bL2 hB2
  generalize bcells f = CS at *
  refine callsIn_of_wp_marks Try.func26 rfl trivial ?_ rfl
  simp only [Try.ntmps26, List.size_toArray, List.length_cons, List.length_nil, Nat.reduceAdd, Nat.reduceSub, Array.replicate_succ, Array.replicate_zero, List.push_toArray, List.append_toArray, List.nil_append, List.cons_append]
  gi_wp2_with (first
    | (refine wpListIn_load_row rfl 40 (.tmp 1) rfl w.heap.size rfl 40 CS (0, 0) _ HD.out Try.underlying40 rfl HI.out ?_))
  refine ⟨trivial, (HC.out _).mono ?_⟩
  rintro e w' ⟨rfl, rfl⟩
  gi_wp2
  obtain ⟨W0, hW0⟩ : ∃ W0, ((w.alloc (.cells CS 40)).alloc (.cells #[.slice none 0 0] 22)).alloc (.cells CS 40) = W0 := ⟨_, rfl⟩
  have hsz : W0.heap.size = w.heap.size + 3 := by rw [← hW0]; simp
  rw [hW0] at HS HL ⊢
  clear hW0 HD HC
  refine wpIn_rangeFunc_ownH rfl h1 (gf := 39) (lb := #[.pointer (some ⟨w.heap.size + 1 + 1, 0, none⟩)]) rfl trivial (enters_of Try.func39 (by kernel_rfl) rfl)
    HS.out keepsBox_t (keepsBox_b (by omega)) (Below.refl _ _) (fun _ => rfl)
    (fun pre W => (∃ v, Boxed W (w.heap.size + 1) 22 v ∧ W.ownsRow w.heap.size 31 2 v pre.length (svs pre) ∧ True) ∧ Below w.heap.size w W)
    (fun _ _ _ => False)
    (OwnFrom.and (Own.from (holdsRow_own w.heap.size (w.heap.size + 1) 22 31 2 (fun pre => pre.length) (fun pre => svs pre) (fun _ _ => True)) _) (ownFrom_below (Nat.le_refl _) (by omega)))
    (fun _ _ _ _ _ hs _ _ => hs)
    ⟨⟨_, HL.out.1, World.ownsRow_nil _ _ _ _, trivial⟩, HL.out.2⟩
    (fun x a' W => ∃ Bx, Box W Bx #[.int .i64 x.1, .int .i64 x.2] 31 ∧ a' = { tmps := #[.agg CS, .pointer (some ⟨w.heap.size, 0, none⟩), .pointer (some ⟨w.heap.size + 1, 0, none⟩), .pointer (some ⟨Bx, 0, none⟩), .agg CS, .func (.func 39) #[] #[.pointer (some ⟨w.heap.size + 1 + 1, 0, none⟩)], spv x, undef, undef, undef, undef, undef], defers := [] })
    (fun x a' _ X Y row hs hg hr => by obtain ⟨Bx, h2, h3⟩ := hs; exact ⟨Bx, box_own Bx 31 (fun (_ : Unit) => #[Value.int .i64 x.1, Value.int .i64 x.2]) () X Y row h2 hg (fun r e => (hr r e).2), h3⟩)
    ?assign ?body ?done ?stop
  case assign =>
    rintro l pre x W K ⟨⟨v, hv, hrow, _⟩, hB⟩ hK
    obtain ⟨a, b⟩ := x
    dsimp only [spv]
    gi_wp2
    exact hK _ _ ((KeepsOthers.alloc _ _).from _) (fun h => h.alloc _) ⟨⟨v, hv.alloc _, hrow.alloc _, trivial⟩, hB.alloc hB.size _⟩ ⟨W.heap.size, Box.new W _ _, rfl⟩
  case body =>
    rintro l pre x a' W hl _ ⟨⟨v, hv, hrow, _⟩, hB⟩ ⟨Bx, bX, rfl⟩ hlt
    obtain ⟨a, b⟩ := x
    have hc := hv.cell
    have hc0 := bX.cell 0
    have hc1 := bX.cell 1
    simp only [List.getElem?_toArray, List.getElem?_cons_zero, List.getElem?_cons_succ] at hc0 hc1
    dsimp only [spv]
    gi_wp2_with (gi_at_builtin; refine wpListIn_append_own _ rfl _ _ 22 rfl w.heap.size 31 i0 (.agg #[.int .i64 0, .int .i64 0]) 2 16 Try.underlying22 hi hz0 hz1 hz2 rfl (by decide) _ _ _ rfl (hrow.alloc _) ⟨W.heap.size, 0, none⟩ 1 1 [.int .i64 a, .int .i64 b] rfl rfl (two_new _ _ _ _) (by simp [Value.oneCell']) (le_maxLen (by omega)) (by omega) (by have := hB.size; simp; omega) ?_; intro v' w1 hown' hgrow _; obtain ⟨g', cap', rfl⟩ := ownsRow_succ hown'; obtain ⟨hv1, hv2, hr2, hk2, hb2⟩ := hv.appended (by decide) hrow hB.size (by omega) hown' hgrow; have hc1 := hv1.cell; have hf1 := hv1.frozen)
    refine ⟨hk2.from _, ?_, ⟨_, hv2, ?_⟩, hB.trans hb2⟩
    · intro hx
      exact ((hx.alloc _).grown hgrow (own_other hrow hx (by decide))).grown (set_grown_at _ (w.heap.size + 1) 0 _) (by simp)
    · rw [svs_snoc, List.length_append]
      exact hr2
  case done =>
    rintro D ys W hD rfl ⟨⟨v, hv, hrow, _⟩, hB⟩ hK
    obtain ⟨A, c, rfl, hS⟩ := Sl.of_own hrow
    have hc := hv.cell
    have hf := hv.frozen
    gi_wp2
    have hK' := (KeepsOthers.setCell W ⟨w.heap.size + 1, 0, none⟩ (.slice A (nl f 1024).length c)).same D _ hK rfl
    have hv5 := (hv.set (.slice A (nl f 1024).length c)).kept (grownBy_putObj' _ D (.deferred none)) (fun e => by cases e; rw [show W.heap[w.heap.size + 1]? = _ from hv] at hK; cases hK)
    have hr5 := ownsRow_putObj (hrow.kept (grownBy_setCell' W (w.heap.size + 1) (.slice A (nl f 1024).length c)) (.inr (hv.not_row (by decide) hrow).symm)) (.deferred none) hK' rfl
    obtain ⟨A2, c2, e2, hS2⟩ := Sl.of_own hr5
    injection e2 with eA eL eC
    subst eA eC
    have hc5 := hv5.cell
    refine ⟨by simp, .inl ⟨_, _, rfl, run_takeDeferred hK', ?_⟩⟩
    refine ⟨.slice A (nl f 1024).length c, ?_, A, c, rfl, hS2, ?_⟩
    · simp [results, Try.f26, go_sem, hc5]
    · exact (hB.setCell (p := ⟨w.heap.size + 1, 0, none⟩) (by simp) _).trans (belowK_b (w := w) (Nat.le_refl _) _ D _ _ (by omega) hK' rfl rfl)
  case stop =>
    rintro D c pre W _ _ h _
    exact h.elim

theorem list_any (f : Nat → Bool) (w : World) :
    Calls Try.prog 26 #[.agg (bcells f)] w (RowPost (nl f 1024) w) := callsIn_wide.1 (list_in 3 (by omega) f w)
end Go.Proofs.Ytnmlfdmlcpgaaaa
