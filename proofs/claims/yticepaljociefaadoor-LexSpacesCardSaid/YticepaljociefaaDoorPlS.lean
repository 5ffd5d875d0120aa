/- Plain: what lies between tokens is passed. -/
import Derived.Test.YticepaljociefaaDoorFew
namespace Go.Proofs.YticepaljociefaaDoor
open Go
set_option linter.unusedVariables false
set_option linter.unusedSimpArgs false

/-- What is passed wherever it stands. -/
def Pa (Z : List UInt8) : Prop := ∀ (s R : List UInt8) (i : Nat), s.drop i = Z ++ R → lxr s i = lxr s (i + Z.length)
theorem pa_lt {s : List UInt8} {i : Nat} {b : UInt8} {R : List UInt8} (h : s.drop i = b :: R) : i < s.length := by
  have := congrArg List.length h
  rw [List.length_drop, List.length_cons] at this
  omega
theorem Pa.app {a b : List UInt8} (ha : Pa a) (hb : Pa b) : Pa (a ++ b) := fun s R i h => by
  rw [List.append_assoc] at h
  rw [ha s (b ++ R) i h, List.length_append, ← Nat.add_assoc]
  refine hb s R _ ?_
  rw [← List.drop_drop, h, List.drop_left]
theorem Pa.blank {b : UInt8} (h : isSp b = true) : Pa [b] := fun s R i h0 => by
  have hi : i < s.length := pa_lt h0
  have hs : st (s.drop i) = .skip 1 := by
    rw [h0]
    show stc (cl b) _ = _
    rw [show cl b = 1 from by unfold cl; rw [if_pos h]]
    rfl
  exact (lxr_skip hi hs).2.2
theorem Pa.note {W : List UInt8} (h : W.all noLf = true) : Pa (47 :: 47 :: W ++ [10]) := by
  have h1 : ∀ (s R : List UInt8) (i : Nat), s.drop i = (47 :: 47 :: W) ++ 10 :: R → lxr s i = lxr s (i + (47 :: 47 :: W).length) := fun s R i h0 => by
    have hi : i < s.length := pa_lt h0
    have hall : (47 :: 47 :: W).all noLf = true := by rw [List.all_cons, List.all_cons, h]; rfl
    have ht : ((47 :: 47 :: W) ++ 10 :: R).takeWhile noLf = 47 :: 47 :: W := by
      rw [tw_stop noLf 10 rfl]
      have := tw_all noLf (47 :: 47 :: W)
      rw [hall] at this
      simpa using this
    have hs : st (s.drop i) = .skip (47 :: 47 :: W).length := by
      rw [h0]
      show stc (cl 47) _ = _
      rw [show cl 47 = 6 from by decide +kernel]
      unfold stc
      rw [ht]
      rfl
    exact (lxr_skip hi hs).2.2
  intro s R i h0
  have h0' : s.drop i = (47 :: 47 :: W) ++ 10 :: R := by rw [h0]; simp
  rw [h1 s R i h0', List.length_append, ← Nat.add_assoc]
  refine Pa.blank (b := 10) (by decide) s R _ ?_
  rw [← List.drop_drop, h0', List.drop_left]
  rfl
/-- The eight gaps. -/
def gs (W : List UInt8) : List (List UInt8) := [[32], [9], [10], [13, 10], [32, 32], 47 :: 47 :: W ++ [10], [32, 47, 47, 32, 10], [10, 47, 47, 10]]
theorem gs_pa {W : List UInt8} (h : W.all noLf = true) : ∀ Z ∈ gs W, Pa Z := by
  have n0 : Pa (47 :: 47 :: [] ++ [10]) := Pa.note rfl
  have n1 : Pa (47 :: 47 :: [32] ++ [10]) := Pa.note rfl
  intro Z hZ
  unfold gs at hZ
  simp only [List.mem_cons, List.not_mem_nil, or_false] at hZ
  rcases hZ with rfl | rfl | rfl | rfl | rfl | rfl | rfl | rfl
  · exact Pa.blank (by decide)
  · exact Pa.blank (by decide)
  · exact Pa.blank (by decide)
  · exact Pa.app (a := [13]) (b := [10]) (Pa.blank (by decide)) (Pa.blank (by decide))
  · exact Pa.app (a := [32]) (b := [32]) (Pa.blank (by decide)) (Pa.blank (by decide))
  · exact Pa.note h
  · exact Pa.app (a := [32]) (b := 47 :: 47 :: [32] ++ [10]) (Pa.blank (by decide)) n1
  · exact Pa.app (a := [10]) (b := 47 :: 47 :: [] ++ [10]) (Pa.blank (by decide)) n0
theorem gs_len {W : List UInt8} (h : W.length ≤ 100) : ∀ Z ∈ gs W, Z.length ≤ 103 := by
  intro Z hZ
  unfold gs at hZ
  simp only [List.mem_cons, List.not_mem_nil, or_false] at hZ
  rcases hZ with rfl | rfl | rfl | rfl | rfl | rfl | rfl | rfl <;> simp <;> omega

/-- The text with gaps. -/
def sp (g : Nat → List UInt8) : List Tk → Nat → List UInt8
  | [], _ => []
  | t :: r, j => txk t ++ (32 :: (g j ++ sp g r (j + 1)))
theorem sp_app (g : Nat → List UInt8) (t : Tk) : ∀ (l : List Tk) (j : Nat), sp g (l ++ [t]) j = sp g l j ++ (txk t ++ (32 :: g (j + l.length)))
  | [], j => by show txk t ++ (32 :: (g j ++ [])) = [] ++ _; rw [List.append_nil]; rfl
  | u :: r, j => by
    show txk u ++ (32 :: (g j ++ sp g (r ++ [t]) (j + 1))) = (txk u ++ (32 :: (g j ++ sp g r (j + 1)))) ++ _
    rw [sp_app g t r (j + 1), List.length_cons, show j + 1 + r.length = j + (r.length + 1) by omega]
    simp
theorem sp_len {g : Nat → List UInt8} (hg : ∀ k, (g k).length ≤ 103) : ∀ (l : List Tk) (j : Nat), l.all vtk = true → (sp g l j).length ≤ 136 * l.length
  | [], j, _ => Nat.zero_le _
  | t :: r, j, hv => by
    rw [List.all_cons, Bool.and_eq_true] at hv
    have h1 := vtk_len hv.1
    have h2 := hg j
    have h3 := sp_len hg r (j + 1) hv.2
    show (txk t ++ (32 :: (g j ++ sp g r (j + 1)))).length ≤ _
    rw [List.length_append, List.length_cons, List.length_append, List.length_cons]
    omega
theorem sp_ok {g : Nat → List UInt8} (hg : ∀ k, Pa (g k)) : ∀ (l : List Tk) (s : List UInt8) (i j : Nat), l.all vtk = true → s.drop i = sp g l j → ∃ m, lxr s i = .ok m ∧ smt l m = true
  | [], s, i, j, _, h => by
    refine ⟨[], lxr_end s i ?_, rfl⟩
    have h : s.drop i = [] := h
    have := congrArg List.length h
    rw [List.length_drop, List.length_nil] at this
    omega
  | t :: r, s, i, j, hv, h => by
    rw [List.all_cons, Bool.and_eq_true] at hv
    have h : s.drop i = txk t ++ (32 :: (g j ++ sp g r (j + 1))) := h
    have hs := st_txk hv.1 (X := 32 :: (g j ++ sp g r (j + 1))) (.inr ⟨_, rfl⟩)
    have hi : i < s.length := by
      have := congrArg List.length h
      rw [List.length_drop, List.length_append] at this
      have := hs.2
      omega
    have h1 := lxr_tok hi (by rw [h]; exact hs.1)
    have h2 : s.drop (i + (txk t).length) = ([32] ++ g j) ++ sp g r (j + 1) := by
      rw [← List.drop_drop, h, List.drop_left]
      rfl
    have h3 := (Pa.app (Pa.blank (b := 32) (by decide)) (hg j)) s _ _ h2
    obtain ⟨m, hm, hsm⟩ := sp_ok hg r s (i + (txk t).length + ([32] ++ g j).length) (j + 1) hv.2 (by rw [← List.drop_drop, h2, List.drop_left])
    rw [h1.2.2, h3, hm]
    refine ⟨⟨t.k, t.t, t.n, (i : Int)⟩ :: m, rfl, ?_⟩
    have hq : tkq t ⟨t.k, t.t, t.n, (i : Int)⟩ = true := by simp [tkq]
    unfold smt
    rw [hq, hsm]
    rfl
/-- What LexSpaces asks. -/
theorem sp_lex {g : Nat → List UInt8} (hg : ∀ k, Pa (g k)) {l : List Tk} (hv : l.all vtk = true) (hl : (sp g l 0).length ≤ 65535) : ∃ m, lxo (10 :: sp g l 0) = (m, 0, 0) ∧ smt l m = true := by
  obtain ⟨m, hm, hs⟩ := sp_ok hg l (10 :: sp g l 0) 1 0 hv rfl
  refine ⟨m, ?_, hs⟩
  rw [lxo_of (by rw [List.length_cons]; omega), ← lxr_zero, (Pa.blank (b := 10) (by decide)) (10 :: sp g l 0) (sp g l 0) 0 rfl]
  have h2 : lxr (10 :: sp g l 0) (0 + [(10 : UInt8)].length) = .ok m := hm
  rw [h2]
end Go.Proofs.YticepaljociefaaDoor
