/- sane: the calls. -/
import Derived.Test.YtjkojjimlebmjaaDoorRefresh
import Derived.Test.YtjkojjimlebmjaaDoorExplain
namespace Go.Proofs.YtjkojjimlebmjaaDoor
open Go.RowKit
set_option linter.unusedVariables false

instance : DecidableEq Shr := fun a b => decidable_of_iff (a.ep = b.ep ∧ a.ix = b.ix ∧ a.th = b.th ∧ a.mn = b.mn ∧ a.data = b.data) ⟨fun h => by cases a; cases b; simp_all, fun h => by subst h; exact ⟨rfl, rfl, rfl, rfl, rfl⟩⟩
def LA : List Shr := [⟨4, 1, 1, 2, [7]⟩, ⟨4, 2, 1, 2, [7]⟩]
def LM : List Shr := [⟨0, 1, 2, 3, [6]⟩, ⟨0, 2, 2, 3, [3]⟩, ⟨0, 3, 2, 3, [0]⟩]
def LX : List Shr := [⟨1, 1, 2, 3, [6]⟩, ⟨1, 2, 2, 3, [3]⟩, ⟨1, 3, 2, 3, [0]⟩]
theorem SS.drop {w : World} {b off c : Nat} {l : List Shr} (h : SS w (some ⟨b, off, none⟩) l c) (k : Nat) (hk : k ≤ l.length) : SS w (some ⟨b, off + k * 5, none⟩) (l.drop k) (c - k) := by
  have h1 := h.2.1
  have h2 := h.2.2.1
  refine ⟨fun hp => ?_, by simp; omega, by omega, fun hA => by cases hA⟩
  rw [List.length_drop] at hp
  obtain ⟨b', off', e, hb, hs⟩ := h.1 (by omega)
  cases e
  refine ⟨b, off + k * 5, rfl, hb, fun i s hi => ?_⟩
  rw [List.getElem?_drop] at hi
  have := hs _ s hi
  rwa [show off + k * 5 + i * 5 = off + (k + i) * 5 by omega]

theorem c_join0 (W : World) (hK : KT W) : Calls Tryd.prog 11 #[.slice none 0 0] W fun e w' => ∃ A c, e = .returned (.tuple #[.slice A 0 c, .int .i64 60]) ∧ Below W.heap.size W w' := by
  refine (join_any none 0 [] W hK (SS.nil W) (by simp)).mono ?_
  rintro e w' ⟨A, c, he, _, hb⟩
  rw [show jn [] = [] by decide +kernel, show jne [] = 60 by decide +kernel] at he
  exact ⟨A, c, he, hb⟩
theorem c_splitA (W : World) (A1 A2 : Option Addr) (c1 c2 : Nat) (hK : KT W) (h1 : Sl W A1 [1, 2] c1) (h2 : Sl W A2 [1] c2) : Calls Tryd.prog 12 #[.slice A1 2 c1, .int .i64 0, .int .i64 2, .int .i64 3, .slice A2 1 c2] W fun e w' => ∃ A c, e = .returned (.tuple #[.slice A 0 c, .int .i64 1]) ∧ Below W.heap.size W w' := by
  refine (split_any A1 A2 c1 c2 [1, 2] [1] 0 2 3 W hK h1 h2 (by simp) (by simp)).mono ?_
  rintro e w' ⟨A, c, he, _, hb⟩
  rw [show spl [1, 2] 0 2 3 [1] = [] by decide +kernel, show spe [1, 2] 0 2 3 [1] = 1 by decide +kernel] at he
  exact ⟨A, c, he, hb⟩
theorem c_splitB (W : World) (A1 : Option Addr) (c1 : Nat) (hK : KT W) (h1 : Sl W A1 [7] c1) : Calls Tryd.prog 12 #[.slice A1 1 c1, .int .i64 4, .int .i64 1, .int .i64 2, .slice none 0 0] W fun e w' => ∃ b off c, e = .returned (.tuple #[.slice (some ⟨b, off, none⟩) 2 c, .int .i64 0]) ∧ SS w' (some ⟨b, off, none⟩) LA c ∧ Below W.heap.size W w' := by
  refine (split_any A1 none c1 0 [7] [] 4 1 2 W hK h1 (sl_none W) (by simp) (by simp)).mono ?_
  rintro e w' ⟨A, c, he, hs, hb⟩
  rw [show spl [7] 4 1 2 [] = LA by decide +kernel] at he hs
  rw [show spe [7] 4 1 2 [] = 0 by decide +kernel] at he
  obtain ⟨b, off, rfl, _, _⟩ := hs.1 (by decide)
  exact ⟨b, off, c, he, hs, hb⟩
theorem c_splitC (W : World) (A1 A2 : Option Addr) (c1 c2 : Nat) (hK : KT W) (h1 : Sl W A1 [5] c1) (h2 : Sl W A2 [3] c2) : Calls Tryd.prog 12 #[.slice A1 1 c1, .int .i64 0, .int .i64 2, .int .i64 3, .slice A2 1 c2] W fun e w' => ∃ b off c, e = .returned (.tuple #[.slice (some ⟨b, off, none⟩) 3 c, .int .i64 0]) ∧ SS w' (some ⟨b, off, none⟩) LM c ∧ Below W.heap.size W w' := by
  refine (split_any A1 A2 c1 c2 [5] [3] 0 2 3 W hK h1 h2 (by simp) (by simp)).mono ?_
  rintro e w' ⟨A, c, he, hs, hb⟩
  rw [show spl [5] 0 2 3 [3] = LM by decide +kernel] at he hs
  rw [show spe [5] 0 2 3 [3] = 0 by decide +kernel] at he
  obtain ⟨b, off, rfl, _, _⟩ := hs.1 (by decide)
  exact ⟨b, off, c, he, hs, hb⟩
theorem c_joinB (W : World) (A : Option Addr) (c : Nat) (hK : KT W) (h1 : SS W A (LM.drop 1) c) : Calls Tryd.prog 11 #[.slice A 2 c] W fun e w' => ∃ A c, e = .returned (.tuple #[.slice A 1 c, .int .i64 0]) ∧ Sl w' A [5] c ∧ Below W.heap.size W w' := by
  refine (join_any A c (LM.drop 1) W hK h1 (by decide)).mono ?_
  rintro e w' ⟨A, c, he, hs, hb⟩
  rw [show jn (LM.drop 1) = [5] by decide +kernel] at he hs
  rw [show jne (LM.drop 1) = 0 by decide +kernel] at he
  exact ⟨A, c, he, hs, hb⟩
theorem c_explA (W : World) (A A1 : Option Addr) (c c1 : Nat) (hK : KT W) (h1 : SS W A LM c) (h2 : Sl W A1 [1] c1) : Calls Tryd.prog 6 #[.slice A 3 c, .slice A1 1 c1] W fun e w' => ∃ A c, e = .returned (.tuple #[.slice A 0 c, .int .i64 60]) ∧ Below W.heap.size W w' := by
  refine (explain_any A A1 c c1 LM [1] W hK h1 h2 (by decide) (by simp)).mono ?_
  rintro e w' ⟨A, c, he, _, hb⟩
  rw [show ex LM [1] = [] by decide +kernel, show exe LM [1] = 60 by decide +kernel] at he
  exact ⟨A, c, he, hb⟩
theorem c_explB (W : World) (A A1 : Option Addr) (c c1 : Nat) (hK : KT W) (h1 : SS W A (LM.take 1) c) (h2 : Sl W A1 [9] c1) : Calls Tryd.prog 6 #[.slice A 1 c, .slice A1 1 c1] W fun e w' => ∃ A c, e = .returned (.tuple #[.slice A 1 c, .int .i64 0]) ∧ Sl w' A [15] c ∧ Below W.heap.size W w' := by
  refine (explain_any A A1 c c1 (LM.take 1) [9] W hK h1 h2 (by decide) (by simp)).mono ?_
  rintro e w' ⟨A, c, he, hs, hb⟩
  rw [show ex (LM.take 1) [9] = [15] by decide +kernel] at he hs
  rw [show exe (LM.take 1) [9] = 0 by decide +kernel] at he
  exact ⟨A, c, he, hs, hb⟩
theorem c_refr (W : World) (A A1 : Option Addr) (c c1 : Nat) (hK : KT W) (h1 : SS W A LM c) (h2 : Sl W A1 [0] c1) : Calls Tryd.prog 8 #[.slice A 3 c, .slice A1 1 c1] W fun e w' => ∃ b off c, e = .returned (.tuple #[.slice (some ⟨b, off, none⟩) 3 c, .int .i64 0]) ∧ SS w' (some ⟨b, off, none⟩) LX c ∧ Below W.heap.size W w' := by
  refine (refresh_any A A1 c c1 LM [0] W hK h1 h2 (by decide) (by simp)).mono ?_
  rintro e w' ⟨A, c, he, hs, hb⟩
  rw [show rfl' LM [0] = LX by decide +kernel] at he hs
  rw [show rfe LM [0] = 0 by decide +kernel] at he
  obtain ⟨b, off, rfl, _, _⟩ := hs.1 (by decide)
  exact ⟨b, off, c, he, hs, hb⟩
theorem c_joinC (W : World) (A : Option Addr) (c : Nat) (hK : KT W) (h1 : SS W A [⟨0, 1, 2, 3, [6]⟩, ⟨1, 2, 2, 3, [3]⟩] c) : Calls Tryd.prog 11 #[.slice A 2 c] W fun e w' => ∃ A c, e = .returned (.tuple #[.slice A 0 c, .int .i64 61]) ∧ Below W.heap.size W w' := by
  refine (join_any A c [⟨0, 1, 2, 3, [6]⟩, ⟨1, 2, 2, 3, [3]⟩] W hK h1 (by decide)).mono ?_
  rintro e w' ⟨A, c, he, _, hb⟩
  rw [show jn [⟨0, 1, 2, 3, [6]⟩, ⟨1, 2, 2, 3, [3]⟩] = [] by decide +kernel, show jne [⟨0, 1, 2, 3, [6]⟩, ⟨1, 2, 2, 3, [3]⟩] = 61 by decide +kernel] at he
  exact ⟨A, c, he, hb⟩
end Go.Proofs.YtjkojjimlebmjaaDoor
