/- Closure and Orbits of valid generators. -/
import Derived.Test.YtobchecnfkocdaaSe
import Derived.Test.YtobchecnfkocdaaCs
namespace Go.Proofs.Ytobchecnfkocdaa
open Go.RowKit
set_option linter.unusedVariables false
set_option linter.unusedSimpArgs false

theorem maps_inj' : ∀ {a b : List (List Nat)}, a.map ints = b.map ints → b = a
  | [], [], _ => rfl
  | [], _ :: _, h => by cases h
  | _ :: _, [], h => by cases h
  | x :: a, y :: b, h => by
    have h := List.cons.inj h
    rw [ints_inj h.1, maps_inj' h.2]
theorem cge_pm {N : Nat} {gs : List (List Nat)} (hN : N ≤ 256) (hl : gs.length ≤ 1024) (hg : ∀ g ∈ gs, Pm N g) : cge (N : Int) (gs.map ints) = 0 := by
  unfold cge
  rw [if_neg (by omega), if_neg (by rw [List.length_map]; omega), if_pos]
  rw [List.all_eq_true]
  intro p hp
  obtain ⟨q, hq, rfl⟩ := List.mem_map.1 hp
  exact isp_pm (hg q hq) hN
theorem closure_pm {N : Nat} {gs : List (List Nat)} (hN : N ≤ 256) (hl : gs.length ≤ 1024) (hg : ∀ g ∈ gs, Pm N g) {A : Option Addr} {c : Nat} {w : World} (hA : RI w A (gs.map ints) c) :
    Calls Try.prog 19 #[.int .i64 (N : Int), .slice A gs.length c] w (ClQ N gs w) := by
  have h := closure_any sortE (N : Int) A c (gs.map ints) w hA
  rw [List.length_map] at h
  refine h.mono ?_
  intro e w' hc
  rcases hc with ⟨h1, _⟩ | ⟨_, M, gs', h1, _, h2, _, h3⟩
  · exact absurd (cge_pm hN hl hg) h1
  · have e1 : M = N := by omega
    have e2 : gs' = gs := maps_inj' h2
    subst e1 e2
    exact h3
theorem orbits_pm {N : Nat} {gs : List (List Nat)} (hN : N ≤ 256) (hl : gs.length ≤ 1024) (hg : ∀ g ∈ gs, Pm N g) {A : Option Addr} {c : Nat} {w : World} (hA : RI w A (gs.map ints) c) :
    Calls Try.prog 21 #[.int .i64 (N : Int), .slice A gs.length c] w (fun e w' => ∃ A m c, e = .returned (.tuple #[.slice A m c, .int .i64 0]) ∧ OL w.heap.size w' A m c ((orbs N gs N).map ints) ∧ Below w.heap.size w w') := by
  have h := Orbits_any (N : Int) A c (gs.map ints) w hA
  rw [List.length_map] at h
  refine h.mono ?_
  intro e w' hc
  rcases hc with ⟨h1, _⟩ | ⟨_, M, gs', h1, _, h2, _, A', m, c', h3⟩
  · exact absurd (cge_pm hN hl hg) h1
  · have e1 : M = N := by omega
    have e2 : gs' = gs := maps_inj' h2
    subst e1 e2
    exact ⟨A', m, c', h3⟩
end Go.Proofs.Ytobchecnfkocdaa
