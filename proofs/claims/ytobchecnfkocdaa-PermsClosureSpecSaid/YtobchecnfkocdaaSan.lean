/- The examples of the chapter (sane). -/
import Derived.Test.YtobchecnfkocdaaSe
import Derived.Test.YtobchecnfkocdaaCs
import Derived.Test.YtobchecnfkocdaaLawSpec
import Derived.Test.YtobchecnfkocdaaSa
namespace Go.Proofs.Ytobchecnfkocdaa
open Go.RowKit
set_option linter.unusedVariables false
set_option linter.unusedSimpArgs false

theorem si_box {V : World} {b : Nat} {l : List Int} {cs : Array Value} {t : TypeId} (h : Box V b cs t) (hcs : (l.map iv).toArray = cs) (hl : l.length ≤ 1000000) : Si V (some ⟨b, 0, none⟩) l l.length := by
  subst hcs
  refine ⟨fun _ => ⟨b, 0, rfl, h.lt, fun j u hu => ?_⟩, by rw [List.length_map]; exact Nat.le_refl _, le_maxLen (by omega), fun e => by cases e⟩
  rw [Nat.zero_add, h.cell j, List.getElem?_toArray]
  exact hu
theorem ri_box {V : World} {b : Nat} {ls : List (List Int)} {cs : Array Value} {t : TypeId} (h : Box V b cs t) (hcs : ∀ (i : Nat) (l : List Int), ls[i]? = some l → ∃ A' c', cs[i]? = some (.slice A' l.length c') ∧ Si V A' l c') (hl : ls.length ≤ 1000000) : RI V (some ⟨b, 0, none⟩) ls ls.length := by
  refine ⟨fun _ => ⟨b, 0, rfl, h.lt, fun i l hi => ?_⟩, Nat.le_refl _, le_maxLen (by omega), fun e => by cases e⟩
  obtain ⟨A', c', h1, h2⟩ := hcs i l hi
  exact ⟨A', c', by rw [Nat.zero_add, h.cell i]; exact h1, h2⟩
theorem list1 {α : Type} {a : α} {P : Nat → α → Prop} (h0 : P 0 a) : ∀ i x, [a][i]? = some x → P i x
  | 0, x, h => by cases h; exact h0
  | i + 1, x, h => by cases h
theorem list2 {α : Type} {a b : α} {P : Nat → α → Prop} (h0 : P 0 a) (h1 : P 1 b) : ∀ i x, [a, b][i]? = some x → P i x
  | 0, x, h => by cases h; exact h0
  | 1, x, h => by cases h; exact h1
  | i + 2, x, h => by cases h
theorem list3 {α : Type} {a b c : α} {P : Nat → α → Prop} (h0 : P 0 a) (h1 : P 1 b) (h2 : P 2 c) : ∀ i x, [a, b, c][i]? = some x → P i x
  | 0, x, h => by cases h; exact h0
  | 1, x, h => by cases h; exact h1
  | 2, x, h => by cases h; exact h2
  | i + 3, x, h => by cases h
theorem al1 (W : World) (o : Obj) : Below W.heap.size W (W.alloc o) := (Below.refl _ W).alloc (Nat.le_refl _) o
theorem al2 (W : World) (o p : Obj) : Below W.heap.size W ((W.alloc o).alloc p) := (al1 W o).alloc (al1 W o).size p
theorem al3 (W : World) (o p q : Obj) : Below W.heap.size W (((W.alloc o).alloc p).alloc q) := (al2 W o p).alloc (al2 W o p).size q
theorem al4 (W : World) (o p q r : Obj) : Below W.heap.size W ((((W.alloc o).alloc p).alloc q).alloc r) := (al3 W o p q).alloc (al3 W o p q).size r
theorem nb1 (W : World) (cs : Array Value) (t : TypeId) (o : Obj) : Box ((W.alloc o).alloc (.cells cs t)) (W.heap.size + 1) cs t := by
  have := Box.new (W.alloc o) cs t
  rwa [World.size_alloc] at this
theorem nb2 (W : World) (cs : Array Value) (t : TypeId) (o p : Obj) : Box (((W.alloc o).alloc p).alloc (.cells cs t)) (W.heap.size + 1 + 1) cs t := by
  have := Box.new ((W.alloc o).alloc p) cs t
  rwa [World.size_alloc, World.size_alloc] at this
theorem nb3 (W : World) (cs : Array Value) (t : TypeId) (o p q : Obj) : Box ((((W.alloc o).alloc p).alloc q).alloc (.cells cs t)) (W.heap.size + 1 + 1 + 1) cs t := by
  have := Box.new (((W.alloc o).alloc p).alloc q) cs t
  rwa [World.size_alloc, World.size_alloc, World.size_alloc] at this
theorem pm3 : Pm 3 [1, 2, 0] := pm_dec (by decide)
theorem pm3' : Pm 3 [1, 0, 2] := pm_dec (by decide)
theorem pm3s : Pm 3 [2, 1, 0] := pm_dec (by decide)
theorem pm8s : Pm 8 [1, 0, 2, 3, 4, 5, 6, 7] := pm_dec (by decide)
theorem pm8r : Pm 8 [1, 2, 3, 4, 5, 6, 7, 0] := pm_dec (by decide)

theorem san1 (W : World) : Calls Try.prog 11 #[.slice (some ⟨W.heap.size, 0, none⟩) 3 3, .slice (some ⟨W.heap.size + 1, 0, none⟩) 3 3] ((W.alloc (.cells #[.int .i64 1, .int .i64 2, .int .i64 0] 3)).alloc (.cells #[.int .i64 1, .int .i64 0, .int .i64 2] 3)) (fun e w' => ∃ A c, e = .returned (.tuple #[.slice A 3 c, .int .i64 0]) ∧ Si w' A (ints [2, 1, 0]) c ∧ Below W.heap.size W w') := by
  have h := compose_pm (n := 3) (a := [1, 2, 0]) (b := [1, 0, 2]) pm3 pm3' (by omega) (A := some ⟨W.heap.size, 0, none⟩) (B := some ⟨W.heap.size + 1, 0, none⟩) (c := 3) (d := 3) (w := (W.alloc (.cells #[.int .i64 1, .int .i64 2, .int .i64 0] 3)).alloc (.cells #[.int .i64 1, .int .i64 0, .int .i64 2] 3)) (si_box ((Box.new W _ _).alloc _) rfl (by decide)) (si_box (nb1 W _ _ _) rfl (by decide))
  refine h.mono ?_
  rintro e w' ⟨A, c, rfl, h1, h2⟩
  exact ⟨A, c, rfl, h1, (al2 W _ _).trans (h2.mono (al2 W _ _).size)⟩
theorem cme2 : cme (ints [0, 1]) (ints [0, 1, 2]) = 110 := by decide
theorem san2 (W : World) : Calls Try.prog 11 #[.slice (some ⟨W.heap.size, 0, none⟩) 2 2, .slice (some ⟨W.heap.size + 1, 0, none⟩) 3 3] ((W.alloc (.cells #[.int .i64 0, .int .i64 1] 3)).alloc (.cells #[.int .i64 0, .int .i64 1, .int .i64 2] 3)) (fun e w' => ∃ A n c, e = .returned (.tuple #[.slice A n c, .int .i64 110]) ∧ Below W.heap.size W w') := by
  have h := compose_any (some ⟨W.heap.size, 0, none⟩) 2 (ints [0, 1]) (some ⟨W.heap.size + 1, 0, none⟩) 3 (ints [0, 1, 2]) ((W.alloc (.cells #[.int .i64 0, .int .i64 1] 3)).alloc (.cells #[.int .i64 0, .int .i64 1, .int .i64 2] 3)) (si_box ((Box.new W _ _).alloc _) rfl (by decide)) (si_box (nb1 W _ _ _) rfl (by decide))
  rw [cme2] at h
  refine h.mono ?_
  rintro e w' ⟨A, c, rfl, h1, h2⟩
  exact ⟨A, _, c, rfl, (al2 W _ _).trans (h2.mono (al2 W _ _).size)⟩
theorem san3 (W : World) : Calls Try.prog 13 #[.slice (some ⟨W.heap.size, 0, none⟩) 3 3] (W.alloc (.cells #[.int .i64 1, .int .i64 2, .int .i64 0] 3)) (fun e w' => ∃ A c, e = .returned (.tuple #[.slice A 3 c, .int .i64 0]) ∧ Si w' A (ints [2, 0, 1]) c ∧ Below W.heap.size W w') := by
  have h := inverse_pm (n := 3) (a := [1, 2, 0]) pm3 (by omega) (A := some ⟨W.heap.size, 0, none⟩) (c := 3) (w := W.alloc (.cells #[.int .i64 1, .int .i64 2, .int .i64 0] 3)) (si_box (Box.new W _ _) rfl (by decide))
  refine h.mono ?_
  rintro e w' ⟨A, c, rfl, h1, h2⟩
  exact ⟨A, c, rfl, h1, (al1 W _).trans (h2.mono (al1 W _).size)⟩

/-! ### Closure -/
theorem maps_inj : ∀ {a b : List (List Nat)}, a.map ints = b.map ints → b = a
  | [], [], _ => rfl
  | [], _ :: _, h => by cases h
  | _ :: _, [], h => by cases h
  | x :: a, y :: b, h => by
    have h := List.cons.inj h
    rw [ints_inj h.1, maps_inj h.2]
theorem cl_ok {n : Nat} {gs : List (List Nat)} (h : cge (n : Int) (gs.map ints) = 0) {w w' : World} {e : Ending} (hc : ClP (n : Int) (gs.map ints) w e w') : ClQ n gs w e w' := by
  rcases hc with ⟨h1, _⟩ | ⟨_, N, gs', h1, _, h2, _, h3⟩
  · exact absurd h h1
  · have e1 : N = n := by omega
    have e2 : gs' = gs := maps_inj h2
    subst e1 e2
    exact h3
theorem gen3 (q : List Nat) : Gen 3 [[1, 2, 0]] q ↔ q ∈ [[0, 1, 2], [1, 2, 0], [2, 0, 1]] := by
  constructor
  · intro h
    induction h with
    | id => decide
    | mul _ hm ih =>
      rw [List.mem_singleton.1 hm]
      revert ih
      simp only [List.mem_cons, List.not_mem_nil, or_false]
      rintro (rfl | rfl | rfl) <;> decide
  · intro h
    have h0 : Gen 3 [[1, 2, 0]] (List.range 3) := Gen.id
    have h1 := Gen.mul h0 (List.mem_singleton.2 rfl)
    have h2 := Gen.mul h1 (List.mem_singleton.2 rfl)
    simp only [List.mem_cons, List.not_mem_nil, or_false] at h
    rcases h with rfl | rfl | rfl
    · exact h0
    · exact h1
    · exact h2
theorem srt3 : Srt ([[0, 1, 2], [1, 2, 0], [2, 0, 1]].map ints) := by unfold Srt; decide
theorem cls_uniq {n : Nat} {gs ls ms : List (List Nat)} (h1 : Srt (ls.map ints)) (h2 : Srt (ms.map ints)) (h3 : ∀ p, p ∈ ls ↔ Gen n gs p) (h4 : ∀ p, Gen n gs p ↔ p ∈ ms) : ls.map ints = ms.map ints := by
  refine srt_uniq h1 h2 fun x => ?_
  constructor
  · intro hx
    obtain ⟨y, hy, rfl⟩ := List.mem_map.1 hx
    exact List.mem_map.2 ⟨y, (h4 y).1 ((h3 y).1 hy), rfl⟩
  · intro hx
    obtain ⟨y, hy, rfl⟩ := List.mem_map.1 hx
    exact List.mem_map.2 ⟨y, (h3 y).2 ((h4 y).2 hy), rfl⟩
theorem not_big {n : Nat} {gs ms : List (List Nat)} (h4 : ∀ p, Gen n gs p ↔ p ∈ ms) (hl : ms.length ≤ 4096) : ¬ Big n gs := by
  rintro ⟨M, h1, h2, h3⟩
  have := nd_sub M ms h1 (fun q hq => (h4 q).1 (h3 q hq))
  omega
theorem cg3 : cge ((3 : Nat) : Int) ([[1, 2, 0]].map ints) = 0 := by decide
theorem cg8 : cge ((8 : Nat) : Int) ([[1, 0, 2, 3, 4, 5, 6, 7], [1, 2, 3, 4, 5, 6, 7, 0]].map ints) = 0 := by decide +kernel
theorem cg0 : cge ((0 : Nat) : Int) (([] : List (List Nat)).map ints) = 0 := by decide

theorem san4 (W : World) : Calls Try.prog 19 #[.int .i64 3, .slice (some ⟨W.heap.size + 1, 0, none⟩) 1 1] ((W.alloc (.cells #[.int .i64 1, .int .i64 2, .int .i64 0] 3)).alloc (.cells #[.slice (some ⟨W.heap.size, 0, none⟩) 3 3] 22)) (fun e w' => ∃ A c, e = .returned (.tuple #[.slice A 3 c, .int .i64 0]) ∧ RI w' A ([[0, 1, 2], [1, 2, 0], [2, 0, 1]].map ints) c ∧ Below W.heap.size W w') := by
  have h := closure_any sortE 3 (some ⟨W.heap.size + 1, 0, none⟩) 1 ([[1, 2, 0]].map ints) ((W.alloc (.cells #[.int .i64 1, .int .i64 2, .int .i64 0] 3)).alloc (.cells #[.slice (some ⟨W.heap.size, 0, none⟩) 3 3] 22)) (ri_box (nb1 W _ _ _) (list1 ⟨some ⟨W.heap.size, 0, none⟩, 3, rfl, si_box ((Box.new W _ _).alloc _) rfl (by decide)⟩) (by decide))
  refine h.mono ?_
  intro e w' hc
  rcases cl_ok cg3 hc with ⟨hbig, _⟩ | ⟨A, m, c, ls, rfl, hol, hs, hm, _, hb⟩
  · exact absurd hbig (not_big gen3 (by decide))
  · have he := cls_uniq hs srt3 hm gen3
    rw [he] at hol
    have hm3 : m = 3 := hol.1.symm
    subst hm3
    exact ⟨A, c, rfl, hol.ri, (al2 W _ _).trans (hb.mono (al2 W _ _).size)⟩
theorem san5 (W : World) : Calls Try.prog 19 #[.int .i64 8, .slice (some ⟨W.heap.size + 1 + 1, 0, none⟩) 2 2] (((W.alloc (.cells #[.int .i64 1, .int .i64 0, .int .i64 2, .int .i64 3, .int .i64 4, .int .i64 5, .int .i64 6, .int .i64 7] 3)).alloc (.cells #[.int .i64 1, .int .i64 2, .int .i64 3, .int .i64 4, .int .i64 5, .int .i64 6, .int .i64 7, .int .i64 0] 3)).alloc (.cells #[.slice (some ⟨W.heap.size, 0, none⟩) 8 8, .slice (some ⟨W.heap.size + 1, 0, none⟩) 8 8] 22)) (fun e w' => e = .returned (.tuple #[.slice none 0 0, .int .i64 2]) ∧ Below W.heap.size W w') := by
  have h := closure_any sortE 8 (some ⟨W.heap.size + 1 + 1, 0, none⟩) 2 ([[1, 0, 2, 3, 4, 5, 6, 7], [1, 2, 3, 4, 5, 6, 7, 0]].map ints) (((W.alloc (.cells #[.int .i64 1, .int .i64 0, .int .i64 2, .int .i64 3, .int .i64 4, .int .i64 5, .int .i64 6, .int .i64 7] 3)).alloc (.cells #[.int .i64 1, .int .i64 2, .int .i64 3, .int .i64 4, .int .i64 5, .int .i64 6, .int .i64 7, .int .i64 0] 3)).alloc (.cells #[.slice (some ⟨W.heap.size, 0, none⟩) 8 8, .slice (some ⟨W.heap.size + 1, 0, none⟩) 8 8] 22)) (ri_box (nb2 W _ _ _ _) (list2 ⟨some ⟨W.heap.size, 0, none⟩, 8, rfl, si_box (((Box.new W _ _).alloc _).alloc _) rfl (by decide)⟩ ⟨some ⟨W.heap.size + 1, 0, none⟩, 8, rfl, si_box ((nb1 W _ _ _).alloc _) rfl (by decide)⟩) (by decide))
  refine h.mono ?_
  intro e w' hc
  rcases cl_ok cg8 hc with ⟨_, rfl, hb⟩ | ⟨A, m, c, ls, rfl, hol, hs, hm, hl, hb⟩
  · exact ⟨rfl, (al3 W _ _ _).trans (hb.mono (al3 W _ _ _).size)⟩
  · have hg : ∀ g ∈ [[1, 0, 2, 3, 4, 5, 6, 7], [1, 2, 3, 4, 5, 6, 7, 0]], Pm 8 g := fun g hg => by
      simp only [List.mem_cons, List.not_mem_nil, or_false] at hg
      rcases hg with rfl | rfl
      · exact pm8s
      · exact pm8r
    have := big8 (L := ls) (fun x hx => ((hm x).1 hx).pm hg) ((hm _).2 Gen.id) (fun x hx => (hm _).2 (Gen.mul ((hm x).1 hx) (by simp))) (fun x hx => (hm _).2 (Gen.mul ((hm x).1 hx) (by simp)))
    omega
theorem gen0 (q : List Nat) : Gen 0 [] q ↔ q ∈ [([] : List Nat)] := by
  constructor
  · intro h
    cases h with
    | id => decide
    | mul _ hm => exact absurd hm (List.not_mem_nil)
  · intro h
    rw [List.mem_singleton.1 h]
    exact Gen.id
theorem srt0 : Srt ([([] : List Nat)].map ints) := by unfold Srt; decide
theorem san6 (W : World) : Calls Try.prog 19 #[.int .i64 0, .slice none 0 0] W (fun e w' => ∃ A c, e = .returned (.tuple #[.slice A 1 c, .int .i64 0]) ∧ RI w' A [[]] c ∧ Below W.heap.size W w') := by
  have h := closure_any sortE 0 none 0 (([] : List (List Nat)).map ints) W (RI.nil W)
  refine h.mono ?_
  intro e w' hc
  rcases cl_ok cg0 hc with ⟨hbig, _⟩ | ⟨A, m, c, ls, rfl, hol, hs, hm, _, hb⟩
  · exact absurd hbig (not_big gen0 (by decide))
  · have he := cls_uniq hs srt0 hm gen0
    rw [he] at hol
    have hm3 : m = 1 := hol.1.symm
    subst hm3
    exact ⟨A, c, rfl, hol.ri, hb⟩
/-! ### Orbits -/
theorem cgo : cge ((3 : Nat) : Int) ([[2, 1, 0]].map ints) = 0 := by decide
theorem orb_list {n : Nat} {gens : List (List Nat)} {x : Nat} {l : List Nat} (hl : l.Pairwise (· < ·)) (h : ∀ y, y ∈ l ↔ y < n ∧ Rch gens x y) : orb n gens x = l := by
  refine List.Perm.eq_of_pairwise (le := fun a b => a < b) (fun a b _ _ h1 h2 => by omega) (orb_inc n gens x) hl ?_
  refine (List.perm_ext_iff_of_nodup ((orb_inc n gens x).imp (fun {a b} h => by omega)) (hl.imp (fun {a b} h => by omega))).2 fun y => ?_
  rw [mem_orb, h]
theorem rch02 {x y : Nat} (h : Rch [[2, 1, 0]] x y) : (x = 0 ∨ x = 2 → y = 0 ∨ y = 2) ∧ (x = 1 → y = 1) := by
  constructor
  · intro hx
    refine h.closed (S := fun y => y = 0 ∨ y = 2) (fun z g hz hg => ?_) hx
    rw [List.mem_singleton.1 hg]
    rcases hz with rfl | rfl
    · exact .inr rfl
    · exact .inl rfl
  · intro hx
    refine h.closed (S := fun y => y = 1) (fun z g hz hg => ?_) hx
    rw [List.mem_singleton.1 hg, hz]
    rfl
theorem orbs3 : orbs 3 [[2, 1, 0]] 3 = [[0, 2], [1]] := by
  have l0 : Lst [[2, 1, 0]] 0 := fun y hy => absurd hy (by omega)
  have l1 : Lst [[2, 1, 0]] 1 := fun y hy hr => by
    obtain rfl : y = 0 := by omega
    have := (rch02 hr).1 (.inl rfl)
    omega
  have l2 : ¬ Lst [[2, 1, 0]] 2 := fun h => h 0 (by omega) (Rch.step (Rch.refl (gens := [[2, 1, 0]]) (x := 0)) (List.mem_singleton.2 rfl))
  have r02 : Rch [[2, 1, 0]] 0 2 := Rch.step (Rch.refl (gens := [[2, 1, 0]]) (x := 0)) (List.mem_singleton.2 rfl)
  have o0 : orb 3 [[2, 1, 0]] 0 = [0, 2] := orb_list (by decide) fun y => by
    simp only [List.mem_cons, List.not_mem_nil, or_false]
    constructor
    · rintro (rfl | rfl)
      · exact ⟨by omega, Rch.refl⟩
      · exact ⟨by omega, r02⟩
    · rintro ⟨_, hr⟩
      exact (rch02 hr).1 (.inl rfl)
  have o1 : orb 3 [[2, 1, 0]] 1 = [1] := orb_list (by decide) fun y => by
    simp only [List.mem_cons, List.not_mem_nil, or_false]
    constructor
    · rintro rfl
      exact ⟨by omega, Rch.refl⟩
    · rintro ⟨_, hr⟩
      exact (rch02 hr).2 rfl
  rw [orbs_no l2, orbs_yes l1, orbs_yes l0, orbs_zero, o0, o1]
  rfl
theorem san7 (W : World) : Calls Try.prog 21 #[.int .i64 3, .slice (some ⟨W.heap.size + 1, 0, none⟩) 1 1] ((W.alloc (.cells #[.int .i64 2, .int .i64 1, .int .i64 0] 3)).alloc (.cells #[.slice (some ⟨W.heap.size, 0, none⟩) 3 3] 22)) (fun e w' => ∃ A c, e = .returned (.tuple #[.slice A 2 c, .int .i64 0]) ∧ RI w' A ([[0, 2], [1]].map ints) c ∧ Below W.heap.size W w') := by
  have h := Orbits_any 3 (some ⟨W.heap.size + 1, 0, none⟩) 1 ([[2, 1, 0]].map ints) ((W.alloc (.cells #[.int .i64 2, .int .i64 1, .int .i64 0] 3)).alloc (.cells #[.slice (some ⟨W.heap.size, 0, none⟩) 3 3] 22)) (ri_box (nb1 W _ _ _) (list1 ⟨some ⟨W.heap.size, 0, none⟩, 3, rfl, si_box ((Box.new W _ _).alloc _) rfl (by decide)⟩) (by decide))
  refine h.mono ?_
  intro e w' hc
  rcases hc with ⟨h1, _⟩ | ⟨_, N, gs, h1, _, h2, _, A, m, c, rfl, hol, hb⟩
  · exact absurd cgo h1
  · have e1 : N = 3 := by omega
    have e2 : gs = [[2, 1, 0]] := maps_inj h2
    subst e1 e2
    rw [orbs3] at hol
    have hm3 : m = 2 := hol.1.symm
    subst hm3
    exact ⟨A, c, rfl, hol.ri, (al2 W _ _).trans (hb.mono (al2 W _ _).size)⟩
theorem san8 (W : World) (A : Option Addr) (c : Nat) (h : Si W A (ints [2, 1, 0]) c) : Calls Try.prog 17 #[.slice A 3 c, .slice (some ⟨W.heap.size, 0, none⟩) 3 3] (W.alloc (.cells #[.int .i64 2, .int .i64 1, .int .i64 0] 3)) (fun e w' => e = .returned (.bool true) ∧ Below W.heap.size W w') := by
  refine (same_pm (n := 3) (a := [2, 1, 0]) rfl (A := A) (B := some ⟨W.heap.size, 0, none⟩) (c := c) (d := 3) (w := W.alloc (.cells #[.int .i64 2, .int .i64 1, .int .i64 0] 3)) (h.up (al1 W _)) (si_box (Box.new W _ _) rfl (by decide))).mono ?_
  rintro e w' ⟨rfl, hb⟩
  exact ⟨rfl, (al1 W _).trans (hb.mono (al1 W _).size)⟩
theorem san9 (W : World) (A : Option Addr) (c : Nat) (h : Si W A (ints [2, 0, 1]) c) : Calls Try.prog 17 #[.slice A 3 c, .slice (some ⟨W.heap.size, 0, none⟩) 3 3] (W.alloc (.cells #[.int .i64 2, .int .i64 0, .int .i64 1] 3)) (fun e w' => e = .returned (.bool true) ∧ Below W.heap.size W w') := by
  refine (same_pm (n := 3) (a := [2, 0, 1]) rfl (A := A) (B := some ⟨W.heap.size, 0, none⟩) (c := c) (d := 3) (w := W.alloc (.cells #[.int .i64 2, .int .i64 0, .int .i64 1] 3)) (h.up (al1 W _)) (si_box (Box.new W _ _) rfl (by decide))).mono ?_
  rintro e w' ⟨rfl, hb⟩
  exact ⟨rfl, (al1 W _).trans (hb.mono (al1 W _).size)⟩
theorem san10 (W : World) (A : Option Addr) (c : Nat) (h : RI W A ([[0, 1, 2], [1, 2, 0], [2, 0, 1]].map ints) c) : Calls Try.prog 23 #[.slice A 3 c, .slice (some ⟨W.heap.size + 1 + 1 + 1, 0, none⟩) 3 3] ((((W.alloc (.cells #[.int .i64 0, .int .i64 1, .int .i64 2] 3)).alloc (.cells #[.int .i64 1, .int .i64 2, .int .i64 0] 3)).alloc (.cells #[.int .i64 2, .int .i64 0, .int .i64 1] 3)).alloc (.cells #[.slice (some ⟨W.heap.size, 0, none⟩) 3 3, .slice (some ⟨W.heap.size + 1, 0, none⟩) 3 3, .slice (some ⟨W.heap.size + 1 + 1, 0, none⟩) 3 3] 22)) (fun e w' => e = .returned (.bool true) ∧ Below W.heap.size W w') := by
  refine (sameAll_any A c ([[0, 1, 2], [1, 2, 0], [2, 0, 1]].map ints) (some ⟨W.heap.size + 1 + 1 + 1, 0, none⟩) 3 ([[0, 1, 2], [1, 2, 0], [2, 0, 1]].map ints) ((((W.alloc (.cells #[.int .i64 0, .int .i64 1, .int .i64 2] 3)).alloc (.cells #[.int .i64 1, .int .i64 2, .int .i64 0] 3)).alloc (.cells #[.int .i64 2, .int .i64 0, .int .i64 1] 3)).alloc (.cells #[.slice (some ⟨W.heap.size, 0, none⟩) 3 3, .slice (some ⟨W.heap.size + 1, 0, none⟩) 3 3, .slice (some ⟨W.heap.size + 1 + 1, 0, none⟩) 3 3] 22)) (h.up (al4 W _ _ _ _)) (ri_box (nb3 W _ _ _ _ _) (list3 ⟨some ⟨W.heap.size, 0, none⟩, 3, rfl, si_box ((((Box.new W _ _).alloc _).alloc _).alloc _) rfl (by decide)⟩ ⟨some ⟨W.heap.size + 1, 0, none⟩, 3, rfl, si_box (((nb1 W _ _ _).alloc _).alloc _) rfl (by decide)⟩ ⟨some ⟨W.heap.size + 1 + 1, 0, none⟩, 3, rfl, si_box ((nb2 W _ _ _ _).alloc _) rfl (by decide)⟩) (by decide))).mono ?_
  rintro e w' ⟨rfl, m, rfl⟩
  exact ⟨ret_bool (by decide), (al4 W _ _ _ _).trans ((below_drewN _ m).mono (al4 W _ _ _ _).size)⟩
theorem san11 (W : World) (A : Option Addr) (c : Nat) (h : RI W A ([[0, 2], [1]].map ints) c) : Calls Try.prog 23 #[.slice A 2 c, .slice (some ⟨W.heap.size + 1 + 1, 0, none⟩) 2 2] (((W.alloc (.cells #[.int .i64 0, .int .i64 2] 3)).alloc (.cells #[.int .i64 1] 3)).alloc (.cells #[.slice (some ⟨W.heap.size, 0, none⟩) 2 2, .slice (some ⟨W.heap.size + 1, 0, none⟩) 1 1] 22)) (fun e w' => e = .returned (.bool true) ∧ Below W.heap.size W w') := by
  refine (sameAll_any A c ([[0, 2], [1]].map ints) (some ⟨W.heap.size + 1 + 1, 0, none⟩) 2 ([[0, 2], [1]].map ints) (((W.alloc (.cells #[.int .i64 0, .int .i64 2] 3)).alloc (.cells #[.int .i64 1] 3)).alloc (.cells #[.slice (some ⟨W.heap.size, 0, none⟩) 2 2, .slice (some ⟨W.heap.size + 1, 0, none⟩) 1 1] 22)) (h.up (al3 W _ _ _)) (ri_box (nb2 W _ _ _ _) (list2 ⟨some ⟨W.heap.size, 0, none⟩, 2, rfl, si_box (((Box.new W _ _).alloc _).alloc _) rfl (by decide)⟩ ⟨some ⟨W.heap.size + 1, 0, none⟩, 1, rfl, si_box ((nb1 W _ _ _).alloc _) rfl (by decide)⟩) (by decide))).mono ?_
  rintro e w' ⟨rfl, m, rfl⟩
  exact ⟨ret_bool (by decide), (al3 W _ _ _).trans ((below_drewN _ m).mono (al3 W _ _ _).size)⟩
theorem san12 (W : World) : Calls Try.prog 15 #[.slice none 0 0, .int .i64 0] W (fun e w' => e = .returned (.int .i64 0) ∧ Below W.heap.size W w') := check_any none 0 [] 0 W (Sv.nil W)
theorem san13 (W : World) : Calls Try.prog 15 #[.slice (some ⟨W.heap.size, 0, none⟩) 2 2, .int .i64 2] (W.alloc (.cells #[.int .i64 0, .int .i64 0] 3)) (fun e w' => e = .returned (.int .i64 110) ∧ Below W.heap.size W w') := by
  refine (check_any (some ⟨W.heap.size, 0, none⟩) 2 (ints [0, 0]) 2 (W.alloc (.cells #[.int .i64 0, .int .i64 0] 3)) (si_box (Box.new W _ _) rfl (by decide))).mono ?_
  rintro e w' ⟨rfl, hb⟩
  exact ⟨ret_int (by decide), (al1 W _).trans (hb.mono (al1 W _).size)⟩
theorem san14 (W : World) : Calls Try.prog 15 #[.slice none 0 0, .int .i64 (-1)] W (fun e w' => e = .returned (.int .i64 1) ∧ Below W.heap.size W w') := check_any none 0 [] (-1) W (Sv.nil W)

end Go.Proofs.Ytobchecnfkocdaa
