/- PermsAgain. -/
import Derived.Test.YtobchecnfkocdaaPgA
import Derived.Test.YtobchecnfkocdaaOm
import Derived.Test.YtobchecnfkocdaaFi
import Derived.Test.YtobchecnfkocdaaVal
import Derived.Test.YtobchecnfkocdaaSane
import Derived.Test.YtobchecnfkocdaaRIt
namespace Go.Proofs.Ytobchecnfkocdaa
open Go.RowKit
set_option linter.unusedVariables false
set_option linter.unusedSimpArgs false

theorem find_in {ls : List (List Nat)} {p : List Nat} {N m c1 c' : Nat} {A1 A' : Option Addr} {V : World} (hs : Srt (ls.map ints)) (hp : p ∈ ls) (hpl : p.length = N) (hm : ls.length = m) (hl : m ≤ 4096) (hL : RI V A1 (ls.map ints) c1) (hP : Si V A' (ints p) c') :
    Calls Try.prog 27 #[.slice A1 m c1, .slice A' N c'] V (fun e w' => ∃ k : Nat, e = .returned (.tuple #[.int .i64 (k : Int), .bool true]) ∧ Below V.heap.size V w') := by
  have h := find_any A1 c1 (ls.map ints) A' c' (ints p) V hL hP hs (by rw [List.length_map]; omega)
  rw [List.length_map, hm, ints_length, hpl] at h
  refine h.mono ?_
  rintro e w' ⟨k, rfl, _, hb⟩
  exact ⟨k, by rw [decide_eq_true (List.mem_map.2 ⟨p, hp, rfl⟩)], hb⟩
theorem is_pm {p : List Nat} {N c' : Nat} {A' : Option Addr} {V : World} (hp : Pm N p) (hN : N ≤ 256) (hP : Si V A' (ints p) c') :
    Calls Try.prog 24 #[.slice A' N c', .int .i64 (N : Int)] V (fun e w' => e = .returned (.bool true) ∧ Below V.heap.size V w') := by
  have h := isr_any A' c' (ints p) (N : Int) V hP (by rw [ints_length, hp.1]; omega)
  rw [isr_pm hp, ints_length, hp.1] at h
  exact h
theorem product_pm {a b : List Nat} {N c d : Nat} {A B : Option Addr} {V : World} (ha : Pm N a) (hb : Pm N b) (hN : N ≤ 256) (hA : Si V A (ints a) c) (hB : Si V B (ints b) d) :
    Calls Try.prog 28 #[.slice A N c, .slice B N d] V (fun e w' => ∃ C k, e = .returned (.slice C N k) ∧ Si w' C (ints (mu a b)) k ∧ Below V.heap.size V w') := by
  have h := product_any A c (ints a) B d (ints b) V hA hB (fun x hx => by
    obtain ⟨y, hy, rfl⟩ := List.mem_map.1 hx
    have := hb.2.1 y hy
    rw [ints_length, ha.1]
    omega) (by rw [ints_length, hb.1]; omega)
  rw [cmi_ints, ints_length, ints_length, ha.1, hb.1] at h
  refine h.mono ?_
  rintro e w' ⟨C, k, rfl, h1, h2⟩
  exact ⟨C, k, by rw [ints_length, mu_length, hb.1], h1, h2⟩

/-- What a closure's answer is, in one form. -/
def ResQ (N : Nat) (gs ls : List (List Nat)) (e1 : Int) : Prop := (Big N gs ∧ e1 = 2 ∧ ls = []) ∨ (e1 = 0 ∧ Srt (ls.map ints) ∧ (∀ p, p ∈ ls ↔ Gen N gs p) ∧ ls.length ≤ 4096)
def ResP (w : World) (e : Ending) (w' : World) (X : List (List Nat) → Int → Prop) : Prop :=
  ∃ (A : Option Addr) (m c : Nat) (ls : List (List Nat)) (e1 : Int), e = .returned (.tuple #[.slice A m c, .int .i64 e1]) ∧ RI w' A (ls.map ints) c ∧ ls.length = m ∧ m ≤ 4096 ∧ X ls e1 ∧ Below w.heap.size w w'
theorem cq_res {N : Nat} {gs : List (List Nat)} {w w' : World} {e : Ending} (h : ClQ N gs w e w') : ResP w e w' (ResQ N gs) := by
  rcases h with ⟨hb, rfl, h1⟩ | ⟨A, m, c, ls, rfl, hol, hs, hm, hl, h1⟩
  · exact ⟨none, 0, 0, [], 2, rfl, RI.nil w', rfl, by omega, .inl ⟨hb, rfl, rfl⟩, h1⟩
  · have hml : ls.length = m := by have := hol.1; rwa [List.length_map] at this
    exact ⟨A, m, c, ls, 0, rfl, hol.ri, hml, by omega, .inr ⟨rfl, hs, hm, hl⟩, h1⟩
/-- Generators, valid or not. -/
def ResG (N : Nat) (gens : List (List Int)) (ls : List (List Nat)) (e1 : Int) : Prop :=
  (cge (N : Int) gens ≠ 0 ∧ e1 = cge (N : Int) gens ∧ ls = []) ∨ ∃ gs, gens = gs.map ints ∧ (∀ g ∈ gs, Pm N g) ∧ ResQ N gs ls e1
theorem cl_res {N : Nat} {gens : List (List Int)} {w w' : World} {e : Ending} (h : ClP (N : Int) gens w e w') : ResP w e w' (ResG N gens) := by
  rcases h with ⟨h1, rfl, h2⟩ | ⟨_, M, gs, h1, _, h2, h3, h4⟩
  · exact ⟨none, 0, 0, [], _, rfl, RI.nil w', rfl, by omega, .inl ⟨h1, rfl, rfl⟩, h2⟩
  · have e1 : M = N := by omega
    subst e1
    obtain ⟨A, m, c, ls, e1, a1, a2, a3, a4, a5, a6⟩ := cq_res h4
    exact ⟨A, m, c, ls, e1, a1, a2, a3, a4, .inr ⟨gs, h2, h3, a5⟩, a6⟩
theorem cge_bad {N : Nat} {gens : List (List Int)} {l : List Int} (hN : N ≤ 16) (hl : gens.length ≤ 6) (hm : l ∈ gens) (hb : isr l (N : Int) = false) : cge (N : Int) gens = 110 := by
  unfold cge
  rw [if_neg (by omega), if_neg (by omega), if_neg]
  intro h
  have := List.all_eq_true.1 h l hm
  rw [isp_isr, hb, Bool.and_false] at this
  cases this
theorem resG_bad {N : Nat} {gens : List (List Int)} {ls : List (List Nat)} {e1 : Int} (h : ResG N gens ls e1) (hN : N ≤ 16) (hl : gens.length ≤ 6) {l : List Int} (hm : l ∈ gens) (hb : isr l (N : Int) = false) : e1 = 110 ∧ ls = [] := by
  have hc := cge_bad hN hl hm hb
  rcases h with ⟨_, h2, h3⟩ | ⟨gs, h1, h2, _⟩
  · exact ⟨by rw [h2, hc], h3⟩
  · exfalso
    rw [h1] at hm
    obtain ⟨p, hp, rfl⟩ := List.mem_map.1 hm
    rw [isr_pm (h2 p hp)] at hb
    cases hb
theorem resG_ok {N : Nat} {gs : List (List Nat)} {ls : List (List Nat)} {e1 : Int} (h : ResG N (gs.map ints) ls e1) (hN : N ≤ 16) (hl : gs.length ≤ 6) (hp : ∀ g ∈ gs, Pm N g) : ResQ N gs ls e1 := by
  rcases h with ⟨h1, _⟩ | ⟨gs', h1, _, h3⟩
  · exact absurd (cge_pm (by omega) (by omega) hp) h1
  · rw [maps_inj h1] at h3
    exact h3
/-- The lists of generators that the law makes. -/
def bk (ps : List (List Nat)) : List (List Nat) := ps.reverse.flatMap fun p => [p, p]
def bn (q : List Nat) (ps : List (List Nat)) : List (List Nat) := ps.reverse.map (conj q)
theorem bk_cons (p : List Nat) (ps : List (List Nat)) : bk (p :: ps) = bk ps ++ [p, p] := by
  unfold bk
  rw [List.reverse_cons, List.flatMap_append]
  rfl
theorem bn_cons (q p : List Nat) (ps : List (List Nat)) : bn q (p :: ps) = bn q ps ++ [conj q p] := by
  unfold bn
  rw [List.reverse_cons, List.map_append]
  rfl
theorem bk_mem (ps : List (List Nat)) (g : List Nat) : g ∈ bk ps ↔ g ∈ ps := by
  unfold bk
  rw [List.mem_flatMap]
  constructor
  · rintro ⟨p, hp, hg⟩
    simp only [List.mem_cons, List.not_mem_nil, or_false] at hg
    rcases hg with rfl | rfl <;> exact List.mem_reverse.1 hp
  · exact fun h => ⟨g, List.mem_reverse.2 h, by simp⟩
theorem bn_mem (q : List Nat) (ps : List (List Nat)) (b : List Nat) : b ∈ bn q ps ↔ ∃ g ∈ ps, b = conj q g := by
  unfold bn
  rw [List.mem_map]
  constructor
  · rintro ⟨p, hp, rfl⟩
    exact ⟨p, List.mem_reverse.1 hp, rfl⟩
  · rintro ⟨g, hg, rfl⟩
    exact ⟨g, List.mem_reverse.2 hg, rfl⟩
theorem bk_len (ps : List (List Nat)) : (bk ps).length = 2 * ps.length := by
  induction ps with
  | nil => rfl
  | cons p ps ih =>
    rw [bk_cons, List.length_append, ih, List.length_cons]
    simp
    omega
theorem bn_len (q : List Nat) (ps : List (List Nat)) : (bn q ps).length = ps.length := by
  unfold bn
  rw [List.length_map, List.length_reverse]
/-- The three answers agree. -/
theorem res_agree {N : Nat} {gs ls ms xs : List (List Nat)} {q : List Nat} {e1 e2 e3 : Int} (hq : Pm N q) (hg : ∀ g ∈ gs, Pm N g) (h1 : ResQ N gs ls e1) (h2 : ResQ N (bk gs) ms e2) (h3 : ResQ N (bn q gs) xs e3) :
    e1 = e2 ∧ e1 = e3 ∧ ms = ls ∧ xs.length = ls.length ∧ (∀ p ∈ ls, Pm N p ∧ conj q p ∈ xs) ∧ Srt (xs.map ints) := by
  have hs := gen_same (n := N) (fun g => (bk_mem gs g))
  have hb := bn_mem q gs
  rcases h1 with ⟨a1, a2, a3⟩ | ⟨a1, a2, a3, a4⟩
  · rcases h2 with ⟨_, b2, b3⟩ | ⟨_, _, b3, b4⟩
    · rcases h3 with ⟨_, c2, c3⟩ | ⟨_, _, c3, c4⟩
      · subst a3 b3 c3
        exact ⟨by omega, by omega, rfl, rfl, fun p hp => absurd hp (List.not_mem_nil), List.Pairwise.nil⟩
      · exact absurd (conj_big hq hg hb a1) (big_list c3 c4)
    · exact absurd ((big_same hs).2 a1) (big_list b3 b4)
  · rcases h2 with ⟨b1, _⟩ | ⟨b1, b2, b3, b4⟩
    · exact absurd ((big_same hs).1 b1) (big_list a3 a4)
    · rcases h3 with ⟨c1, _⟩ | ⟨c1, c2, c3, c4⟩
      · exact absurd c1 (conj_nobig hq hg hb a3 a4)
      · refine ⟨by omega, by omega, ?_, (conj_list hq hg hb a3 (srt_nodup a2) c3 (srt_nodup c2)).symm, fun p hp => ⟨((a3 p).1 hp).pm hg, (c3 _).2 ((conj_gen hq hg hb _).2 ⟨p, (a3 p).1 hp, rfl⟩)⟩, c2⟩
        exact maps_inj (cls_uniq a2 b2 a3 (fun p => (hs p).symm.trans (b3 p).symm)) 
theorem rinverse_pt {n : Nat} {a : List Nat} (ha : Pm n a) (hn : n ≤ 256) {A : Option Addr} {c : Nat} {w : World} (hA : Si w A (ints a) c) :
    Calls Try.prog 14 #[.slice A n c] w (fun e w' => ∃ C k, e = .returned (.tuple #[.slice C n k, .int .i64 0]) ∧ Si w' C (ints (vi a)) k ∧ Tb w' C ∧ Below w.heap.size w w') := by
  have h := rinverse_tb A c (ints a) w hA (by rw [ints_length, ha.1]; omega)
  rw [(iv_pm ha hn).1, (iv_pm ha hn).2, ints_length, ha.1] at h
  refine h.mono fun e w' ⟨A', c', h1, h2, h3, h4⟩ => ⟨A', c', ?_, h2, h3, h4⟩
  rw [h1, ints_length, vi_length ha]
theorem product_pt {a b : List Nat} {N c d : Nat} {A B : Option Addr} {V : World} (ha : Pm N a) (hb : Pm N b) (hN : N ≤ 256) (hA : Si V A (ints a) c) (hB : Si V B (ints b) d) :
    Calls Try.prog 28 #[.slice A N c, .slice B N d] V (fun e w' => ∃ C k, e = .returned (.slice C N k) ∧ Si w' C (ints (mu a b)) k ∧ Tb w' C ∧ Below V.heap.size V w') := by
  have h := product_tb A c (ints a) B d (ints b) V hA hB (fun x hx => by
    obtain ⟨y, hy, rfl⟩ := List.mem_map.1 hx
    have := hb.2.1 y hy
    rw [ints_length, ha.1]
    omega) (by rw [ints_length, hb.1]; omega)
  rw [cmi_ints, ints_length, ints_length, ha.1, hb.1] at h
  refine h.mono ?_
  rintro e w' ⟨C, k, rfl, h1, h2, h3⟩
  exact ⟨C, k, by rw [ints_length, mu_length, hb.1], h1, h2, h3⟩
end Go.Proofs.Ytobchecnfkocdaa
