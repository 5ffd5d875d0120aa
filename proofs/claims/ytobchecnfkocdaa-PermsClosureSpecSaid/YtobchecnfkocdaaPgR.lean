/- Plain: a list put at its place; what the reference's Closure keeps. -/
import Derived.Test.YtobchecnfkocdaaFi
import Derived.Test.YtobchecnfkocdaaSan
namespace Go.Proofs.Ytobchecnfkocdaa
set_option linter.unusedVariables false

theorem srt_ins {ls : List (List Int)} {p : List Int} {k : Nat} (hs : Srt ls) (hp : Plc ls p k) (hn : p ∉ ls) : Srt (ls.take k ++ p :: ls.drop k) := by
  obtain ⟨h1, h2, h3⟩ := hp
  have hd : ∀ q ∈ ls.drop k, ord p q = -1 := fun q hq => by
    obtain ⟨i, hi, e⟩ := List.getElem_of_mem hq
    have hg : ls[k + i]? = some q := by rw [← List.getElem?_drop, List.getElem?_eq_getElem hi, e]
    have a1 := h3 (k + i) q (by omega) hg
    have a2 : ord q p ≠ 0 := fun h => hn (by rw [← ord_zero h]; exact List.mem_of_getElem? hg)
    have a3 := ord_values q p
    rw [ord_swap]
    omega
  have ht : ∀ q ∈ ls.take k, ord q p = -1 := fun q hq => by
    obtain ⟨i, hi, e⟩ := List.getElem_of_mem hq
    have hik : i < k := by rw [List.length_take] at hi; omega
    have hg : ls[i]? = some q := by
      have := List.getElem?_eq_getElem hi
      rw [List.getElem?_take, if_pos hik, e] at this
      exact this
    exact h2 i q hik hg
  refine List.pairwise_append.2 ⟨List.Pairwise.sublist (List.take_sublist k ls) hs, List.pairwise_cons.2 ⟨hd, List.Pairwise.sublist (List.drop_sublist k ls) hs⟩, fun a ha b hb => ?_⟩
  rcases List.mem_cons.1 hb with rfl | hb
  · exact ht a ha
  · exact ord_trans (ht a ha) (hd b hb)
/-- What the reference's Closure keeps: found in order, and the same elements as they came; the first i of them are done. -/
structure RcS (N : Nat) (gs ls ts : List (List Nat)) (i : Nat) : Prop where
  srt : Srt (ls.map ints)
  mem : ∀ p, p ∈ ls ↔ p ∈ ts
  len : ts.length = ls.length
  gen : ∀ p ∈ ls, Gen N gs p
  one : List.range N ∈ ls
  cl : ∀ (j : Nat) p, j < i → ts[j]? = some p → ∀ g ∈ gs, mu g p ∈ ls
theorem RcS.start (N : Nat) (gs : List (List Nat)) : RcS N gs [List.range N] [List.range N] 0 :=
  ⟨List.pairwise_singleton _ _, fun p => Iff.rfl, rfl, fun p hp => by rw [List.mem_singleton.1 hp]; exact Gen.id, by simp, fun j p h => by omega⟩
theorem ints_mem {ls : List (List Nat)} {p : List Nat} : ints p ∈ ls.map ints ↔ p ∈ ls := by
  constructor
  · intro h
    obtain ⟨q, hq, e⟩ := List.mem_map.1 h
    have : q = p := by
      have := maps_inj (a := [q]) (b := [p]) (by rw [List.map_singleton, List.map_singleton, e])
      injection this with h1 _
      first | exact h1 | exact h1.symm
    rwa [this] at hq
  · exact fun h => List.mem_map.2 ⟨p, h, rfl⟩
theorem map_ins (ls : List (List Nat)) (p : List Nat) (k : Nat) : (ls.map ints).take k ++ ints p :: (ls.map ints).drop k = (ls.take k ++ p :: ls.drop k).map ints := by
  rw [List.map_append, List.map_cons, List.map_take, List.map_drop]
/-- An element more. -/
theorem RcS.more {N : Nat} {gs ls ts : List (List Nat)} {i k : Nat} {p : List Nat} (h : RcS N gs ls ts i) (hp : Plc (ls.map ints) (ints p) k) (hn : p ∉ ls) (hg : Gen N gs p) (hi : i ≤ ts.length) : RcS N gs (ls.take k ++ p :: ls.drop k) (ts ++ [p]) i := by
  have hm : ∀ q, q ∈ ls.take k ++ p :: ls.drop k ↔ q ∈ ls ∨ q = p := fun q => by
    have e : q ∈ ls ↔ q ∈ ls.take k ∨ q ∈ ls.drop k := by rw [← List.mem_append, List.take_append_drop]
    rw [List.mem_append, List.mem_cons, e]
    constructor
    · rintro (h | h | h)
      · exact .inl (.inl h)
      · exact .inr h
      · exact .inl (.inr h)
    · rintro ((h | h) | h)
      · exact .inl h
      · exact .inr (.inr h)
      · exact .inr (.inl h)
  refine ⟨?_, fun q => ?_, ?_, fun q hq => ?_, (hm _).2 (.inl h.one), fun j q hj hq g hgs => (hm _).2 (.inl (h.cl j q hj ?_ g hgs))⟩
  · rw [← map_ins]
    exact srt_ins h.srt hp (fun e => hn (ints_mem.1 e))
  · rw [hm, List.mem_append, List.mem_singleton, h.mem]
  · have h1 := h.len
    have h2 : (ls.take k ++ p :: ls.drop k).length = ls.length + 1 := by
      rw [List.length_append, List.length_cons, List.length_take, List.length_drop]
      omega
    rw [h2, List.length_append, h1]
    rfl
  · rcases (hm q).1 hq with h1 | rfl
    · exact h.gen q h1
    · exact hg
  · rwa [List.getElem?_append_left (by omega)] at hq
/-- All are done. -/
theorem RcS.all {N : Nat} {gs ls ts : List (List Nat)} (h : RcS N gs ls ts ts.length) (hg : ∀ g ∈ gs, Pm N g) (p : List Nat) : p ∈ ls ↔ Gen N gs p :=
  ⟨h.gen p, fun hp => Gen.left hg (S := fun p => p ∈ ls) h.one (fun q g hq _ hgs => by
    obtain ⟨j, hj, e⟩ := List.getElem_of_mem ((h.mem q).1 hq)
    exact h.cl j q hj (by rw [List.getElem?_eq_getElem hj, e]) g hgs) hp⟩
theorem RcS.big {N : Nat} {gs ls ts : List (List Nat)} {i : Nat} {p : List Nat} (h : RcS N gs ls ts i) (hl : ls.length = 4096) (hn : p ∉ ls) (hg : Gen N gs p) : Big N gs :=
  ⟨p :: ls, List.nodup_cons.2 ⟨hn, srt_nodup h.srt⟩, by rw [List.length_cons, hl], fun q hq => by
    rcases List.mem_cons.1 hq with rfl | h1
    · exact hg
    · exact h.gen q h1⟩
/-- gens times an element, on the left. -/
theorem Gen.lmul {N : Nat} {gs : List (List Nat)} (hg : ∀ g ∈ gs, Pm N g) {g p : List Nat} (hgs : g ∈ gs) (hp : Gen N gs p) : Gen N gs (mu g p) := by
  induction hp with
  | id =>
    have h : mu g (List.range N) = mu (List.range N) g := by rw [mu_id (hg g hgs), id_mu (hg g hgs)]
    rw [h]
    exact Gen.mul Gen.id hgs
  | mul h1 h2 ih =>
    rw [← mu_assoc (h1.pm hg) (hg _ h2)]
    exact Gen.mul ih h2
end Go.Proofs.Ytobchecnfkocdaa
