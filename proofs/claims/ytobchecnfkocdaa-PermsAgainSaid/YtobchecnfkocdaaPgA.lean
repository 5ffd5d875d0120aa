/- Other generators of the same group; conjugated ones. Plain. -/
import Derived.Test.YtobchecnfkocdaaPgL
import Derived.Test.YtobchecnfkocdaaCs
namespace Go.Proofs.Ytobchecnfkocdaa
set_option linter.unusedVariables false

def conj (q p : List Nat) : List Nat := mu q (mu p (vi q))
section
variable {n : Nat} {q : List Nat}
theorem conj_pm (hq : Pm n q) {p : List Nat} (hp : Pm n p) : Pm n (conj q p) := hq.mul (hp.mul hq.vi)
theorem conj_id (hq : Pm n q) : conj q (List.range n) = List.range n := by
  unfold conj
  rw [id_mu hq.vi, mu_vi hq]
theorem conj_mul (hq : Pm n q) {a b : List Nat} (ha : Pm n a) (hb : Pm n b) : mu (conj q a) (conj q b) = conj q (mu a b) := by
  unfold conj
  have h1 := ha.mul hq.vi
  have h2 := hb.mul hq.vi
  rw [mu_assoc h1 (hq.mul h2), mu_assoc (a := a) hq.vi (hq.mul h2), ← mu_assoc (a := vi q) hq h2, vi_mu hq, id_mu h2, ← mu_assoc (a := a) hb hq.vi]
theorem conj_inj (hq : Pm n q) {a b : List Nat} (ha : Pm n a) (hb : Pm n b) (e : conj q a = conj q b) : a = b :=
  mu_right hq.vi ha hb (mu_left hq (ha.mul hq.vi) (hb.mul hq.vi) e)
theorem conj_gen (hq : Pm n q) {gs bs : List (List Nat)} (hg : ∀ g ∈ gs, Pm n g) (hb : ∀ b, b ∈ bs ↔ ∃ g ∈ gs, b = conj q g) (x : List Nat) : Gen n bs x ↔ ∃ p, Gen n gs p ∧ x = conj q p := by
  constructor
  · intro h
    induction h with
    | id => exact ⟨_, Gen.id, (conj_id hq).symm⟩
    | mul _ hm ih =>
      obtain ⟨p, hp, rfl⟩ := ih
      obtain ⟨g, hgm, rfl⟩ := (hb _).1 hm
      exact ⟨_, Gen.mul hp hgm, conj_mul hq (hp.pm hg) (hg g hgm)⟩
  · rintro ⟨p, hp, rfl⟩
    induction hp with
    | id => rw [conj_id hq]; exact Gen.id
    | mul hp hm ih =>
      rw [← conj_mul hq (hp.pm hg) (hg _ hm)]
      exact Gen.mul ih ((hb _).2 ⟨_, hm, rfl⟩)
theorem conj_nodup (hq : Pm n q) {M : List (List Nat)} (hn : M.Nodup) (hp : ∀ p ∈ M, Pm n p) : (M.map (conj q)).Nodup := by
  unfold List.Nodup
  rw [List.pairwise_map]
  exact List.Pairwise.imp_of_mem (fun {a b} ha hb hab e => hab (conj_inj hq (hp _ ha) (hp _ hb) e)) hn
theorem conj_big (hq : Pm n q) {gs bs : List (List Nat)} (hg : ∀ g ∈ gs, Pm n g) (hb : ∀ b, b ∈ bs ↔ ∃ g ∈ gs, b = conj q g) (h : Big n gs) : Big n bs := by
  obtain ⟨M, m1, m2, m3⟩ := h
  refine ⟨M.map (conj q), conj_nodup hq m1 (fun p hp => (m3 p hp).pm hg), by rw [List.length_map, m2], fun x hx => ?_⟩
  obtain ⟨p, hp, rfl⟩ := List.mem_map.1 hx
  exact (conj_gen hq hg hb _).2 ⟨p, m3 p hp, rfl⟩
theorem conj_list (hq : Pm n q) {gs bs ls xs : List (List Nat)} (hg : ∀ g ∈ gs, Pm n g) (hb : ∀ b, b ∈ bs ↔ ∃ g ∈ gs, b = conj q g) (hl : ∀ p, p ∈ ls ↔ Gen n gs p) (hn : ls.Nodup) (hx : ∀ p, p ∈ xs ↔ Gen n bs p) (hxn : xs.Nodup) : ls.length = xs.length := by
  have h := nd_len (conj_nodup hq hn (fun p hp => ((hl p).1 hp).pm hg)) hxn (fun x => by
    rw [hx, conj_gen hq hg hb]
    constructor
    · intro h
      obtain ⟨p, hp, rfl⟩ := List.mem_map.1 h
      exact ⟨p, (hl p).1 hp, rfl⟩
    · rintro ⟨p, hp, rfl⟩
      exact List.mem_map.2 ⟨p, (hl p).2 hp, rfl⟩)
  rwa [List.length_map] at h
theorem conj_nobig (hq : Pm n q) {gs bs ls : List (List Nat)} (hg : ∀ g ∈ gs, Pm n g) (hb : ∀ b, b ∈ bs ↔ ∃ g ∈ gs, b = conj q g) (hl : ∀ p, p ∈ ls ↔ Gen n gs p) (h4 : ls.length ≤ 4096) : ¬ Big n bs := by
  rintro ⟨M, m1, m2, m3⟩
  have h := nd_sub M (ls.map (conj q)) m1 (fun x hx => by
    obtain ⟨p, hp, rfl⟩ := (conj_gen hq hg hb x).1 (m3 x hx)
    exact List.mem_map.2 ⟨p, (hl p).2 hp, rfl⟩)
  rw [List.length_map] at h
  omega
end
/-- Generators that are the same ones. -/
theorem gen_same {n : Nat} {a b : List (List Nat)} (h : ∀ g, g ∈ a ↔ g ∈ b) (p : List Nat) : Gen n a p ↔ Gen n b p := ⟨Gen.sub fun g hg => (h g).1 hg, Gen.sub fun g hg => (h g).2 hg⟩
theorem big_list {n : Nat} {a ls : List (List Nat)} (hl : ∀ p, p ∈ ls ↔ Gen n a p) (h4 : ls.length ≤ 4096) : ¬ Big n a := by
  rintro ⟨M, m1, m2, m3⟩
  have := nd_sub M ls m1 (fun x hx => (hl x).2 (m3 x hx))
  omega
theorem big_same {n : Nat} {a b : List (List Nat)} (h : ∀ p, Gen n a p ↔ Gen n b p) : Big n a ↔ Big n b := by
  constructor
  · rintro ⟨M, m1, m2, m3⟩
    exact ⟨M, m1, m2, fun q hq => (h q).1 (m3 q hq)⟩
  · rintro ⟨M, m1, m2, m3⟩
    exact ⟨M, m1, m2, fun q hq => (h q).2 (m3 q hq)⟩
/-- A group generates itself. -/
theorem gen_self {n : Nat} {gs ls : List (List Nat)} (hg : ∀ g ∈ gs, Pm n g) (hl : ∀ p, p ∈ ls ↔ Gen n gs p) (p : List Nat) : Gen n ls p ↔ Gen n gs p := by
  have hpl : ∀ g ∈ ls, Pm n g := fun g h => ((hl g).1 h).pm hg
  exact ⟨Gen.mono (fun g h => (hl g).1 h) hg, Gen.mono (fun g h => Gen.one hpl ((hl g).2 (Gen.one hg h))) hpl⟩
theorem rch_self {n : Nat} {gs ls : List (List Nat)} (hg : ∀ g ∈ gs, Pm n g) (hl : ∀ p, p ∈ ls ↔ Gen n gs p) {x y : Nat} (hx : x < n) : Rch gs x y ↔ Rch ls x y := by
  constructor
  · intro h
    induction h with
    | refl => exact Rch.refl
    | step _ hm ih => exact Rch.step ih ((hl _).2 (Gen.one hg hm))
  · intro h
    have : y < n ∧ Rch gs x y := by
      induction h with
      | refl => exact ⟨hx, Rch.refl⟩
      | step _ hm ih =>
        have hm := (hl _).1 hm
        exact ⟨(hm.pm hg).lt ih.1, ih.2.trans (gen_rch hg hm _ ih.1)⟩
    exact this.2
theorem orbs_self {n : Nat} {gs ls : List (List Nat)} (hg : ∀ g ∈ gs, Pm n g) (hl : ∀ p, p ∈ ls ↔ Gen n gs p) : orbs n gs n = orbs n ls n := by
  have ho : ∀ x, x < n → orb n gs x = orb n ls x := fun x hx => by
    unfold orb
    refine List.filter_congr fun y _ => ?_
    rw [decide_eq_decide]
    exact rch_self hg hl hx
  have hL : lsts gs n = lsts ls n := by
    unfold lsts
    refine List.filter_congr fun x hx => ?_
    have hx := List.mem_range.1 hx
    rw [decide_eq_decide]
    exact ⟨fun h y hy hr => h y hy ((rch_self hg hl (by omega)).2 hr), fun h y hy hr => h y hy ((rch_self hg hl (by omega)).1 hr)⟩
  rw [orbs_lsts, orbs_lsts, hL]
  exact List.map_congr_left fun x hx => ho x (mem_lsts.1 hx).1
end Go.Proofs.Ytobchecnfkocdaa
