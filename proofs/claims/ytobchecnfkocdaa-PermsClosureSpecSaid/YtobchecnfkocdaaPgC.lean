/- Groups that grow by a generator; lists in strictly increasing order. Plain. -/
import Derived.Test.YtobchecnfkocdaaPg8
import Derived.Test.YtobchecnfkocdaaPi
namespace Go.Proofs.Ytobchecnfkocdaa
set_option linter.unusedVariables false

theorem Gen.sub {n : Nat} {a b : List (List Nat)} (h : ∀ g ∈ a, g ∈ b) {p : List Nat} (hp : Gen n a p) : Gen n b p := by
  induction hp with
  | id => exact Gen.id
  | mul _ hm ih => exact Gen.mul ih (h _ hm)
theorem pm_app {n : Nat} {G : List (List Nat)} {p : List Nat} (hG : ∀ g ∈ G, Pm n g) (hp : Pm n p) : ∀ g ∈ G ++ [p], Pm n g := fun g hg => by
  rcases List.mem_append.1 hg with h | h
  · exact hG g h
  · rw [List.mem_singleton.1 h]; exact hp
/-- A generator that is in the group already. -/
theorem gen_in {n : Nat} {G : List (List Nat)} {p : List Nat} (hG : ∀ g ∈ G, Pm n g) (hp : Gen n G p) (q : List Nat) : Gen n (G ++ [p]) q ↔ Gen n G q := by
  constructor
  · intro h
    refine Gen.mono (fun g hg => ?_) hG h
    rcases List.mem_append.1 hg with h1 | h1
    · exact Gen.one hG h1
    · rw [List.mem_singleton.1 h1]; exact hp
  · exact Gen.sub (fun g hg => List.mem_append_left _ hg)
/-- The same group, and one more generator. -/
theorem gen_more {n : Nat} {K G : List (List Nat)} {p : List Nat} (hK : ∀ g ∈ K, Pm n g) (hG : ∀ g ∈ G, Pm n g) (hp : Pm n p) (h : ∀ q, Gen n K q ↔ Gen n G q) (q : List Nat) : Gen n (K ++ [p]) q ↔ Gen n (G ++ [p]) q := by
  have one : ∀ (X Y : List (List Nat)), (∀ g ∈ X, Pm n g) → (∀ g ∈ Y, Pm n g) → (∀ q, Gen n X q → Gen n Y q) → ∀ q, Gen n (X ++ [p]) q → Gen n (Y ++ [p]) q := fun X Y hX hY hh q hq => by
    refine Gen.mono (fun g hg => ?_) (pm_app hY hp) hq
    rcases List.mem_append.1 hg with h1 | h1
    · exact Gen.sub (fun g hg => List.mem_append_left _ hg) (hh g (Gen.one hX h1))
    · rw [List.mem_singleton.1 h1]
      exact Gen.one (pm_app hY hp) (by simp)
  exact ⟨one K G hK hG (fun q => (h q).1) q, one G K hG hK (fun q => (h q).2) q⟩
/-- What is derived from the group by the generators, and closed, is the group. -/
theorem gen_new {n : Nat} {K els els' : List (List Nat)} {p : List Nat} (hK : ∀ g ∈ K, Pm n g) (hp : Pm n p) (h : ∀ q, q ∈ els ↔ Gen n K q) (hsub : ∀ q ∈ els, q ∈ els') (hcl : ∀ x ∈ els', ∀ y ∈ K ++ [p], mu x y ∈ els')
    (hder : ∀ Q : List Nat → Prop, (∀ q ∈ els, Q q) → (∀ q y, Q q → y ∈ K ++ [p] → Q (mu q y)) → ∀ q ∈ els', Q q) (q : List Nat) : q ∈ els' ↔ Gen n (K ++ [p]) q := by
  constructor
  · exact hder _ (fun q hq => Gen.sub (fun g hg => List.mem_append_left _ hg) ((h q).1 hq)) (fun q y hq hy => Gen.mul hq hy) q
  · intro hq
    induction hq with
    | id => exact hsub _ ((h _).2 Gen.id)
    | mul _ hm ih => exact hcl _ ih _ hm
/-- .. and where there is no room: more elements than there may be. -/
theorem gen_big {n : Nat} {K els els' : List (List Nat)} {p x y : List Nat} (h : ∀ q, q ∈ els ↔ Gen n K q) (hder : ∀ Q : List Nat → Prop, (∀ q ∈ els, Q q) → (∀ q y, Q q → y ∈ K ++ [p] → Q (mu q y)) → ∀ q ∈ els', Q q)
    (hn : els'.Nodup) (hx : x ∈ els') (hy : y ∈ K ++ [p]) (hz : mu x y ∉ els') : ∃ M : List (List Nat), M.Nodup ∧ M.length = els'.length + 1 ∧ ∀ q ∈ M, Gen n (K ++ [p]) q := by
  have hd : ∀ q ∈ els', Gen n (K ++ [p]) q := hder _ (fun q hq => Gen.sub (fun g hg => List.mem_append_left _ hg) ((h q).1 hq)) (fun q y hq hy => Gen.mul hq hy)
  refine ⟨mu x y :: els', List.nodup_cons.2 ⟨hz, hn⟩, rfl, fun q hq => ?_⟩
  rcases List.mem_cons.1 hq with rfl | h1
  · exact Gen.mul (hd x hx) hy
  · exact hd q h1
theorem big_no {n : Nat} {G L M : List (List Nat)} (hL : ∀ q, q ∈ L ↔ Gen n G q) (hM : M.Nodup) (hg : ∀ q ∈ M, Gen n G q) : M.length ≤ L.length := nd_sub M L hM (fun q hq => (hL q).2 (hg q hq))

/-! ### The order -/
theorem ord_values : ∀ a b : List Int, ord a b = -1 ∨ ord a b = 0 ∨ ord a b = 1
  | [], [] => .inr (.inl rfl)
  | [], _ :: _ => .inl rfl
  | _ :: _, [] => .inr (.inr rfl)
  | x :: a, y :: b => by
    unfold ord
    split
    · exact .inl rfl
    · split
      · exact .inr (.inr rfl)
      · exact ord_values a b
theorem ord_swap : ∀ a b : List Int, ord b a = -(ord a b)
  | [], [] => rfl
  | [], _ :: _ => rfl
  | _ :: _, [] => rfl
  | x :: a, y :: b => by
    unfold ord
    by_cases h1 : x < y
    · have h2 : ¬ y < x := by omega
      simp [h1, h2]
    · by_cases h2 : y < x
      · simp [h1, h2]
      · simp [h1, h2]
        exact ord_swap a b
theorem ord_trans : ∀ {a b c : List Int}, ord a b = -1 → ord b c = -1 → ord a c = -1
  | [], [], _, h, _ => by unfold ord at h; omega
  | [], _ :: _, [], _, h => by unfold ord at h; omega
  | [], _ :: _, _ :: _, _, _ => rfl
  | _ :: _, [], _, h, _ => by unfold ord at h; omega
  | _ :: _, _ :: _, [], _, h => by unfold ord at h; omega
  | x :: a, y :: b, z :: c, h1, h2 => by
    unfold ord at h1 h2 ⊢
    by_cases p1 : x < y
    · by_cases p2 : y < z
      · rw [if_pos (by omega)]
      · rw [if_neg p2] at h2
        by_cases p3 : z < y
        · rw [if_pos p3] at h2; omega
        · rw [if_pos (by omega)]
    · rw [if_neg p1] at h1
      by_cases p2 : y < x
      · rw [if_pos p2] at h1; omega
      · rw [if_neg p2] at h1
        by_cases p3 : y < z
        · rw [if_pos (by omega)]
        · rw [if_neg p3] at h2
          by_cases p4 : z < y
          · rw [if_pos p4] at h2; omega
          · rw [if_neg p4] at h2
            rw [if_neg (by omega), if_neg (by omega)]
            exact ord_trans h1 h2
/-- Strictly increasing lists. -/
def Srt (l : List (List Int)) : Prop := l.Pairwise fun a b => ord a b = -1
theorem Srt.nodup {l : List (List Int)} (h : Srt l) : l.Nodup := List.Pairwise.imp (fun {a b} hab e => by rw [e, ord_self] at hab; omega) h
theorem srt_uniq : ∀ {a b : List (List Int)}, Srt a → Srt b → (∀ x, x ∈ a ↔ x ∈ b) → a = b
  | [], [], _, _, _ => rfl
  | [], y :: b, _, _, h => absurd ((h y).2 (List.mem_cons_self ..)) (List.not_mem_nil)
  | x :: a, [], _, _, h => absurd ((h x).1 (List.mem_cons_self ..)) (List.not_mem_nil)
  | x :: a, y :: b, ha, hb, h => by
    unfold Srt at ha hb
    rw [List.pairwise_cons] at ha hb
    have hxy : x = y := by
      rcases List.mem_cons.1 ((h x).1 (List.mem_cons_self ..)) with e | hx
      · exact e
      · rcases List.mem_cons.1 ((h y).2 (List.mem_cons_self ..)) with e | hy
        · exact e.symm
        · have h1 := hb.1 x hx
          have h2 := ha.1 y hy
          rw [ord_swap, h1] at h2
          omega
    subst hxy
    have hab : ∀ z, z ∈ a ↔ z ∈ b := fun z => by
      constructor
      · intro hz
        rcases List.mem_cons.1 ((h z).1 (List.mem_cons_of_mem _ hz)) with e | h1
        · have := ha.1 z hz
          rw [e, ord_self] at this
          omega
        · exact h1
      · intro hz
        rcases List.mem_cons.1 ((h z).2 (List.mem_cons_of_mem _ hz)) with e | h1
        · have := hb.1 z hz
          rw [e, ord_self] at this
          omega
        · exact h1
    rw [srt_uniq ha.2 hb.2 hab]
end Go.Proofs.Ytobchecnfkocdaa
