/- Explain: what it answers, in plain words. -/
import Derived.Test.YtjkojjimlebmjaaDoorJoin
import Derived.Test.YtjkojjimlebmjaaDoorOth
import Derived.Test.YtjkojjimlebmjaaDoorEx1
namespace Go.Proofs.YtjkojjimlebmjaaDoor
set_option linter.unusedVariables false

theorem idxs_map (l : List Shr) : idxs l = l.map ixb := by
  apply List.ext_getElem?
  intro j
  unfold idxs
  by_cases h : j < l.length
  · simp [h]
  · rw [List.getElem?_eq_none (by simp; omega), List.getElem?_eq_none (by simp; omega)]
theorem ixb_nat {s : Shr} (h : 0 < s.ix ∧ s.ix ≤ 8) : ((ixb s).toNat : Int) = s.ix := by
  unfold ixb
  rw [UInt8.toNat_ofNat_of_lt' (by simp [UInt8.size]; omega)]
  omega
theorem ixb_nodup {o : Shr} : ∀ {l : List Shr} {b : Int}, alkFrom o b l = true → (∀ s ∈ l, 0 < s.ix ∧ s.ix ≤ 8) → (l.map ixb).Nodup
  | [], _, _, _ => by simp
  | a :: l, b, h, h8 => by
    simp only [alkFrom, Bool.and_eq_true, decide_eq_true_eq] at h
    rw [List.map_cons, List.nodup_cons]
    refine ⟨fun hm => ?_, ixb_nodup h.2 (fun s hs => h8 s (by simp [hs]))⟩
    obtain ⟨s, hs, he⟩ := List.mem_map.1 hm
    have h1 := (alkFrom_mem h.2 s hs).2.1
    have h2 := ixb_nat (h8 s (by simp [hs]))
    have h3 := ixb_nat (h8 a (by simp))
    rw [he] at h2
    omega
theorem oths_ok : ∀ q, q ≤ 8 → (oths q).Nodup ∧ (oths q).all (fun x => x == 0 || decide (9 ≤ x.toNat)) = true
  | 0, _ => by decide
  | 1, _ => by decide
  | 2, _ => by decide
  | 3, _ => by decide
  | 4, _ => by decide
  | 5, _ => by decide
  | 6, _ => by decide
  | 7, _ => by decide
  | 8, _ => by decide
  | q + 9, h => by omega
theorem places_nodup {l : List Shr} (h : alk l = true) (q : Nat) (hq : q ≤ 8) : (idxs l ++ oths q).Nodup := by
  obtain ⟨s0, h0⟩ := alk_pos h
  have hf := alk_facts h h0
  rw [alk_cons h0] at h
  simp only [Bool.and_eq_true] at h
  have ho := oths_ok q hq
  rw [idxs_map, List.nodup_append]
  refine ⟨ixb_nodup h.2 (fun s hs => (hf.2.2 s hs).2), ho.1, fun a ha b hb e => ?_⟩
  subst e
  obtain ⟨s, hs, rfl⟩ := List.mem_map.1 ha
  have h1 := ixb_nat (hf.2.2 s hs).2
  have h2 := (hf.2.2 s hs).2
  have h3 := List.all_eq_true.1 ho.2 _ hb
  simp only [Bool.or_eq_true, beq_iff_eq, decide_eq_true_eq] at h3
  rcases h3 with h3 | h3
  · rw [h3] at h1
    simp at h1
    omega
  · omega
theorem idxs_length (l : List Shr) : (idxs l).length = l.length := by simp [idxs]
theorem oths_length (q : Nat) : (oths q).length = q := by simp [oths]

/-- The coins of one byte. -/
def exc (l : List Shr) (s : List UInt8) (q place : Nat) : List UInt8 := (co (idxs l ++ oths q) (colm l place ++ othv (s.getD place 0) q)).drop 1
/-- The threshold of shares, and how many bytes they have. -/
def thn (l : List Shr) : Nat := ((l[0]?.map Shr.th).getD 0).toNat
def dln (l : List Shr) : Nat := (l[0]?.map (fun s => s.data.length)).getD 0
def exe (l : List Shr) (s : List UInt8) : Int := if chk l ≠ 0 then chk l else if thn l ≤ l.length then 60 else if s.length ≠ dln l then 1 else 0
def ex (l : List Shr) (s : List UInt8) : List UInt8 := if exe l s = 0 then ((List.range (dln l)).map (exc l s (thn l - l.length))).flatten else []
theorem exc_length {l : List Shr} {s : List UInt8} {q place : Nat} (h : alk l = true) (hq : 0 < q) (hq8 : q ≤ 8) : (exc l s q place).length = l.length + q - 1 := by
  unfold exc
  rw [List.length_drop]
  have hh : (idxs l ++ oths q).length = (colm l place ++ othv (s.getD place 0) q).length ∧ (idxs l ++ oths q).Nodup := ⟨by rw [List.length_append, List.length_append, idxs_length, oths_length, colm_length, othv_length _ _ hq], places_nodup h q hq8⟩
  unfold co
  rw [if_pos hh, lk_length, List.length_append, idxs_length, oths_length]
theorem flat_le {α : Type} (k : Nat) : ∀ (ls : List (List α)), (∀ l ∈ ls, l.length ≤ k) → ls.flatten.length ≤ ls.length * k
  | [], _ => by simp
  | l :: ls, h => by
    have h1 := flat_le k ls (fun x hx => h x (by simp [hx]))
    have h2 := h l (by simp)
    rw [List.flatten_cons, List.length_append, List.length_cons, Nat.add_mul]
    omega
end Go.Proofs.YtjkojjimlebmjaaDoor
