/- slices.SortFunc of a row of elements. -/
import Derived.Test.YtobchecnfkocdaaShE
import Derived.Test.YtobchecnfkocdaaSr
namespace Go.Proofs.Ytobchecnfkocdaa
open Go.RowKit Go.Sort Go.Lib
set_option linter.unusedVariables false
set_option linter.unusedSimpArgs false

theorem swo_cfE : Go.Sort.SWO (ltOf cfE) := by
  have hlt : ∀ x y : El, ltOf cfE x y = true ↔ ord (ints x.1) (ints y.1) = -1 := fun x y => by
    unfold ltOf cfE
    rw [decide_eq_true_eq]
    rcases ord_values (ints x.1) (ints y.1) with h | h | h <;> rw [h] <;> omega
  have hno : ∀ x y : El, ltOf cfE x y = false ↔ ord (ints x.1) (ints y.1) ≠ -1 := fun x y => by
    rw [← Bool.not_eq_true, hlt]
  exact {
    irrefl := fun x => by rw [hno, ord_self]; omega
    trans := fun x y z h1 h2 => by rw [hlt] at *; exact ord_trans h1 h2
    ntrans := fun x y z h1 h2 => by
      rw [hno] at *
      intro h3
      rcases ord_values (ints x.1) (ints y.1) with h | h | h
      · exact h1 h
      · rw [ord_zero h] at h3; exact h2 h3
      · have h4 := ord_swap (ints x.1) (ints y.1)
        rw [h] at h4
        exact h2 (ord_trans h4 h3) }
theorem lt_no {x y : El} (h : ltOf cfE x y = false) : ord (ints x.1) (ints y.1) ≠ -1 := fun e => by
  have : ltOf cfE x y = true := by
    unfold ltOf cfE
    rw [e]
    rfl
  rw [h] at this
  cases this
theorem ord_app : ∀ {a b : List Int} (z : List Int), a.length = b.length → ord (a ++ z) (b ++ z) = ord a b
  | [], [], z, _ => ord_self z
  | [], _ :: _, _, h => by cases h
  | _ :: _, [], _, h => by cases h
  | x :: a, y :: b, z, h => by
    have ih := ord_app (a := a) (b := b) z (by simpa using h)
    show (if x < y then (-1 : Int) else if y < x then 1 else ord (a ++ z) (b ++ z)) = (if x < y then (-1 : Int) else if y < x then 1 else ord a b)
    rw [ih]
def padE (p : List Nat) : El := if h : p.length ≤ 256 ∧ ∀ x ∈ p, x < 256 then ⟨p ++ List.replicate (256 - p.length) 0, by rw [List.length_append, List.length_replicate]; omega, fun x hx => by
  rcases List.mem_append.1 hx with h1 | h1
  · exact h.2 x h1
  · rw [(List.mem_replicate.1 h1).2]; omega⟩ else default
theorem padE_val {N : Nat} {p : List Nat} (hp : Ok N p) (hN : N ≤ 256) : (padE p).1 = p ++ List.replicate (256 - N) 0 := by
  have h : p.length ≤ 256 ∧ ∀ x ∈ p, x < 256 := ⟨by have := hp.1; omega, hp.2⟩
  unfold padE
  rw [dif_pos h]
  show p ++ List.replicate (256 - p.length) 0 = _
  rw [hp.1]
theorem padE_ele {N : Nat} {p : List Nat} (hp : Ok N p) (hN : N ≤ 256) : ele (padE p) = (eof p).toList := by
  unfold ele eof ucs
  rw [padE_val hp hN]
  apply List.ext_getElem?
  intro i
  rw [List.getElem?_map, List.toList_toArray, List.getElem?_map]
  by_cases h : i < 256
  · rw [List.getElem?_range h]
    by_cases h2 : i < p.length
    · rw [List.getElem?_append_left h2, List.getElem?_eq_getElem h2, ← getD_get h2]
      rfl
    · rw [List.getElem?_append_right (by omega), List.getElem?_replicate, if_pos (by have := hp.1; omega)]
      have e0 : p.getD i 0 = 0 := by rw [List.getD_eq_getElem?_getD, List.getElem?_eq_none (by omega)]; rfl
      show some (Value.int .u8 ((0 : Nat) : Int)) = some (Value.int .u8 ((p.getD i 0 : Nat) : Int))
      rw [e0]
  · rw [List.getElem?_eq_none (by rw [List.length_append, List.length_replicate, hp.1]; omega), List.getElem?_eq_none (by rw [List.length_range]; omega)]
    rfl
theorem unpad {N : Nat} {p : List Nat} (hp : Ok N p) (hN : N ≤ 256) : (padE p).1.take N = p := by
  rw [padE_val hp hN, List.take_append_of_le_length (by rw [hp.1]; exact Nat.le_refl _), List.take_of_length_le (by rw [hp.1]; exact Nat.le_refl _)]
theorem pad_ord {N : Nat} {p q : List Nat} (hp : Ok N p) (hq : Ok N q) (hN : N ≤ 256) : ord (ints (padE p).1) (ints (padE q).1) = ord (ints p) (ints q) := by
  rw [padE_val hp hN, padE_val hq hN]
  unfold ints
  rw [List.map_append, List.map_append]
  exact ord_app _ (by rw [List.length_map, List.length_map, hp.1, hq.1])
theorem grownBy_els {α : Type} [Inhabited α] {enc : α → List Value} {w : World} {g n : Nat} {os : Array Obj} (d : Array α) : w.grownBy (grow (putRowK enc 256 (Sort.ahead w n) g 0 d) os) (some g) := by
  refine ⟨rfl, rfl, rfl, by simp [grow, putRowK, putRow, mapBlock, Sort.ahead], fun k hk hne => ?_⟩
  show ((w.heap.modify g _) ++ os)[k]? = _
  rw [Array.getElem?_append_left (by simpa using hk), Array.getElem?_modify, if_neg (fun e => hne (by rw [e]))]
set_option maxHeartbeats 2000000 in
theorem sortE : SortE := by
  intro B N g n c els w ho hn hok hN hle
  have hlt := World.ownsRow.lt ho g rfl
  obtain ⟨d, hd⟩ : ∃ d, (els.map padE).toArray = d := ⟨_, rfl⟩
  have hdl : d.toList = els.map padE := by rw [← hd]
  have hds : d.size = n := by rw [← hd]; simpa using hn
  have hpad : ∀ x ∈ d.toList, ∃ p ∈ els, x = padE p := fun x hx => by
    rw [hdl] at hx
    obtain ⟨p, hp, rfl⟩ := List.mem_map.1 hx
    exact ⟨p, hp, rfl⟩
  have hH : HoldsK ele 256 w g 0 d := fun j hj => by
    rw [size_flatK] at hj
    rw [Nat.zero_add]
    refine ⟨?_, ho.frozenAt j⟩
    rw [ho.cellAt j (by rw [← hds]; exact hj), get_flatK _ _ _ _ hj]
    obtain ⟨i, k, hk, rfl⟩ : ∃ i k, k < 256 ∧ j = i * 256 + k := ⟨j / 256, j % 256, Nat.mod_lt _ (by omega), by omega⟩
    have e1 : (i * 256 + k) / 256 = i := by omega
    have e2 : (i * 256 + k) % 256 = k := by omega
    rw [e1, e2]
    have hi : i < els.length := by omega
    have hg : els[i]? = some els[i] := List.getElem?_eq_getElem hi
    have hb : d[i]! = padE els[i] := by rw [← hd]; simp [hi]
    have hoki := hok _ (List.getElem_mem hi)
    rw [hb, padE_ele hoki hN]
    have hk2 : k < (eof els[i]).toList.length := by rw [eof_len]; exact hk
    rw [flatE_at hg (List.getElem?_eq_getElem hk2)]
    have e3 : (eof els[i]).toList[k]! = (eof els[i]).toList[k] := getElem!_pos (eof els[i]).toList k hk2
    rw [e3]
    rfl
  have hcmp : CmpLays Try.prog 43 #[] ele 256 cfE g 0 d.size w := fun m os dk _ x y => inE_any x y _
  have hcon := AnyQ.slices_SortFunc laysE 256 Try.isAgg55 Try.sizeOf55 ele ele_len ele_one cfE swo_cfE 43 #[] g 0 c d w (enters_of Try.func43 (by kernel_rfl) rfl) hcmp hH hlt.2 (by omega)
  rw [hds] at hcon
  refine Calls.mono (show Calls Try.prog 42 _ _ _ from hcon) ?_
  rintro e w' ⟨rfl, d', m, os, hp, hs, rfl⟩
  have hpl : d'.toList.Perm d.toList := by
    have h1 := hp.2.2
    have h2 := hp.1
    rw [Array.extract_eq_self_of_le (by omega), Array.extract_eq_self_of_le (by omega)] at h1
    exact h1
  have hpad' : ∀ x ∈ d'.toList, ∃ p ∈ els, x = padE p := fun x hx => hpad x (hpl.mem_iff.1 hx)
  have hd's : d'.size = n := by rw [hp.1, hds]
  have hH2 : HoldsK ele 256 (sortWorldK ele 256 w g 0 m d' os) g 0 d' := by
    unfold sortWorldK
    refine holdsK_grow _ _ _ _ _ _ _ ?_ (holdsK_putRowK _ _ (Sort.ahead w m) g 0 d _ (holdsK_ahead _ _ w m g 0 _ hH) hp.1)
    show g < (putRowK ele 256 (Sort.ahead w m) g 0 _).heap.size
    simpa [putRowK, putRow, mapBlock, Sort.ahead] using hlt.2
  refine ⟨rfl, grownBy_els _, d'.toList.map (fun x => x.1.take N), ?_, ?_, ?_, ?_⟩
  · have h1 := hpl.map (fun x => x.1.take N)
    rw [hdl, List.map_map] at h1
    refine h1.trans ?_
    have : els.map ((fun x => x.1.take N) ∘ padE) = els := (List.map_congr_left fun p hp => unpad (hok p hp) hN).trans (List.map_id els)
    rw [this]
  · rw [List.pairwise_map, List.pairwise_iff_getElem]
    intro i j hi hj hij
    have h1 := lt_no (hs i j (Nat.zero_le _) hij (by simpa [hd's] using hj))
    rw [getElem!_pos d' i (by simpa using hi), getElem!_pos d' j (by simpa using hj)] at h1
    obtain ⟨p, hp1, e1⟩ := hpad' _ (List.getElem_mem hi)
    obtain ⟨q, hq1, e2⟩ := hpad' _ (List.getElem_mem hj)
    rw [Array.getElem_toList] at e1 e2
    rw [Array.getElem_toList, Array.getElem_toList, e1, e2, unpad (hok p hp1) hN, unpad (hok q hq1) hN]
    rw [e1, e2, pad_ord (hok q hq1) (hok p hp1) hN] at h1
    exact h1
  · exact Nat.lt_of_lt_of_le hlt.2 (grownBy_els (enc := ele) d').size
  · intro i p hi k u hu
    rw [List.getElem?_map] at hi
    cases hx : d'.toList[i]? with
    | none => rw [hx] at hi; cases hi
    | some x =>
      rw [hx] at hi
      injection hi with hi
      obtain ⟨q, hq, rfl⟩ := hpad' x (List.mem_of_getElem? hx)
      have hi : (padE q).1.take N = p := hi
      rw [unpad (hok q hq) hN] at hi
      subst hi
      have hil := (List.getElem?_eq_some_iff.1 hx).1
      have hkl := (List.getElem?_eq_some_iff.1 hu).1
      have hc := (hH2.cell (i := i) (c := k) (by simpa using hil) (by rw [eof_len] at hkl; exact hkl)).1
      have hdi : d'[i]! = padE q := by
        rw [getElem!_pos d' i (by simpa using hil)]
        have := (List.getElem?_eq_some_iff.1 hx).2
        rw [Array.getElem_toList] at this
        exact this
      rw [hdi, padE_ele (hok q hq) hN, getElem!_pos (eof q).toList k hkl, (List.getElem?_eq_some_iff.1 hu).2, Nat.zero_add] at hc
      exact hc
end Go.Proofs.Ytobchecnfkocdaa
