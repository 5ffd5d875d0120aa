/- The reference's SameAll and Few. -/
import Derived.Test.YtobchecnfkocdaaRi
namespace Go.Proofs.Ytobchecnfkocdaa
open Go.RowKit
set_option linter.unusedVariables false
set_option linter.unusedSimpArgs false

theorem ext_take {α : Type} {a b : List α} {L : Nat} (ha : a.length = L) (hb : b.length = L) (h : a.take L = b.take L) : a = b := by
  rw [← List.take_of_length_le (Nat.le_of_eq ha), h, List.take_of_length_le (Nat.le_of_eq hb)]

set_option maxHeartbeats 4000000 in
set_option maxRecDepth 100000 in
theorem sameAll_any (A : Option Addr) (c : Nat) (ls : List (List Int)) (B : Option Addr) (d : Nat) (ms : List (List Int)) (w : World) (hA : RI w A ls c) (hB : RI w B ms d) :
    Calls Try.prog 23 #[.slice A ls.length c, .slice B ms.length d] w (fun e w' => e = .returned (.bool (decide (ls = ms))) ∧ ∃ m, w' = w.drewN m) := by
  have hl1 := hA.le
  have hl2 := hB.le
  have HS := Lib.hid (And.intro hA hB)
  clear hA hB
  by_cases q1 : ls.length = ms.length
  case neg =>
    rw [decide_eq_false (fun e => q1 (by rw [e]))]
    have d1 : ((ls.length : Int) != (ms.length : Int)) = true := by rw [bne_iff_ne]; omega
    have d2 : ¬ (ls.length : Int) = (ms.length : Int) := by omega
    clear q1
    generalize ls.length = n at *
    generalize ms.length = m at *
    go_enter Try.func23, Try.ntmps23
    go_wp2_with fail
    go_ret
    exact ⟨rfl, 0, rfl⟩
  obtain ⟨o, ho⟩ : ∃ o, decide (ls = ms) = o := ⟨_, rfl⟩
  have HO := Lib.hid ho
  rw [ho]
  obtain ⟨L, hL⟩ : ∃ L, ls.length = L := ⟨_, rfl⟩
  have hM : ms.length = L := by omega
  have HL := Lib.hid (And.intro hL hM)
  rw [hL] at hl1 ⊢
  rw [hM]
  have d1 : ((L : Int) != (L : Int)) = false := by simp
  clear ho hL hM q1 hl2
  go_enter Try.func23, Try.ntmps23
  go_wp2_with fail
  go_loopw [5] (fun i wr => ∃ j : Nat, j ≤ L ∧ i = .int .i64 (j : Int) ∧ ls.take j = ms.take j ∧ ∃ q, wr = w.drewN q) (fun i _ => L - (intOf i).toNat)
  case atStart => exact ⟨0, Nat.zero_le _, rfl, rfl, 0, rfl⟩
  case round =>
    obtain ⟨j, hj, rfl, hpre, q, rfl⟩ := hrel
    have KR := Lib.hid hpre
    clear hpre
    by_cases hlt : j < L
    case neg =>
      have hdj : decide ((j : Int) < (L : Int)) = false := decide_eq_false (by omega)
      obtain rfl : j = L := by omega
      have hz : true = o := by rw [← HO.out, decide_eq_true (ext_take HL.out.1 HL.out.2 KR.out)]
      have HZ := Lib.hid hz
      clear hz
      go_wp2_with fail
      go_ret
      exact ⟨ret_bool HZ.out, q, rfl⟩
    have hdj : decide ((j : Int) < (L : Int)) = true := decide_eq_true (by omega)
    obtain ⟨l, hl⟩ : ∃ l, ls[j]? = some l := ⟨_, List.getElem?_eq_getElem (by rw [HL.out.1]; exact hlt)⟩
    obtain ⟨m, hm⟩ : ∃ m, ms[j]? = some m := ⟨_, List.getElem?_eq_getElem (by rw [HL.out.2]; exact hlt)⟩
    obtain ⟨b1, o1, A1, c1, rfl, hb1, z0, s1⟩ := HS.out.1.at_ hl
    obtain ⟨b2, o2, A2, c2, rfl, hb2, z1, s2⟩ := HS.out.2.at_ hm
    have z0 : (w.drewN q).cell? ⟨b1, o1 + j, none⟩ = some (.slice A1 l.length c1) := z0
    have z1 : (w.drewN q).cell? ⟨b2, o2 + j, none⟩ = some (.slice A2 m.length c2) := z1
    have hsm : ∀ k, Calls Try.prog 17 #[.slice A1 l.length c1, .slice A2 m.length c2] ((w.drewN q).drewN k) (fun e w' => e = .returned (.bool (decide (l = m))) ∧ ∃ r, w' = ((w.drewN q).drewN k).drewN r) := fun k => same_any A1 c1 l A2 c2 m _ (s1.up (show Below w.heap.size w _ from ⟨rfl, rfl, rfl, Nat.le_refl _, fun _ _ => rfl⟩)) (s2.up (show Below w.heap.size w _ from ⟨rfl, rfl, rfl, Nat.le_refl _, fun _ _ => rfl⟩))
    have hvq : ∀ k, ∃ r, (w.drewN q).drewN k = w.drewN r := fun k => ⟨q + k, World.drewN_drewN w q k⟩
    have HVQ := Lib.hid hvq
    clear hvq
    generalize w.drewN q = V at *
    have i0 : (0 : Int) ≤ (j : Int) := by omega
    have i1 : (j : Int) < (L : Int) := by omega
    have hfin : ∀ (r : Nat) (z : Bool), z = o → (Ending.returned (.bool z) = .returned (.bool o) ∧ ∃ m, V.drewN r = w.drewN m) := fun r z h => ⟨by rw [h], HVQ.out r⟩
    have HF := Lib.hid hfin
    generalize hln : l.length = ln at *
    generalize hmn : m.length = mn at *
    by_cases q2 : l = m
    case neg =>
      have hz : false = o := by
        rw [← HO.out, decide_eq_false]
        intro e
        rw [e, hm] at hl
        exact q2 (Option.some.inj hl).symm
      have HZ := Lib.hid hz
      simp only [decide_eq_false q2] at hsm
      have HSM := Lib.hid hsm
      clear hl hm hb1 hb2 s1 s2 hsm hfin hz q2 hln hmn
      go_upto_region 6 with fail
      go_quiet ((go_at_call 17; exact quietD (HSM.out _)))
      go_wp2_with fail
      go_ret
      exact HF.out _ _ HZ.out
    have HN := Lib.hid (show ls.take (j + 1) = ms.take (j + 1) from by rw [take_next hl, take_next hm, KR.out, q2])
    simp only [decide_eq_true q2] at hsm
    have HSM := Lib.hid hsm
    clear hl hm hb1 hb2 s1 s2 hsm hfin q2 hln hmn
    go_upto_region 6 with fail
    go_quiet ((go_at_call 17; exact quietD (HSM.out _)))
    go_wp2_with fail
    go_roundw
    case rel => exact ⟨j + 1, by omega, by go_num, HN.out, HVQ.out _⟩
    case measure => simp [intOf]; omega

/-- Few, where it is true. -/
def FewR (n : Int) (gens : List (List Int)) : Prop := (∀ p ∈ gens, p.length ≤ 24) ∧ (n ≤ 16 ∨ 256 < n) ∧ gens.length ≤ 6
def FewQ (n : Int) (gens : List (List Int)) (w : World) (e : Ending) (w' : World) : Prop := ∃ b : Bool, e = .returned (.bool b) ∧ w = w' ∧ (b = true → FewR n gens)
theorem FewQ.mk {n : Int} {gens : List (List Int)} {w : World} {b : Bool} (h : b = true → FewR n gens) : FewQ n gens w (.returned (.bool b)) w := ⟨b, rfl, rfl, h⟩
set_option maxHeartbeats 4000000 in
set_option maxRecDepth 100000 in
theorem few_any (n : Int) (A : Option Addr) (c : Nat) (gens : List (List Int)) (w : World) (hA : RI w A gens c) :
    Calls Try.prog 18 #[.int .i64 n, .slice A gens.length c] w (FewQ n gens w) := by
  have hl1 := hA.le
  have HS := Lib.hid hA
  clear hA
  obtain ⟨L, hL⟩ : ∃ L, gens.length = L := ⟨_, rfl⟩
  have HL := Lib.hid hL
  rw [hL] at hl1 ⊢
  clear hL
  go_enter Try.func18, Try.ntmps18
  go_wp2_with fail
  go_loopw [5] (fun i wr => ∃ j : Nat, j ≤ L ∧ i = .int .i64 (j : Int) ∧ (∀ p ∈ gens.take j, p.length ≤ 24) ∧ w = wr) (fun i _ => L - (intOf i).toNat)
  case atStart => exact ⟨0, Nat.zero_le _, rfl, by simp, rfl⟩
  case round =>
    obtain ⟨j, hj, rfl, hall, hw⟩ := hrel
    subst hw
    have KR := Lib.hid hall
    clear hall
    by_cases hlt : j < L
    case neg =>
      have hdj : decide ((j : Int) < (L : Int)) = false := decide_eq_false (by omega)
      obtain rfl : j = L := by omega
      have hg : ∀ p ∈ gens, p.length ≤ 24 := by
        have := KR.out
        rwa [List.take_of_length_le (by rw [HL.out]; exact Nat.le_refl _)] at this
      have HG := Lib.hid hg
      clear hg
      by_cases h1 : n ≤ 16
      · have e1 : decide (n ≤ 16) = true := decide_eq_true h1
        by_cases h3 : j ≤ 6
        · have e3 : decide ((j : Int) ≤ 6) = true := decide_eq_true (by omega)
          have e4 : (j : Int) ≤ 6 := by omega
          go_wp2_with fail
          go_ret
          exact FewQ.mk (fun _ => ⟨HG.out, .inl h1, by rw [HL.out]; exact h3⟩)
        · have e3 : decide ((j : Int) ≤ 6) = false := decide_eq_false (by omega)
          have e4 : ¬ (j : Int) ≤ 6 := by omega
          go_wp2_with fail
          go_ret
          exact FewQ.mk (fun h => by cases h)
      · have e1 : decide (n ≤ 16) = false := decide_eq_false h1
        by_cases h2 : 256 < n
        · have e2 : decide (256 < n) = true := decide_eq_true h2
          by_cases h3 : j ≤ 6
          · have e3 : decide ((j : Int) ≤ 6) = true := decide_eq_true (by omega)
            have e4 : (j : Int) ≤ 6 := by omega
            go_wp2_with fail
            go_ret
            exact FewQ.mk (fun _ => ⟨HG.out, .inr h2, by rw [HL.out]; exact h3⟩)
          · have e3 : decide ((j : Int) ≤ 6) = false := decide_eq_false (by omega)
            have e4 : ¬ (j : Int) ≤ 6 := by omega
            go_wp2_with fail
            go_ret
            exact FewQ.mk (fun h => by cases h)
        · have e2 : decide (256 < n) = false := decide_eq_false h2
          go_wp2_with fail
          go_ret
          exact FewQ.mk (fun h => by cases h)
    have hdj : decide ((j : Int) < (L : Int)) = true := decide_eq_true (by omega)
    obtain ⟨p, hp⟩ : ∃ p, gens[j]? = some p := ⟨_, List.getElem?_eq_getElem (by rw [HL.out]; exact hlt)⟩
    obtain ⟨b, off, A', c', rfl, hbl, z0, hs⟩ := HS.out.at_ hp
    have i0 : (0 : Int) ≤ (j : Int) := by omega
    have i1 : (j : Int) < (L : Int) := by omega
    obtain ⟨lp, hlp⟩ : ∃ lp, p.length = lp := ⟨_, rfl⟩
    rw [hlp] at z0
    by_cases h24 : 24 < lp
    · have e1 : decide ((24 : Int) < (lp : Int)) = true := decide_eq_true (by omega)
      have e2 : (24 : Int) < (lp : Int) := by omega
      clear hp hbl hs hlp
      go_wp2_with fail
      go_ret
      exact FewQ.mk (fun h => by cases h)
    · have e1 : decide ((24 : Int) < (lp : Int)) = false := decide_eq_false (by omega)
      have e2 : ¬ (24 : Int) < (lp : Int) := by omega
      have HN := Lib.hid (show ∀ q ∈ gens.take (j + 1), q.length ≤ 24 from fun q hq => by
        rw [take_next hp] at hq
        rcases List.mem_append.1 hq with h | h
        · exact KR.out q h
        · rw [List.mem_singleton.1 h]; omega)
      clear hp hbl hs hlp
      go_wp2_with fail
      go_roundw
      case rel => exact ⟨j + 1, by omega, by go_num, HN.out, trivial⟩
      case measure => simp [intOf]; omega
end Go.Proofs.Ytobchecnfkocdaa
