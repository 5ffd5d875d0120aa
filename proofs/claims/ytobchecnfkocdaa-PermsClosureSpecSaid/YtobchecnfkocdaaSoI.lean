/- slices.Sort of a row of numbers; Orbits. -/
import Derived.Test.YtobchecnfkocdaaShI
import Derived.Test.YtobchecnfkocdaaOr
import Derived.Sort.OwnSortedInts
namespace Go.Proofs.Ytobchecnfkocdaa
open Go.RowKit
set_option linter.unusedVariables false
set_option linter.unusedSimpArgs false

theorem iv_eq : iv = Value.int .i64 := rfl
theorem sortI : SortI := by
  intro B g n c l w ho hn
  have hl : l.length = n := by have := ho.1; rw [List.length_map] at this; omega
  subst hl
  rw [iv_eq] at *
  rcases ho.2 with ⟨hv, _⟩ | ⟨g', cap, cur, hv, hB, hg, h1, h2, h3, h4⟩
  · cases hv
  · cases hv
    rw [Nat.mul_one] at h4
    refine (slices_Sort_int g 0 c l w (holds_of_blockI hg h4) (heap_lt hg) (by omega)).mono ?_
    rintro e w' ⟨rfl, m, os, rfl⟩
    exact ⟨rfl, ownsRow_sortedI (List.length_mergeSort _) hB hg h1 h2 h3, grownBy_sortedI _⟩

theorem own_mono {w : World} {B B' : Nat} {e : TypeId} {size : Nat} {v : Value} {n : Nat} {xs : List Value} (h : w.ownsRow B e size v n xs) (hb : B' ≤ B) : w.ownsRow B' e size v n xs := by
  refine ⟨h.1, ?_⟩
  rcases h.2 with h1 | ⟨g, cap, cur, h1, h2, h3⟩
  · exact .inl h1
  · exact .inr ⟨g, cap, cur, h1, Nat.le_trans hb h2, h3⟩
/-- What Orbits hands back. -/
def OrbP (n : Int) (gens : List (List Int)) (w : World) (e : Ending) (w' : World) : Prop :=
  (cge n gens ≠ 0 ∧ e = .returned (.tuple #[.slice none 0 0, .int .i64 (cge n gens)]) ∧ Below w.heap.size w w') ∨
  (cge n gens = 0 ∧ ∃ (N : Nat) (gs : List (List Nat)), n = (N : Int) ∧ N ≤ 256 ∧ gens = gs.map ints ∧ (∀ g ∈ gs, Pm N g) ∧ ∃ A m c, e = .returned (.tuple #[.slice A m c, .int .i64 0]) ∧ OL w.heap.size w' A m c ((orbs N gs N).map ints) ∧ Below w.heap.size w w')
theorem cge_ok {n : Int} {gens : List (List Int)} (h : cge n gens = 0) : ∃ (N : Nat) (gs : List (List Nat)), n = (N : Int) ∧ N ≤ 256 ∧ gens = gs.map ints ∧ (∀ g ∈ gs, Pm N g) ∧ gens.length ≤ 1024 := by
  unfold cge at h
  by_cases q1 : 0 ≤ n ∧ n ≤ 256
  case neg => rw [if_pos q1] at h; omega
  rw [if_neg (fun k => k q1)] at h
  by_cases q2 : 1024 < gens.length
  case pos => rw [if_pos q2] at h; omega
  rw [if_neg q2] at h
  by_cases q3 : gens.all (fun p => isp p n) = true
  case neg => rw [if_neg q3] at h; omega
  obtain ⟨N, rfl⟩ : ∃ N : Nat, n = (N : Int) := ⟨n.toNat, by omega⟩
  have hall := List.all_eq_true.1 q3
  have hex : ∀ p ∈ gens, ∃ q, p = ints q ∧ Pm N q := fun p hp => by
    have := hall p hp
    rw [isp_isr, Bool.and_eq_true] at this
    exact isr_ints (by first | exact this.1 | exact this.2)
  have hin : ∀ p ∈ gens, ints (p.map Int.toNat) = p ∧ Pm N (p.map Int.toNat) := fun p hp => by
    obtain ⟨q, rfl, hq⟩ := hex p hp
    have : (ints q).map Int.toNat = q := by
      unfold ints
      rw [List.map_map]
      exact (List.map_congr_left fun x _ => by simp).trans (List.map_id q)
    rw [this]
    exact ⟨rfl, hq⟩
  refine ⟨N, gens.map (List.map Int.toNat), rfl, by omega, ?_, fun g hg => ?_, by omega⟩
  · rw [List.map_map]
    exact ((List.map_congr_left fun p hp => (hin p hp).1).trans (List.map_id gens)).symm
  · obtain ⟨p, hp, rfl⟩ := List.mem_map.1 hg
    exact (hin p hp).2
set_option maxHeartbeats 4000000 in
set_option maxRecDepth 100000 in
theorem Orbits_any (n : Int) (A : Option Addr) (c : Nat) (gens : List (List Int)) (w : World) (hA : RI w A gens c) :
    Calls Try.prog 21 #[.int .i64 n, .slice A gens.length c] w (OrbP n gens w) := by
  have HC := Lib.hid (checkGens_any n A c gens w hA)
  have HS := Lib.hid hA
  obtain ⟨o, ho⟩ : ∃ o, cge n gens = o := ⟨_, rfl⟩
  have HO := Lib.hid ho
  rw [ho] at HC
  by_cases q : o = 0
  case neg =>
    have d1 : (o != 0) = true := by rw [bne_iff_ne]; exact q
    have HQ := Lib.hid q
    generalize gens.length = L at *
    clear hA ho q
    go_enter Try.func21, Try.ntmps21
    go_wp2_with fail
    refine HC.out.mono ?_
    rintro e w1 ⟨rfl, hb⟩
    have HB := Lib.hid hb
    clear hb
    go_wp2_with fail
    go_ret2
    exact .inl ⟨by rw [HO.out]; exact HQ.out, by rw [HO.out]; rfl, HB.out⟩
  subst q
  obtain ⟨N, gs, rfl, hN, hgs, hpm, hlen⟩ := cge_ok ho
  have HK := Lib.hid (And.intro hgs hpm)
  have HR := Lib.hid (fun V (hV : Below w.heap.size w V) => orbitsOf_any sortI N A c gs V hN hpm (by rw [← hgs]; exact hA.up hV))
  have hgl : gens.length = gs.length := by rw [hgs, List.length_map]
  rw [hgl] at HC ⊢
  generalize gs.length = L at *
  clear hA ho hgs hpm hlen hgl
  go_enter Try.func21, Try.ntmps21
  go_wp2_with fail
  refine HC.out.mono ?_
  rintro e w1 ⟨rfl, hb⟩
  have HB := Lib.hid hb
  clear hb
  go_wp2_with fail
  refine (HR.out w1 HB.out).mono ?_
  rintro e w2 ⟨A', m, c', rfl, hol, hb⟩
  have HF := Lib.hid (And.intro hol (HB.out.trans (hb.mono HB.out.size)))
  have hB2 := Lib.hid HB.out.size
  clear hol hb
  go_wp2_with fail
  go_ret2
  refine .inr ⟨HO.out, N, gs, rfl, hN, HK.out.1, HK.out.2, A', m, c', rfl, ?_, HF.out.2⟩
  obtain ⟨h0, vs, h1, h2⟩ := HF.out.1
  exact ⟨h0, vs, own_mono h1 hB2.out, h2⟩
end Go.Proofs.Ytobchecnfkocdaa
