/- The reference's Find. -/
import Derived.Test.YtobchecnfkocdaaRi
import Derived.Test.YtobchecnfkocdaaPgC
namespace Go.Proofs.Ytobchecnfkocdaa
open Go.RowKit
set_option linter.unusedVariables false
set_option linter.unusedSimpArgs false

/-- The place of a list among lists in strictly increasing order. -/
def Plc (ls : List (List Int)) (p : List Int) (at_ : Nat) : Prop :=
  at_ ≤ ls.length ∧ (∀ i q, i < at_ → ls[i]? = some q → ord q p = -1) ∧ (∀ i q, at_ ≤ i → ls[i]? = some q → ord q p ≠ -1)
theorem srt_lt {ls : List (List Int)} (h : Srt ls) {i j : Nat} {a b : List Int} (hij : i < j) (ha : ls[i]? = some a) (hb : ls[j]? = some b) : ord a b = -1 := by
  obtain ⟨h1, rfl⟩ := List.getElem?_eq_some_iff.1 ha
  obtain ⟨h2, rfl⟩ := List.getElem?_eq_some_iff.1 hb
  exact List.pairwise_iff_getElem.1 h i j h1 h2 hij
theorem plc_mem {ls : List (List Int)} {p : List Int} {n : Nat} (hp : Plc ls p n) (hs : Srt ls) : p ∈ ls ↔ ∃ q, ls[n]? = some q ∧ ord q p = 0 := by
  obtain ⟨h1, h2, h3⟩ := hp
  constructor
  · intro h
    obtain ⟨i, hi, e⟩ := List.getElem_of_mem h
    have hg : ls[i]? = some p := by rw [List.getElem?_eq_getElem hi, e]
    have h4 : n ≤ i := by
      rcases Nat.lt_or_ge i n with h | h
      · have := h2 i p h hg
        rw [ord_self] at this
        omega
      · exact h
    by_cases h5 : n = i
    · subst h5
      exact ⟨p, hg, ord_self p⟩
    · have hg2 : ls[n]? = some ls[n] := List.getElem?_eq_getElem (by omega)
      exact absurd (srt_lt hs (by omega) hg2 hg) (h3 n _ (Nat.le_refl _) hg2)
  · rintro ⟨q, hq, e⟩
    rw [← ord_zero e]
    exact List.mem_of_getElem? hq
def FindP (ls : List (List Int)) (p : List Int) (w : World) (e : Ending) (w' : World) : Prop :=
  ∃ n : Nat, e = .returned (.tuple #[.int .i64 (n : Int), .bool (decide (p ∈ ls))]) ∧ Plc ls p n ∧ Below w.heap.size w w'

set_option maxHeartbeats 4000000 in
set_option maxRecDepth 100000 in
theorem find_any (A : Option Addr) (c : Nat) (ls : List (List Int)) (B : Option Addr) (d : Nat) (p : List Int) (w : World) (hA : RI w A ls c) (hB : Si w B p d) (hs : Srt ls) (hl : ls.length ≤ 1000000) :
    Calls Try.prog 27 #[.slice A ls.length c, .slice B p.length d] w (FindP ls p w) := by
  have HS := Lib.hid (And.intro hA hB)
  have HT := Lib.hid hs
  obtain ⟨n, hn⟩ : ∃ n, ls.length = n := ⟨_, rfl⟩
  have HN := Lib.hid hn
  obtain ⟨pl, hpl⟩ : ∃ pl, p.length = pl := ⟨_, rfl⟩
  have HP := Lib.hid hpl
  rw [hn] at hl ⊢
  rw [hpl]
  clear hA hB hs hn hpl
  go_enter Try.func27, Try.ntmps27
  go_wp2_with fail
  go_loopw [6, 7] (fun a b wr => ∃ lo hi : Nat, lo ≤ hi ∧ hi ≤ n ∧ a = .int .i64 (lo : Int) ∧ b = .int .i64 (hi : Int) ∧ (∀ i q, i < lo → ls[i]? = some q → ord q p = -1) ∧ (∀ i q, hi ≤ i → ls[i]? = some q → ord q p ≠ -1) ∧ Below w.heap.size w wr) (fun a b _ => (intOf b).toNat - (intOf a).toNat)
  case atStart => exact ⟨0, n, Nat.zero_le _, Nat.le_refl _, rfl, rfl, fun i q h => absurd h (by omega), fun i q h hq => by
    have := (List.getElem?_eq_some_iff.1 hq).1
    have := HN.out
    omega, Below.refl _ _⟩
  case round =>
    obtain ⟨lo, hi, h1, h2, rfl, rfl, h3, h4, hb⟩ := hrel
    have KR := Lib.hid (And.intro h3 (And.intro h4 hb))
    clear h3 h4 hb
    by_cases hlt : lo < hi
    case neg =>
      have hdj : decide ((lo : Int) < (hi : Int)) = false := decide_eq_false (by omega)
      obtain rfl : lo = hi := by omega
      have HPL := Lib.hid (show Plc ls p lo from ⟨by rw [HN.out]; exact h2, KR.out.1, KR.out.2.1⟩)
      by_cases hln : lo < n
      case neg =>
        have hd2 : decide ((lo : Int) < (n : Int)) = false := decide_eq_false (by omega)
        have HM := Lib.hid (show decide (p ∈ ls) = false from decide_eq_false (fun h => by
          obtain ⟨q, hq, _⟩ := (plc_mem HPL.out HT.out).1 h
          have := (List.getElem?_eq_some_iff.1 hq).1
          have := HN.out
          omega))
        go_wp2_with fail
        go_ret2
        exact ⟨lo, by rw [HM.out]; rfl, HPL.out, KR.out.2.2⟩
      have hd2 : decide ((lo : Int) < (n : Int)) = true := decide_eq_true (by omega)
      obtain ⟨q, hq⟩ : ∃ q, ls[lo]? = some q := ⟨_, List.getElem?_eq_getElem (by rw [HN.out]; exact hln)⟩
      obtain ⟨b, off, A', c', rfl, hbl, hc, hsi⟩ := HS.out.1.at_ hq
      have z0 := (KR.out.2.2.cell (p := ⟨b, off + lo, none⟩) hbl).trans hc
      have HO := Lib.hid (order_any A' c' q B d p wr (hsi.up KR.out.2.2) (HS.out.2.up KR.out.2.2))
      rw [HP.out] at HO
      have HM := Lib.hid (show decide (p ∈ ls) = decide (ord q p = 0) from by
        rw [decide_eq_decide, plc_mem HPL.out HT.out]
        constructor
        · rintro ⟨q', h1, h2⟩
          rw [hq] at h1
          injection h1 with h1
          rw [h1]
          exact h2
        · exact fun h => ⟨q, hq, h⟩)
      have i0 : (0 : Int) ≤ (lo : Int) := by omega
      have i1 : (lo : Int) < (n : Int) := by omega
      unfold QI at HO
      generalize ord q p = o at *
      generalize q.length = ql at *
      clear hq hbl hc hsi
      go_wp2_with fail
      refine HO.out.mono ?_
      rintro e w2 ⟨rfl, m, rfl⟩
      have HB := Lib.hid (KR.out.2.2.trans ((below_drewN wr m).mono KR.out.2.2.size))
      generalize wr.drewN m = W2 at *
      clear z0
      have HD := Lib.hid (show (o == 0) = decide (o = 0) from rfl)
      cases hoo : decide (o = 0) with
      | true =>
        rw [hoo] at HM HD
        have hz := HD.out
        have hz2 : o = 0 := of_decide_eq_true hoo
        subst hz2
        clear hoo
        go_wp2_with fail
        go_ret2
        exact ⟨lo, by rw [HM.out]; rfl, HPL.out, HB.out⟩
      | false =>
        rw [hoo] at HM HD
        have hz := HD.out
        clear hoo
        go_wp2_with fail
        go_ret2
        exact ⟨lo, by rw [HM.out]; rfl, HPL.out, HB.out⟩
    have hdj : decide ((lo : Int) < (hi : Int)) = true := decide_eq_true (by omega)
    obtain ⟨k, hk⟩ : ∃ k, (lo + hi) / 2 = k := ⟨_, rfl⟩
    have hk1 : lo ≤ k := by omega
    have hk2 : k < hi := by omega
    obtain ⟨s, hs⟩ : ∃ s, lo + hi = s := ⟨_, rfl⟩
    have hs0 : (lo : Int) + (hi : Int) = (s : Int) := by omega
    have hq2 : Int.tdiv (s : Int) 2 = (k : Int) := by rw [Int.tdiv_eq_ediv_of_nonneg (by omega)]; omega
    have hsl : s ≤ 2000000 := by omega
    obtain ⟨q, hq⟩ : ∃ q, ls[k]? = some q := ⟨_, List.getElem?_eq_getElem (by rw [HN.out]; omega)⟩
    obtain ⟨b, off, A', c', rfl, hbl, hc, hsi⟩ := HS.out.1.at_ hq
    have z0 := (KR.out.2.2.cell (p := ⟨b, off + k, none⟩) hbl).trans hc
    have HO := Lib.hid (order_any A' c' q B d p wr (hsi.up KR.out.2.2) (HS.out.2.up KR.out.2.2))
    rw [HP.out] at HO
    have i0 : (0 : Int) ≤ (k : Int) := by omega
    have i1 : (k : Int) < (n : Int) := by omega
    have HQ := Lib.hid hq
    unfold QI at HO
    obtain ⟨o, ho⟩ : ∃ o, ord q p = o := ⟨_, rfl⟩
    rw [ho] at HO
    have HOO := Lib.hid ho
    generalize q.length = ql at *
    clear hq hbl hc hsi ho hs hk
    go_wp2_with fail
    refine HO.out.mono ?_
    rintro e w2 ⟨rfl, m, rfl⟩
    have HB := Lib.hid (KR.out.2.2.trans ((below_drewN wr m).mono KR.out.2.2.size))
    generalize wr.drewN m = W2 at *
    clear z0 hs0 hq2
    by_cases hoo : o < 0
    · have d1 : decide (o < 0) = true := decide_eq_true hoo
      have hm1 : o = -1 := by
        rcases ord_values q p with h | h | h <;> (have := HOO.out; omega)
      have HM1 := Lib.hid hm1
      clear hm1
      go_wp2_with fail
      go_roundw
      case rel => exact ⟨k + 1, hi, by omega, h2, by go_num, rfl, fun i q' hi hq' => by
        by_cases e : i = k
        · subst e
          rw [HQ.out] at hq'
          injection hq' with hq'
          rw [← hq', HOO.out, HM1.out]
        · have h5 := srt_lt HT.out (show i < k by omega) hq' HQ.out
          exact ord_trans h5 (by rw [HOO.out, HM1.out]), KR.out.2.1, HB.out⟩
      case measure => simp [intOf]; omega
    · have d1 : decide (o < 0) = false := decide_eq_false hoo
      have HN1 := Lib.hid (show o ≠ -1 by omega)
      go_wp2_with fail
      go_roundw
      case rel => exact ⟨lo, k, hk1, by omega, rfl, rfl, KR.out.1, fun i q' hi hq' h => by
        by_cases e : i = k
        · subst e
          rw [HQ.out] at hq'
          injection hq' with hq'
          rw [← hq', HOO.out] at h
          exact HN1.out h
        · have h5 := srt_lt HT.out (show k < i by omega) HQ.out hq'
          have h6 := ord_trans h5 h
          rw [HOO.out] at h6
          exact HN1.out h6, HB.out⟩
      case measure => simp [intOf]; omega
end Go.Proofs.Ytobchecnfkocdaa
