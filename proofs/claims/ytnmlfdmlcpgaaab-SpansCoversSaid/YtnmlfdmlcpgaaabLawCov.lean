/- The law SpansCovers. -/
import Derived.Test.YtnmlfdmlcpgaaabAlg
namespace Go.Proofs.Ytnmlfdmlcpgaaab
open Go.RowKit
set_option linter.unusedVariables false

theorem cov_ge {l : List (Int × Int)} {a b : Int} (h : b ≤ a) : cov l (a, b) = true := by unfold cov; simp [h]
theorem cov_out {l : List (Int × Int)} {a b : Int} (h : a < b) (h2 : 1024 < b) : cov l (a, b) = false := by
  unfold cov
  simp only []
  rw [if_neg (by omega), if_pos (by simp [h2])]
theorem cov_iff {l : List (Int × Int)} {p q : Nat} (hq : q ≤ 1024) : cov l ((p : Int), (q : Int)) = true ↔ ∀ k, p ≤ k → k < q → hasB l k = true := by
  unfold cov
  simp only []
  by_cases h : (q : Int) ≤ (p : Int)
  · rw [if_pos h]
    constructor
    · intro _ k h1 h2; omega
    · intro _; rfl
  · rw [if_neg h, if_neg (by simp; omega), decide_eq_true_eq]
    constructor
    · intro H k h1 h2
      have := H (k - p) (by omega)
      rw [show (p : Int).toNat + (k - p) = k by omega] at this
      exact this
    · intro H j hj
      exact H _ (by omega) (by omega)
theorem cov_minus {l : List (Int × Int)} {p q : Nat} (hq : q ≤ 1024) : cov l ((p : Int), (q : Int)) = decide ((Mn [((p : Int), (q : Int))] l).length = 0) := by
  rw [Bool.eq_iff_iff, cov_iff hq, decide_eq_true_eq, List.length_eq_zero_iff]
  unfold Mn
  rw [nl_nil]
  have hb : ∀ k, hasB [((p : Int), (q : Int))] k = true ↔ p ≤ k ∧ k < q := by
    intro k
    rw [hasB_iff]
    simp
  constructor
  · intro H k hk
    by_cases e : hasB [((p : Int), (q : Int))] k = true
    · have := H k ((hb k).1 e).1 ((hb k).1 e).2
      rw [this]; simp
    · simp at e; simp [e]
  · intro H k h1 h2
    have := H k (by omega)
    rw [(hb k).2 ⟨h1, h2⟩] at this
    simpa using this
theorem cov_cut {l : List (Int × Int)} {p m q : Nat} (hq : q ≤ 1024) (h1 : p ≤ m) (h2 : m ≤ q) : cov l ((p : Int), (q : Int)) = (cov l ((p : Int), (m : Int)) && cov l ((m : Int), (q : Int))) := by
  rw [Bool.eq_iff_iff, Bool.and_eq_true, cov_iff hq, cov_iff hq, cov_iff (by omega)]
  constructor
  · intro H
    exact ⟨fun k k1 k2 => H k k1 (by omega), fun k k1 k2 => H k (by omega) k2⟩
  · rintro ⟨H1, H2⟩ k k1 k2
    by_cases e : k < m
    · exact H1 k k1 e
    · exact H2 k (by omega) k2

theorem u16_in {x : Int} (h : (Lit.int IntKind.u16 x).wf = true) : 0 ≤ x ∧ x < 65536 := by
  simp [Lit.wf, IntKind.min, IntKind.max, IntKind.signed, IntKind.bits] at h
  omega
theorem sl1 (w : World) (x y : Int) : SlN (w.alloc (.cells #[.int .i64 x, .int .i64 y] 31)) (some ⟨w.heap.size, 0, none⟩) [(x, y)] 1 1 := by
  refine ⟨rfl, by omega, fun _ => ⟨w.heap.size, 0, rfl, by simp, fun j s hs => ?_⟩, by simp, by unfold maxLen; omega⟩
  have hj : j = 0 := by
    have := (List.getElem?_eq_some_iff.1 hs).1
    simp at this
    omega
  subst hj
  simp at hs
  subst hs
  have h := Box.new w #[.int .i64 x, .int .i64 y] 31
  exact ⟨h.cell 0, h.cell 1⟩

set_option maxHeartbeats 4000000 in
set_option maxRecDepth 100000 in
theorem lawCovers_few (Aa : Option Addr) (a : List (Int × Int)) (na ca : Nat) (x y z : Nat) (hx : x < 65536) (hy : y < 65536) (hz : z < 65536) (w0 : World) (ha : SlG w0 Aa a na ca) (fa : na ≤ 40) :
    Calls Try.prog 5 #[.slice Aa na ca, .int .u16 x, .int .u16 y, .int .u16 z] w0 (Rb true w0) := by
  obtain ⟨p, hp⟩ : ∃ p : Nat, (x : Int) % 1025 = (p : Int) := ⟨x % 1025, by omega⟩
  obtain ⟨q, hq⟩ : ∃ q : Nat, (y : Int) % 1025 = (q : Int) := ⟨y % 1025, by omega⟩
  have bp : p < 1025 := by omega
  have bq : q < 1025 := by omega
  have B0 := Below.refl w0.heap.size w0
  have Sa := ha.few fa
  clear ha
  go_enter Try.func5, Try.ntmps5
  go_wp2_with fail
  refine (sane_any w0).mono ?_
  rintro e w1 ⟨rfl, b⟩
  have B1 := B0.trans (b.mono B0.size)
  have Sa := Sa.up b
  clear b B0
  go_wp2_with fail
  refine (fewT _ fa).mono ?_
  rintro e w2 ⟨rfl, b⟩
  have B2 := B1.trans (b.mono B1.size)
  have Sa := Sa.up b
  clear b B1
  go_wp2_with fail
  simp only [hp, hq]
  clear hp hq
  have hX := Lib.hid (Box.new w2 #[.int .i64 (p : Int), .int .i64 (q : Int)] 31)
  have bA := (Below.refl w2.heap.size w2).alloc (Nat.le_refl _) (.cells #[.int .i64 (p : Int), .int .i64 (q : Int)] 31)
  have B2 := B2.alloc B2.size (.cells #[.int .i64 (p : Int), .int .i64 (q : Int)] 31)
  have Sa := Sa.up bA
  clear bA
  generalize w2.heap.size = g at *
  generalize w2.alloc (.cells #[.int .i64 (p : Int), .int .i64 (q : Int)] 31) = w3 at *
  by_cases hpq : (q : Int) ≤ (p : Int)
  · have hc := Lib.hid (cov_ge (l := a) hpq)
    refine (coversC p q Sa true hc.out).mono ?_
    rintro e w4 ⟨rfl, b⟩
    have B4 := B2.trans (b.mono B2.size)
    clear b B2
    go_wp2_with fail
    go_ret
    exact ⟨rfl, B4⟩
  · have d1 : decide ((q : Int) ≤ (p : Int)) = false := decide_eq_false hpq
    obtain ⟨m, hm⟩ : ∃ m : Nat, (p : Int) + (z : Int) % ((q : Int) - (p : Int) + 1) = (m : Int) := ⟨p + z % (q - p + 1), by
      have : (q : Int) - (p : Int) + 1 = ((q - p + 1 : Nat) : Int) := by omega
      rw [this]
      omega⟩
    have hpm : p ≤ m ∧ m ≤ q := by
      have h1 := Int.emod_nonneg (z : Int) (b := (q : Int) - (p : Int) + 1) (by omega)
      have h2 := Int.emod_lt_of_pos (z : Int) (b := (q : Int) - (p : Int) + 1) (by omega)
      omega
    have HM := Lib.hid (cov_minus (l := a) (p := p) (q := q) (by omega))
    have HC := Lib.hid (cov_cut (l := a) (p := p) (m := m) (q := q) (by omega) hpm.1 hpm.2)
    have HO := Lib.hid (cov_out (l := a) (a := p) (b := 1025 + z) (by omega) (by omega))
    obtain ⟨n1, Hn1⟩ := lenH (Mn [((p : Int), (q : Int))] a)
    rw [Hn1.out] at HM
    generalize hR : cov a ((p : Int), (q : Int)) = R at *
    have HR := Lib.hid hR
    clear hR
    refine (coversC p q Sa R HR.out).mono ?_
    rintro e w4 ⟨rfl, b⟩
    have B4 := B2.trans (b.mono B2.size)
    have Sa := Sa.up b
    have hX := Lib.hid (hX.out.below b)
    clear b B2
    have hx := hX.out
    have c0 := hX.out.cell 0
    have c1 := hX.out.cell 1
    simp only [List.getElem?_toArray, List.getElem?_cons_zero, List.getElem?_cons_succ] at c0 c1
    clear hx
    go_wp2_with fail
    have S1 := sl1 w4 p q
    have bA := (Below.refl w4.heap.size w4).alloc (Nat.le_refl _) (.cells #[.int .i64 (p : Int), .int .i64 (q : Int)] 31)
    have B4 := B4.trans (bA.mono B4.size)
    have Sa := Sa.up bA
    clear bA hX c0 c1
    generalize w4.heap.size = g4 at *
    generalize w4.alloc (.cells #[.int .i64 (p : Int), .int .i64 (q : Int)] 31) = w5 at *
    refine (minusD S1 Sa Hn1).mono ?_
    rintro e w6 ⟨A6, c6, rfl, S6, b⟩
    have B6 := B4.trans (b.mono B4.size)
    have Sa := Sa.up b
    clear b B4 S1 S6 Hn1
    generalize hR1 : cov a ((p : Int), (m : Int)) = R1 at *
    generalize hR2 : cov a ((m : Int), (q : Int)) = R2 at *
    have HR1 := Lib.hid hR1
    have HR2 := Lib.hid hR2
    clear hR1 hR2
    cases R
    · have hn : ¬ n1 = 0 := by have := HM.out; simpa using this
      obtain ⟨n2, rfl⟩ : ∃ n2, n1 = n2 + 1 := ⟨n1 - 1, by omega⟩
      clear HM hn
      go_wp2_with fail
      cases R1
      · skip
        refine (coversC p m Sa false HR1.out).mono ?_
        rintro e w7 ⟨rfl, b⟩
        have B7 := B6.trans (b.mono B6.size)
        have Sa := Sa.up b
        clear b B6
        go_wp2_with fail
        refine (coversC p (1025 + z) Sa false HO.out).mono ?_
        rintro e w8 ⟨rfl, b⟩
        have B8 := B7.trans (b.mono B7.size)
        have Sa := Sa.up b
        clear b B7
        go_wp2_with fail
        go_ret
        exact ⟨rfl, B8⟩
      · have hR2 : R2 = false := by have := HC.out; simpa using this.symm
        subst hR2
        refine (coversC p m Sa true HR1.out).mono ?_
        rintro e w7 ⟨rfl, b⟩
        have B7 := B6.trans (b.mono B6.size)
        have Sa := Sa.up b
        clear b B6
        go_wp2_with fail
        refine (coversC m q Sa false HR2.out).mono ?_
        rintro e w8 ⟨rfl, b⟩
        have B8 := B7.trans (b.mono B7.size)
        have Sa := Sa.up b
        clear b B7
        go_wp2_with fail
        refine (coversC p (1025 + z) Sa false HO.out).mono ?_
        rintro e w9 ⟨rfl, b⟩
        have B9 := B8.trans (b.mono B8.size)
        have Sa := Sa.up b
        clear b B8
        go_wp2_with fail
        go_ret
        exact ⟨rfl, B9⟩
    · have hn : n1 = 0 := by have := HM.out; simpa using this
      subst hn
      have hR : R1 = true ∧ R2 = true := by have := HC.out.symm; simpa using this
      obtain ⟨rfl, rfl⟩ := hR
      go_wp2_with fail
      refine (coversC p m Sa true HR1.out).mono ?_
      rintro e w7 ⟨rfl, b⟩
      have B7 := B6.trans (b.mono B6.size)
      have Sa := Sa.up b
      clear b B6
      go_wp2_with fail
      refine (coversC m q Sa true HR2.out).mono ?_
      rintro e w8 ⟨rfl, b⟩
      have B8 := B7.trans (b.mono B7.size)
      have Sa := Sa.up b
      clear b B7
      go_wp2_with fail
      refine (coversC p (1025 + z) Sa false HO.out).mono ?_
      rintro e w9 ⟨rfl, b⟩
      have B9 := B8.trans (b.mono B8.size)
      have Sa := Sa.up b
      clear b B8
      go_wp2_with fail
      go_ret
      exact ⟨rfl, B9⟩

set_option maxHeartbeats 4000000 in
set_option maxRecDepth 100000 in
theorem lawCovers_many (Aa : Option Addr) (na ca : Nat) (x y z : Int) (w0 : World) (fa : ¬ na ≤ 40) :
    Calls Try.prog 5 #[.slice Aa na ca, .int .u16 x, .int .u16 y, .int .u16 z] w0 (Rb true w0) := by
  have B0 := Below.refl w0.heap.size w0
  go_enter Try.func5, Try.ntmps5
  go_wp2_with fail
  refine (sane_any w0).mono ?_
  rintro e w1 ⟨rfl, b⟩
  have B1 := B0.trans (b.mono B0.size)
  clear b B0
  go_wp2_with fail
  refine (fewF _ fa).mono ?_
  rintro e w2 ⟨rfl, b⟩
  have B2 := B1.trans (b.mono B1.size)
  clear b B1
  go_wp2_with fail
  go_ret
  exact ⟨rfl, B2⟩
theorem lawCovers_any (Aa : Option Addr) (a : List (Int × Int)) (na ca : Nat) (x y z : Int) (w0 : World) (ha : SlG w0 Aa a na ca) (hx : (Lit.int IntKind.u16 x).wf = true) (hy : (Lit.int IntKind.u16 y).wf = true) (hz : (Lit.int IntKind.u16 z).wf = true) :
    Calls Try.prog 5 #[.slice Aa na ca, .int .u16 x, .int .u16 y, .int .u16 z] w0 (Rb true w0) := by
  have hx := u16_in hx
  have hy := u16_in hy
  have hz := u16_in hz
  obtain ⟨x, rfl⟩ : ∃ n : Nat, x = (n : Int) := ⟨x.toNat, by omega⟩
  obtain ⟨y, rfl⟩ : ∃ n : Nat, y = (n : Int) := ⟨y.toNat, by omega⟩
  obtain ⟨z, rfl⟩ : ∃ n : Nat, z = (n : Int) := ⟨z.toNat, by omega⟩
  by_cases fa : na ≤ 40
  · exact lawCovers_few Aa a na ca x y z (by omega) (by omega) (by omega) w0 ha fa
  · exact lawCovers_many Aa na ca _ _ _ w0 fa
end Go.Proofs.Ytnmlfdmlcpgaaab
