/- PermsClosed. -/
import Derived.Test.YtobchecnfkocdaaLawClo
namespace Go.Proofs.Ytobchecnfkocdaa
open Go.RowKit
set_option linter.unusedVariables false
set_option linter.unusedSimpArgs false

theorem RI.front {w : World} {A : Option Addr} {ls : List (List Int)} {c : Nat} (h : RI w A ls c) (k : Nat) : RI w A (ls.take k) c := by
  refine ⟨fun hp => ?_, by rw [List.length_take]; have := h.2.1; omega, h.2.2.1, fun e => ?_⟩
  · obtain ⟨b, off, e, h1, h2⟩ := h.1 (by rw [List.length_take] at hp; omega)
    refine ⟨b, off, e, h1, fun i l hi => h2 i l ?_⟩
    rw [List.getElem?_take] at hi
    split at hi
    · exact hi
    · cases hi
  · obtain ⟨e1, e2⟩ := h.2.2.2 e
    exact ⟨by rw [e1]; simp, e2⟩

set_option maxHeartbeats 8000000 in
set_option maxRecDepth 100000 in
theorem lawCld_any (n : Int) (A : Option Addr) (c : Nat) (gens : List (List Int)) (s : Int) (w : World) (hA : RI w A gens c) :
    Calls Try.prog 6 #[.int .i64 n, .slice A gens.length c, .int .i64 s] w (QB true w) := by
  have HSN := Lib.hid (sane_all w)
  unfold QB at HSN ⊢
  have HFW := Lib.hid (fun V (hV : Below w.heap.size w V) => few_any n A c gens V (hA.up hV))
  unfold FewQ at HFW
  have HCL := Lib.hid (fun V (hV : Below w.heap.size w V) => closure_any sortE n A c gens V (hA.up hV))
  have HRI := Lib.hid hA
  obtain ⟨L, hL⟩ : ∃ L, gens.length = L := ⟨_, rfl⟩
  have HLL := Lib.hid hL
  rw [hL] at HFW HCL ⊢
  clear hA hL
  go_enter Try.func6, Try.ntmps6
  go_wp2_with fail
  refine HSN.out.mono ?_
  rintro e w1 ⟨rfl, hb⟩
  have HB1 := Lib.hid hb
  clear hb HSN
  by_cases hn0 : n < 0
  · have d0 : decide (n < 0) = true := decide_eq_true hn0
    go_wp2_with fail
    go_ret
    exact ⟨rfl, HB1.out⟩
  have d0 : decide (n < 0) = false := decide_eq_false hn0
  go_wp2_with fail
  refine (HFW.out w1 HB1.out).mono ?_
  rintro e w2 ⟨b, rfl, rfl, hfew⟩
  cases b with
  | false =>
    go_wp2_with fail
    go_ret
    exact ⟨rfl, HB1.out⟩
  | true =>
  have HF := Lib.hid (hfew rfl)
  clear hfew HFW
  go_wp2_with fail
  refine (HCL.out w1 HB1.out).mono ?_
  intro e w3 hcl
  obtain ⟨E, hE⟩ : ∃ E, cge n gens = E := ⟨_, rfl⟩
  have HE := Lib.hid hE
  rcases hcl with ⟨h1, rfl, hb⟩ | ⟨h1, N, gs, hnN, hN, hgs, hpm, hq⟩
  · rw [hE] at h1 ⊢
    have HB3 := Lib.hid (HB1.out.trans (hb.mono HB1.out.size))
    have d2 : (E != 0) = true := by rw [bne_iff_ne]; exact h1
    clear hb h1 hE
    go_wp2_with fail
    go_ret
    exact ⟨rfl, HB3.out⟩
  · subst hnN hgs
    rcases hq with ⟨hbig, rfl, hb⟩ | ⟨A1, m, c1, ls, rfl, hol, hsr, hmem, hll, hb⟩
    · have HB3 := Lib.hid (HB1.out.trans (hb.mono HB1.out.size))
      clear hb h1 hE hbig
      go_wp2_with fail
      go_ret
      exact ⟨rfl, HB3.out⟩
    have hml : m = ls.length := by rw [← hol.1, List.length_map]
    have HM := Lib.hid (OrbM.mk (N := N) (gs := gs) (ls := ls) rfl (by have := HF.out.2.1; omega) hpm hsr hmem hll)
    have HV := Lib.hid (And.intro hol.ri (And.intro (HB1.out.trans (hb.mono HB1.out.size)) (And.intro hml (HRI.out.up (HB1.out.trans (hb.mono HB1.out.size))))))
    have hN16 : N ≤ 16 := HM.out.le
    have hm4 : m ≤ 4096 := by omega
    have hm0 : 0 < m := by rw [hml]; exact List.length_pos_of_mem ((hmem _).2 Gen.id)
    have hL6 : L ≤ 6 := by have h5 := HF.out.2.2; have h6 := HLL.out; omega
    have HGL := Lib.hid (show gs.length = L from by rw [← HLL.out, List.length_map])
    have HCD := Lib.hid (show Calls Try.prog 26 #[.int .i64 (N : Int), .slice A L c, .slice A1 m c1] w3 (QB true w3) from by
      have h := closed_any N gs ls A c A1 c1 w3 hN16 hpm hsr hmem hll (by rw [HGL.out]; omega) HV.out.2.2.2 HV.out.1
      rwa [← hml, HGL.out] at h)
    unfold QB at HCD
    clear hb hol hpm hsr hmem hll hml h1 hE HE HF HB1 d0 hn0 HCL
    have d1 : decide ((256 : Int) < (N : Int)) = false := decide_eq_false (by omega)
    have d2 : ¬ (256 : Int) < (N : Int) := by omega
    have d3 : ((m : Int) == 0) = false := by rw [beq_eq_false_iff_ne]; omega
    have d4 : decide ((4096 : Int) < (m : Int)) = false := decide_eq_false (by omega)
    have d5 : ¬ (4096 : Int) < (m : Int) := by omega
    go_wp2_with fail
    refine HCD.out.mono ?_
    rintro e w4 ⟨rfl, hb4⟩
    have HB4 := Lib.hid (HV.out.2.1.trans (hb4.mono HV.out.2.1.size))
    have HR := Lib.hid (And.intro (HV.out.1.up hb4) (And.intro (HRI.out.up HB4.out) HV.out.2.2.1))
    have HLP := Lib.hid (fun p (hp : p ∈ ls) => ((HM.out.mem p).1 hp).pm HM.out.pm)
    have HFI := Lib.hid (fun p (hp : p ∈ ls) V (hV : Below w4.heap.size w4 V) A' c' (hP : Si V A' (ints p) c') => find_in HM.out.srt hp (HLP.out p hp).1 HR.out.2.2.symm hm4 (HR.out.1.up hV) hP)
    clear hb4 HV HCD
    go_wp2_with fail
    go_loopw [64] (fun v wr => ∃ i : Nat, i ≤ m ∧ v = .int .i64 (i : Int) ∧ Below w4.heap.size w4 wr) (fun v _ => m - (intOf v).toNat)
    case atStart => exact ⟨0, Nat.zero_le _, rfl, Below.refl _ _⟩
    case round =>
      obtain ⟨i, hi, rfl, hb⟩ := hrel
      have KR := Lib.hid hb
      clear hb
      by_cases hlt : i < m
      case pos =>
        have hdj : decide ((i : Int) < (m : Int)) = true := decide_eq_true (by omega)
        obtain ⟨p, hp⟩ : ∃ p, ls[i]? = some p := ⟨_, List.getElem?_eq_getElem (by rw [← HR.out.2.2]; exact hlt)⟩
        have hpm := List.mem_of_getElem? hp
        have hpp := HLP.out p hpm
        obtain ⟨b2, o2, Ap, cp, hA2, hbl, hc, hsi⟩ := HR.out.1.at_ (i := i) (l := ints p) (by rw [List.getElem?_map, hp]; rfl)
        subst hA2
        rw [ints_length, hpp.1] at hc
        have z0 := (KR.out.cell (p := ⟨b2, o2 + i, none⟩) hbl).trans hc
        have HIV := Lib.hid (inverse_pm hpp (by omega) (hsi.up KR.out))
        unfold PmP at HIV
        have HVM := Lib.hid ((HM.out.mem _).2 (Gen.inv HM.out.pm (srt_nodup HM.out.srt) HM.out.mem ((HM.out.mem p).1 hpm)))
        have i0 : (0 : Int) ≤ (i : Int) := by omega
        have i1 : (i : Int) < (m : Int) := by omega
        clear hp hpm hpp hbl hc hsi
        go_wp2_with fail
        refine HIV.out.mono ?_
        rintro e w5 ⟨A5, c5, rfl, hs5, hb5⟩
        have HB5 := Lib.hid (KR.out.trans (hb5.mono KR.out.size))
        have HF5 := Lib.hid (HFI.out _ HVM.out w5 HB5.out A5 c5 hs5)
        clear hs5 hb5 HIV z0 KR
        go_wp2_with fail
        refine HF5.out.mono ?_
        rintro e w6 ⟨k6, rfl, hb6⟩
        have HB6 := Lib.hid (HB5.out.trans (hb6.mono HB5.out.size))
        clear hb6 HF5 HB5
        go_wp2_with fail
        go_roundw
        case rel => exact ⟨i + 1, by omega, by go_num, HB6.out⟩
        case measure => simp [intOf]; omega
      case neg =>
        have hdj : decide ((i : Int) < (m : Int)) = false := decide_eq_false (by omega)
        obtain rfl : i = m := by omega
        obtain ⟨z, hz⟩ : ∃ z : Nat, IntKind.u64.wrap s = (z : Int) := ⟨(IntKind.u64.wrap s).toNat, by rw [IntKind.wrap_u64]; omega⟩
        obtain ⟨l1, hl1⟩ : ∃ l1, L + 1 = l1 := ⟨_, rfl⟩
        have e3 : IntKind.u64.wrap ((L : Int) + 1) = (l1 : Int) := by rw [IntKind.wrap_u64]; omega
        obtain ⟨k, hk⟩ : ∃ k, z % l1 = k := ⟨_, rfl⟩
        have hkL : k ≤ L := by
          have := Nat.mod_lt z (show 0 < l1 by omega)
          omega
        have e4 : Int.tmod (z : Int) (l1 : Int) = (k : Int) := by rw [Int.tmod_eq_emod_of_nonneg (by omega), ← hk]; norm_cast
        have e5 : ¬ (l1 : Int) = 0 := by omega
        have e6 : IntKind.i64.wrap (k : Int) = (k : Int) := by rw [IntKind.wrap_i64]; omega
        have hRA := HR.out.2.1
        have hLc : L ≤ c := by have h := hRA.2.1; rw [HLL.out] at h; exact h
        have e7 : (0 : Int) ≤ (k : Int) := by omega
        have e8 : (k : Int) ≤ (c : Int) := by omega
        have hcm : c ≤ maxLen := hRA.2.2.1
        have HCK := Lib.hid (fun V (hV : Below w4.heap.size w4 V) => closure_pm (N := N) (gs := gs.take k) (by omega) (by rw [List.length_take]; omega) (fun g hg => HM.out.pm g (List.mem_of_mem_take hg)) (A := A) (c := c) (w := V) (by rw [List.map_take]; exact (HR.out.2.1.front k).up hV))
        have hkl : (gs.take k).length = k := by rw [List.length_take, HGL.out]; omega
        rw [hkl] at HCK
        clear hRA hl1 hk hkl
        go_wp2_with fail
        refine (HCK.out wr KR.out).mono ?_
        intro e w5 hc5
        have hgt : ∀ g ∈ gs.take k, g ∈ gs := fun g hg => List.mem_of_mem_take hg
        rcases hc5 with ⟨⟨M, m1, m2, m3⟩, _, _⟩ | ⟨A5, mm, c5, ms, rfl, hol5, hsr5, hmem5, hll5, hb5⟩
        · exfalso
          have := nd_sub M ls m1 (fun q hq => (HM.out.mem q).2 (Gen.sub hgt (m3 q hq)))
          have h2 := HM.out.len
          omega
        have hmm : mm = ms.length := by rw [← hol5.1, List.length_map]
        have hdv := lagrange (n := N) (fun g hg => HM.out.pm g (hgt g hg)) HM.out.pm hgt hmem5 (srt_nodup hsr5) HM.out.mem (srt_nodup HM.out.srt)
        rw [← hmm, ← HR.out.2.2] at hdv
        have hmp : 0 < mm := by rw [hmm]; exact List.length_pos_of_mem ((hmem5 _).2 Gen.id)
        have HB5 := Lib.hid (KR.out.trans (hb5.mono KR.out.size))
        have HR5 := Lib.hid (And.intro hol5.ri (And.intro hmm (fun p hp => (HM.out.mem p).2 (Gen.sub hgt ((hmem5 p).1 hp)))))
        have q1 : Int.tmod (i : Int) (mm : Int) = 0 := by rw [Int.tmod_eq_emod_of_nonneg (by omega)]; norm_cast
        have q2 : ¬ (mm : Int) = 0 := by omega
        have q3 : ((mm : Int) == 0) = false := by rw [beq_eq_false_iff_ne]; omega
        have hmm4 : mm ≤ 4096 := by omega
        clear hdv hmm hol5 hsr5 hmem5 hll5 hb5 hgt HCK KR hz e3 e4 e5 e6 e7 e8
        go_wp2_with fail
        go_loopw [119] (fun v wr => ∃ j : Nat, j ≤ mm ∧ v = .int .i64 (j : Int) ∧ Below w5.heap.size w5 wr) (fun v _ => mm - (intOf v).toNat)
        case atStart => exact ⟨0, Nat.zero_le _, rfl, Below.refl _ _⟩
        case round =>
          obtain ⟨j, hj, rfl, hb⟩ := hrel
          have KS := Lib.hid hb
          clear hb
          by_cases hlj : j < mm
          case neg =>
            have hdl : decide ((j : Int) < (mm : Int)) = false := decide_eq_false (by omega)
            have HFF := Lib.hid (HB4.out.trans ((HB5.out.trans (KS.out.mono HB5.out.size)).mono HB4.out.size))
            go_wp2_with fail
            go_ret
            exact ⟨rfl, HFF.out⟩
          have hdl : decide ((j : Int) < (mm : Int)) = true := decide_eq_true (by omega)
          obtain ⟨p, hp⟩ : ∃ p, ms[j]? = some p := ⟨_, List.getElem?_eq_getElem (by rw [← HR5.out.2.1]; exact hlj)⟩
          have hpl := HR5.out.2.2 p (List.mem_of_getElem? hp)
          have hpp := HLP.out p hpl
          obtain ⟨b2, o2, Ap, cp, hA2, hbl, hc, hsi⟩ := HR5.out.1.at_ (i := j) (l := ints p) (by rw [List.getElem?_map, hp]; rfl)
          subst hA2
          rw [ints_length, hpp.1] at hc
          have z0 := (KS.out.cell (p := ⟨b2, o2 + j, none⟩) hbl).trans hc
          have hbw4 : Below w4.heap.size w4 wr := HB5.out.trans (KS.out.mono HB5.out.size)
          have HF6 := Lib.hid (HFI.out p hpl wr hbw4 Ap cp (hsi.up KS.out))
          have i0 : (0 : Int) ≤ (j : Int) := by omega
          have i1 : (j : Int) < (mm : Int) := by omega
          clear hp hpl hpp hbl hc hsi hbw4
          go_wp2_with fail
          refine HF6.out.mono ?_
          rintro e w6 ⟨k6, rfl, hb6⟩
          have HB6 := Lib.hid (KS.out.trans (hb6.mono KS.out.size))
          clear hb6 HF6 KS z0
          go_wp2_with fail
          go_roundw
          case rel => exact ⟨j + 1, by omega, by go_num, HB6.out⟩
          case measure => simp [intOf]; omega
end Go.Proofs.Ytobchecnfkocdaa
