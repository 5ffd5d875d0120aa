/- The reference's Compose, Inverse, Check. -/
import Derived.Test.YtobchecnfkocdaaRPr
namespace Go.Proofs.Ytobchecnfkocdaa
open Go.RowKit
set_option linter.unusedVariables false
set_option linter.unusedSimpArgs false

theorem isr_facts {l : List Int} {n : Nat} (h : isr l (n : Int) = true) : l.length = n ∧ okl l n = true := by
  unfold isr at h
  rw [Bool.and_eq_true, decide_eq_true_eq, Int.toNat_natCast] at h
  exact ⟨by omega, h.2⟩
theorem isp_of {l : List Int} {n : Nat} (h : isr l (n : Int) = true) (hn : n ≤ 256) : isp l (n : Int) = true := by
  rw [isp_isr, h, decide_eq_true (by omega)]
  rfl
theorem isr_of {l : List Int} {n : Nat} (h : isp l (n : Int) = true) : isr l (n : Int) = true := by
  rw [isp_isr, Bool.and_eq_true] at h
  exact h.2
theorem cme_rno {a b : List Int} (h : ¬ (a.length ≤ 256 ∧ isr a (a.length : Int) = true ∧ isr b (a.length : Int) = true)) : cme a b = 110 ∧ cmr a b = [] :=
  cme_no fun hh => h (by
    have h1 := isp_facts hh.1
    have h2 := isp_facts hh.2
    refine ⟨h2.1, ?_, isr_of hh.2⟩
    have := isr_of hh.1
    rwa [← h1.2.1] at this)
theorem cme_rok {a b : List Int} (h1 : a.length ≤ 256) (h2 : isr a (a.length : Int) = true) (h3 : isr b (a.length : Int) = true) : cme a b = 0 ∧ cmr a b = cmi a b := by
  have h4 := (isr_facts h3).1
  refine cme_ok ?_ (isp_of h3 h1)
  rw [h4]
  exact isp_of h2 h1
theorem IntP.of {l : List Int} {er : Int} {w w' : World} {e : Ending} (h : ListP l w e w') : ∃ A c, e = .returned (.slice A l.length c) ∧ Si w' A l c ∧ Below w.heap.size w w' := h

set_option maxHeartbeats 4000000 in
set_option maxRecDepth 100000 in
theorem rcompose_any (A : Option Addr) (c : Nat) (a : List Int) (B : Option Addr) (d : Nat) (b : List Int) (w : World) (hA : Si w A a c) (hB : Si w B b d) (hla : a.length ≤ 100000) (hlb : b.length ≤ 100000) :
    Calls Try.prog 12 #[.slice A a.length c, .slice B b.length d] w (IntP (cmr a b) (cme a b) w) := by
  have H1 := Lib.hid (fun V (h : Below w.heap.size w V) => isr_any A c a (a.length : Int) V (hA.up h) hla)
  have H2 := Lib.hid (fun V (h : Below w.heap.size w V) => isr_any B d b (a.length : Int) V (hB.up h) hlb)
  have HP := Lib.hid (fun V (h : Below w.heap.size w V) hr => product_any A c a B d b V (hA.up h) (hB.up h) hr hlb)
  have HB0 := Lib.hid (Below.refl w.heap.size w)
  clear hA hB
  unfold QB at H1 H2
  by_cases q0 : 256 < a.length
  · obtain ⟨h1, h2⟩ := cme_rno (a := a) (b := b) (fun h => by omega)
    rw [h1, h2]
    have d1 : decide ((256 : Int) < (a.length : Int)) = true := decide_eq_true (by omega)
    have d2 : (256 : Int) < (a.length : Int) := by omega
    clear h1 h2
    generalize a.length = n at *
    generalize b.length = m at *
    go_enter Try.func12, Try.ntmps12
    go_wp2_with fail
    go_ret2
    exact IntP.no HB0.out
  have d1 : decide ((256 : Int) < (a.length : Int)) = false := decide_eq_false (by omega)
  have d2 : ¬ (256 : Int) < (a.length : Int) := by omega
  cases q1 : isr a (a.length : Int) with
  | false =>
    obtain ⟨h1, h2⟩ := cme_rno (a := a) (b := b) (by rw [q1]; simp)
    rw [h1, h2]
    rw [q1] at H1
    clear h1 h2 q1
    generalize a.length = n at *
    generalize b.length = m at *
    go_enter Try.func12, Try.ntmps12
    go_wp2_with fail
    refine (H1.out w HB0.out).mono ?_
    rintro e w1 ⟨rfl, hb⟩
    have HB := Lib.hid hb
    clear hb
    go_wp2_with fail
    go_ret2
    exact IntP.no HB.out
  | true =>
  cases q2 : isr b (a.length : Int) with
  | false =>
    obtain ⟨h1, h2⟩ := cme_rno (a := a) (b := b) (by rw [q2]; simp)
    rw [h1, h2]
    rw [q1] at H1
    rw [q2] at H2
    clear h1 h2 q1 q2
    generalize a.length = n at *
    generalize b.length = m at *
    go_enter Try.func12, Try.ntmps12
    go_wp2_with fail
    refine (H1.out w HB0.out).mono ?_
    rintro e w1 ⟨rfl, hb⟩
    have HB := Lib.hid hb
    clear hb
    go_wp2_with fail
    refine (H2.out w1 HB.out).mono ?_
    rintro e w2 ⟨rfl, hb⟩
    have HB2 := Lib.hid (HB.out.trans (hb.mono HB.out.size))
    clear hb
    go_wp2_with fail
    go_ret2
    exact IntP.no HB2.out
  | true =>
  obtain ⟨h1, h2⟩ := cme_rok (by omega) q1 q2
  rw [h1, h2]
  rw [q1] at H1
  rw [q2] at H2
  have hf := isr_facts q2
  have HP := Lib.hid (fun V (h : Below w.heap.size w V) => HP.out V h (okl_iff.1 hf.2).1)
  have hcl := cmi_length a b
  unfold ListP at HP
  unfold IntP
  rw [hcl] at HP ⊢
  clear h1 h2 q1 q2 hf hcl
  generalize cmi a b = X at *
  generalize a.length = n at *
  generalize b.length = m at *
  go_enter Try.func12, Try.ntmps12
  go_wp2_with fail
  refine (H1.out w HB0.out).mono ?_
  rintro e w1 ⟨rfl, hb⟩
  have HB := Lib.hid hb
  clear hb
  go_wp2_with fail
  refine (H2.out w1 HB.out).mono ?_
  rintro e w2 ⟨rfl, hb⟩
  have HB2 := Lib.hid (HB.out.trans (hb.mono HB.out.size))
  clear hb
  go_wp2_with fail
  refine (HP.out w2 HB2.out).mono ?_
  rintro e w3 ⟨A3, c3, rfl, hs, hb⟩
  have HB3 := Lib.hid (And.intro hs (HB2.out.trans (hb.mono HB2.out.size)))
  clear hs hb
  go_wp2_with fail
  go_ret2
  exact ⟨_, _, rfl, HB3.out⟩

theorem ive_rno {l : List Int} (h : ¬ (l.length ≤ 256 ∧ isr l (l.length : Int) = true)) : ive l = 110 ∧ ivr l = [] :=
  ive_no (by rw [Bool.eq_false_iff]; exact fun hh => h ⟨(isp_facts hh).1, isr_of hh⟩)
set_option maxHeartbeats 4000000 in
set_option maxRecDepth 100000 in
theorem rinverse_any (A : Option Addr) (c : Nat) (a : List Int) (w : World) (hA : Si w A a c) (hla : a.length ≤ 100000) :
    Calls Try.prog 14 #[.slice A a.length c] w (IntP (ivr a) (ive a) w) := by
  have H1 := Lib.hid (isr_any A c a (a.length : Int) w hA hla)
  have HS := Lib.hid hA
  have HB0 := Lib.hid (Below.refl w.heap.size w)
  clear hA
  unfold QB at H1
  by_cases q0 : 256 < a.length
  · obtain ⟨h1, h2⟩ := ive_rno (l := a) (fun h => by omega)
    rw [h1, h2]
    have d1 : decide ((256 : Int) < (a.length : Int)) = true := decide_eq_true (by omega)
    have d2 : (256 : Int) < (a.length : Int) := by omega
    clear h1 h2
    generalize a.length = n at *
    go_enter Try.func14, Try.ntmps14
    go_wp2_with fail
    go_ret2
    exact IntP.no HB0.out
  have d1 : decide ((256 : Int) < (a.length : Int)) = false := decide_eq_false (by omega)
  have d2 : ¬ (256 : Int) < (a.length : Int) := by omega
  cases q1 : isr a (a.length : Int) with
  | false =>
    obtain ⟨h1, h2⟩ := ive_rno (l := a) (by rw [q1]; simp)
    rw [h1, h2]
    rw [q1] at H1
    clear h1 h2 q1
    generalize a.length = n at *
    go_enter Try.func14, Try.ntmps14
    go_wp2_with fail
    refine H1.out.mono ?_
    rintro e w1 ⟨rfl, hb⟩
    have HB := Lib.hid hb
    clear hb
    go_wp2_with fail
    go_ret2
    exact IntP.no HB.out
  | true =>
  obtain ⟨h1, h2⟩ := ive_ok (isp_of q1 (by omega))
  rw [h1, h2]
  rw [q1] at H1
  have hok := (okl_iff.1 (isr_facts q1).2).1
  obtain ⟨n, hn⟩ : ∃ n, a.length = n := ⟨_, rfl⟩
  have hil : (ivi a).length = n := by unfold ivi; rw [ris_length, hn]
  have hie : ivi a = ris (vf a n) n := by unfold ivi; rw [hn]
  rw [hn] at hok H1 hla d1 d2
  have HOK := Lib.hid (And.intro hok (And.intro hie (And.intro hn hil)))
  unfold IntP
  rw [hn, hil]
  clear h1 h2 hok hie hn hil q1 q0
  obtain ⟨i0, hi0, hz0, hz1, hz2⟩ := info_parts i64_info
  go_enter Try.func14, Try.ntmps14
  go_wp2_with fail
  refine H1.out.mono ?_
  rintro e w2 ⟨rfl, hb⟩
  have HB2 := Lib.hid hb
  clear hb H1
  go_wp2_with (refine wpList_make_full _ rfl (.tmp 17) (.tmp 17) 22 rfl w2.heap.size 3 i0 (.int .i64 0) 1 Try.underlying22 hi0 hz0 hz1 .i64 .i64 n n n rfl rfl rfl rfl (by rw [hz2]; omega) (le_maxLen (by omega)) (Nat.le_refl _) ?_; intro w3 hown hgr; rw [Nat.mul_one, show (Value.int .i64 0).cells = #[.int .i64 0] from rfl, toList_madeCells_one, ris_zero] at hown; have HW := Lib.hid (And.intro hown (grown_below hgr)); clear hown hgr)
  obtain ⟨Z, hZ⟩ : ∃ Z, w2.heap.size = Z := ⟨_, rfl⟩
  rw [hZ] at HW ⊢
  have HZ := Lib.hid (And.intro hZ (show w.heap.size ≤ Z from by rw [← hZ]; exact HB2.out.size))
  have HB3 := Lib.hid (HB2.out.trans (HW.out.2.mono HZ.out.2))
  clear hZ
  go_loopw [5] (fun i wr => ∃ j : Nat, j ≤ n ∧ i = .int .i64 (j : Int) ∧ wr.ownsRow Z 3 1 (.slice (some ⟨Z, 0, none⟩) n n) n ((ris (vf a j) n).map iv) ∧ Below w.heap.size w wr) (fun i _ => n - (intOf i).toNat)
  case atStart => exact ⟨0, Nat.zero_le _, rfl, HW.out.1, HB3.out⟩
  case round =>
    obtain ⟨j, hj, rfl, hown, hb⟩ := hrel
    have KR := Lib.hid (And.intro hown hb)
    clear hown hb HW
    by_cases hlt : j < n
    case neg =>
      have hdj : decide ((j : Int) < (n : Int)) = false := decide_eq_false (by omega)
      obtain rfl : j = n := by omega
      have h := KR.out.1
      rw [← HOK.out.2.1] at h
      have HF := Lib.hid (show Si wr (some ⟨Z, 0, none⟩) (ivi a) j from Sv.of_own h (by rw [List.length_map]; exact HOK.out.2.2.2))
      clear h
      go_wp2_with fail
      go_ret2
      exact ⟨_, _, rfl, HF.out, KR.out.2⟩
    have hdj : decide ((j : Int) < (n : Int)) = true := decide_eq_true (by omega)
    obtain ⟨x, hx⟩ : ∃ x, a[j]? = some x := ⟨_, List.getElem?_eq_getElem (by rw [HOK.out.2.2.1]; exact hlt)⟩
    have hxr := HOK.out.1 x (List.mem_of_getElem? hx)
    obtain ⟨x, rfl⟩ : ∃ x' : Nat, x = (x' : Int) := ⟨x.toNat, by omega⟩
    obtain ⟨ba, oa, rfl, hba, hca⟩ := HS.out.at_ hx
    have z0 : wr.cell? ⟨ba, oa + j, none⟩ = some (.int .i64 (x : Int)) := (KR.out.2.cell (p := ⟨ba, oa + j, none⟩) hba).trans hca
    have f1 := KR.out.1.frozenAt x
    have hzz : ∃ u, wr.cell? ⟨Z, x, none⟩ = some u := by
      refine ⟨_, (KR.out.1.cellAt x (by omega)).trans (List.getElem?_eq_getElem (h := ?_))⟩
      have := KR.out.1.1
      omega
    obtain ⟨u, hu⟩ := hzz
    have hst := KR.out.1.stored x (.int .i64 (j : Int))
    rw [ris_set, vf_step hx] at hst
    have HST := Lib.hid (And.intro hst.1 (KR.out.2.setCell (p := ⟨Z, x, none⟩) HZ.out.2 (.int .i64 (j : Int))))
    have i0 : (0 : Int) ≤ (j : Int) := by omega
    have i1 : (j : Int) < (n : Int) := by omega
    have i2 : (0 : Int) ≤ (x : Int) := by omega
    have i3 : (x : Int) < (n : Int) := by omega
    clear hx hxr hba hca hst KR
    go_wp2_with fail
    go_roundw
    case rel => exact ⟨j + 1, by omega, by go_num, HST.out⟩
    case measure => simp [intOf]; omega

set_option maxHeartbeats 1000000 in
theorem rcheck_any (A : Option Addr) (c : Nat) (l : List Int) (n : Int) (w : World) (hS : Si w A l c) (hl : l.length ≤ 100000) :
    Calls Try.prog 16 #[.slice A l.length c, .int .i64 n] w (fun e w' => e = .returned (.int .i64 (if ¬ (0 ≤ n ∧ n ≤ 256) then 1 else if isp l n = true then 0 else 110)) ∧ Below w.heap.size w w') := by
  have HI := Lib.hid (isr_any A c l n w hS hl)
  unfold QB at HI
  have hii := isp_isr l n
  clear hS
  by_cases q0 : n < 0
  · rw [if_pos (by omega)]
    have d1 : decide (n < 0) = true := decide_eq_true q0
    clear hii
    generalize l.length = L at *
    go_enter Try.func16, Try.ntmps16
    go_wp2_with fail
    go_ret
    exact ⟨rfl, Below.refl _ _⟩
  have d1 : decide (n < 0) = false := decide_eq_false q0
  by_cases q1 : 256 < n
  · rw [if_pos (by omega)]
    have d2 : decide (256 < n) = true := decide_eq_true q1
    clear hii
    generalize l.length = L at *
    go_enter Try.func16, Try.ntmps16
    go_wp2_with fail
    go_ret
    exact ⟨rfl, Below.refl _ _⟩
  have d2 : decide (256 < n) = false := decide_eq_false q1
  rw [if_neg (by omega)]
  rw [decide_eq_true (by omega), Bool.true_and] at hii
  rw [hii]
  cases q2 : isr l n with
  | false =>
    rw [q2] at HI
    rw [if_neg (by simp)]
    clear q2 hii
    generalize l.length = L at *
    go_enter Try.func16, Try.ntmps16
    go_wp2_with fail
    refine HI.out.mono ?_
    rintro e w2 ⟨rfl, hb⟩
    have HB := Lib.hid hb
    clear hb
    go_wp2_with fail
    go_ret
    exact ⟨rfl, HB.out⟩
  | true =>
    rw [q2] at HI
    rw [if_pos rfl]
    clear q2 hii
    generalize l.length = L at *
    go_enter Try.func16, Try.ntmps16
    go_wp2_with fail
    refine HI.out.mono ?_
    rintro e w2 ⟨rfl, hb⟩
    have HB := Lib.hid hb
    clear hb
    go_wp2_with fail
    go_ret
    exact ⟨rfl, HB.out⟩
end Go.Proofs.Ytobchecnfkocdaa
