/- The reference's Inverse, with the kind of its block. -/
import Derived.Test.YtobchecnfkocdaaOl
import Derived.Test.YtobchecnfkocdaaRCo
namespace Go.Proofs.Ytobchecnfkocdaa
open Go.RowKit
set_option linter.unusedVariables false
set_option linter.unusedSimpArgs false

/-- A list that a call makes, and an error. -/
def IntT (l : List Int) (er : Int) (w : World) (e : Ending) (w' : World) : Prop := ∃ A c, e = .returned (.tuple #[.slice A l.length c, .int .i64 er]) ∧ Si w' A l c ∧ Tb w' A ∧ Below w.heap.size w w'
theorem IntT.no {er : Int} {w w' : World} (h : Below w.heap.size w w') : IntT [] er w (.returned (.tuple #[.slice none 0 0, .int .i64 er])) w' := ⟨none, 0, rfl, Sv.nil _, (fun a e => by cases e), h⟩
set_option maxHeartbeats 4000000 in
set_option maxRecDepth 100000 in
theorem rinverse_tb (A : Option Addr) (c : Nat) (a : List Int) (w : World) (hA : Si w A a c) (hla : a.length ≤ 100000) :
    Calls Try.prog 14 #[.slice A a.length c] w (IntT (ivr a) (ive a) w) := by
  have H1 := Lib.hid (isr_any A c a (a.length : Int) w hA hla)
  have HS := Lib.hid hA
  have HB0 := Lib.hid (Below.refl w.heap.size w)
  clear hA
  unfold QB at H1
  by_cases q0 : 256 < a.length
  · obtain ⟨h1, h2⟩ := ive_rno (l := a) (fun h => by omega)
    rw [h1, h2]
    have d1 : decide ((256 : Int) < (a.length : Int)) = true := decide_eq_true (by omega)
    have d2 : (256 : Int) < (a.length : Int) := by omega
    clear h1 h2
    generalize a.length = n at *
    go_enter Try.func14, Try.ntmps14
    go_wp2_with fail
    go_ret2
    exact IntT.no HB0.out
  have d1 : decide ((256 : Int) < (a.length : Int)) = false := decide_eq_false (by omega)
  have d2 : ¬ (256 : Int) < (a.length : Int) := by omega
  cases q1 : isr a (a.length : Int) with
  | false =>
    obtain ⟨h1, h2⟩ := ive_rno (l := a) (by rw [q1]; simp)
    rw [h1, h2]
    rw [q1] at H1
    clear h1 h2 q1
    generalize a.length = n at *
    go_enter Try.func14, Try.ntmps14
    go_wp2_with fail
    refine H1.out.mono ?_
    rintro e w1 ⟨rfl, hb⟩
    have HB := Lib.hid hb
    clear hb
    go_wp2_with fail
    go_ret2
    exact IntT.no HB.out
  | true =>
  obtain ⟨h1, h2⟩ := ive_ok (isp_of q1 (by omega))
  rw [h1, h2]
  rw [q1] at H1
  have hok := (okl_iff.1 (isr_facts q1).2).1
  obtain ⟨n, hn⟩ : ∃ n, a.length = n := ⟨_, rfl⟩
  have hil : (ivi a).length = n := by unfold ivi; rw [ris_length, hn]
  have hie : ivi a = ris (vf a n) n := by unfold ivi; rw [hn]
  rw [hn] at hok H1 hla d1 d2
  have HOK := Lib.hid (And.intro hok (And.intro hie (And.intro hn hil)))
  unfold IntT
  rw [hn, hil]
  clear h1 h2 hok hie hn hil q1 q0
  obtain ⟨i0, hi0, hz0, hz1, hz2⟩ := info_parts i64_info
  go_enter Try.func14, Try.ntmps14
  go_wp2_with fail
  refine H1.out.mono ?_
  rintro e w2 ⟨rfl, hb⟩
  have HB2 := Lib.hid hb
  clear hb H1
  go_wp2_with (refine wpList_make_full _ rfl (.tmp 17) (.tmp 17) 22 rfl w2.heap.size 3 i0 (.int .i64 0) 1 Try.underlying22 hi0 hz0 hz1 .i64 .i64 n n n rfl rfl rfl rfl (by rw [hz2]; omega) (le_maxLen (by omega)) (Nat.le_refl _) ?_; intro w3 hown hgr; rw [Nat.mul_one, show (Value.int .i64 0).cells = #[.int .i64 0] from rfl, toList_madeCells_one, ris_zero] at hown; have HW := Lib.hid (And.intro hown (grown_below hgr)); clear hown hgr)
  obtain ⟨Z, hZ⟩ : ∃ Z, w2.heap.size = Z := ⟨_, rfl⟩
  rw [hZ] at HW ⊢
  have HZ := Lib.hid (And.intro hZ (show w.heap.size ≤ Z from by rw [← hZ]; exact HB2.out.size))
  have HB3 := Lib.hid (HB2.out.trans (HW.out.2.mono HZ.out.2))
  clear hZ
  go_loopw [5] (fun i wr => ∃ j : Nat, j ≤ n ∧ i = .int .i64 (j : Int) ∧ wr.ownsRow Z 3 1 (.slice (some ⟨Z, 0, none⟩) n n) n ((ris (vf a j) n).map iv) ∧ Below w.heap.size w wr) (fun i _ => n - (intOf i).toNat)
  case atStart => exact ⟨0, Nat.zero_le _, rfl, HW.out.1, HB3.out⟩
  case round =>
    obtain ⟨j, hj, rfl, hown, hb⟩ := hrel
    have KR := Lib.hid (And.intro hown hb)
    clear hown hb HW
    by_cases hlt : j < n
    case neg =>
      have hdj : decide ((j : Int) < (n : Int)) = false := decide_eq_false (by omega)
      obtain rfl : j = n := by omega
      have h := KR.out.1
      rw [← HOK.out.2.1] at h
      have HF := Lib.hid (show Si wr (some ⟨Z, 0, none⟩) (ivi a) j from Sv.of_own h (by rw [List.length_map]; exact HOK.out.2.2.2))
      clear h
      go_wp2_with fail
      go_ret2
      exact ⟨_, _, rfl, HF.out, Tb.of_own KR.out.1, KR.out.2⟩
    have hdj : decide ((j : Int) < (n : Int)) = true := decide_eq_true (by omega)
    obtain ⟨x, hx⟩ : ∃ x, a[j]? = some x := ⟨_, List.getElem?_eq_getElem (by rw [HOK.out.2.2.1]; exact hlt)⟩
    have hxr := HOK.out.1 x (List.mem_of_getElem? hx)
    obtain ⟨x, rfl⟩ : ∃ x' : Nat, x = (x' : Int) := ⟨x.toNat, by omega⟩
    obtain ⟨ba, oa, rfl, hba, hca⟩ := HS.out.at_ hx
    have z0 : wr.cell? ⟨ba, oa + j, none⟩ = some (.int .i64 (x : Int)) := (KR.out.2.cell (p := ⟨ba, oa + j, none⟩) hba).trans hca
    have f1 := KR.out.1.frozenAt x
    have hzz : ∃ u, wr.cell? ⟨Z, x, none⟩ = some u := by
      refine ⟨_, (KR.out.1.cellAt x (by omega)).trans (List.getElem?_eq_getElem (h := ?_))⟩
      have := KR.out.1.1
      omega
    obtain ⟨u, hu⟩ := hzz
    have hst := KR.out.1.stored x (.int .i64 (j : Int))
    rw [ris_set, vf_step hx] at hst
    have HST := Lib.hid (And.intro hst.1 (KR.out.2.setCell (p := ⟨Z, x, none⟩) HZ.out.2 (.int .i64 (j : Int))))
    have i0 : (0 : Int) ≤ (j : Int) := by omega
    have i1 : (j : Int) < (n : Int) := by omega
    have i2 : (0 : Int) ≤ (x : Int) := by omega
    have i3 : (x : Int) < (n : Int) := by omega
    clear hx hxr hba hca hst KR
    go_wp2_with fail
    go_roundw
    case rel => exact ⟨j + 1, by omega, by go_num, HST.out⟩
    case measure => simp [intOf]; omega

end Go.Proofs.Ytobchecnfkocdaa
