/- Covers. -/
import Derived.Test.YtnmlfdmlcpgaaaaSetOf
import Derived.Test.YtnmlfdmlcpgaaaaHas
namespace Go.Proofs.Ytnmlfdmlcpgaaaa
open Go.RowKit
set_option linter.unusedVariables false

set_option maxHeartbeats 1000000 in
set_option maxRecDepth 100000 in
theorem index_any (g : Nat → Bool) (b off n c : Nat) (w : World) (hn : n ≤ 1024) (hx : ∀ j, j < n → w.cell? ⟨b, off + j, none⟩ = some (.bool (g j))) :
    Calls Try.prog 38 #[.slice (some ⟨b, off, none⟩) n c, .bool false] w fun e w' => ∃ i : Int, e = .returned (.int .i64 i) ∧ (0 ≤ i ↔ ∃ j, j < n ∧ g j = false) ∧ -1 ≤ i ∧ i ≤ 1024 ∧ w = w' := by
  have HX := Lib.hid hx
  clear hx
  go_enter Try.func38, Try.ntmps38
  go_wp2_with fail
  go_loop [8] (fun i => ∃ k : Nat, k ≤ n ∧ i = .int .i64 k ∧ ∀ j, j < k → g j = true) (fun i => n - (intOf i).toNat)
  case atStart => exact ⟨0, Nat.zero_le _, rfl, fun j h => by omega⟩
  case round =>
    obtain ⟨k, hk, rfl, hno⟩ := hrel
    have HNO := Lib.hid hno
    clear hno
    by_cases hlt : k < n
    · have c1 := HX.out k hlt
      cases hd : g k
      · rw [hd] at c1
        have HD := Lib.hid hd
        clear hd
        go_wp2_with fail
        go_ret
        refine ⟨(k : Int), rfl, ?_, by omega, by omega, rfl⟩
        exact ⟨fun _ => ⟨k, hlt, HD.out⟩, fun _ => by omega⟩
      · rw [hd] at c1
        have HD := Lib.hid hd
        clear hd
        go_wp2_with fail
        go_round
        case rel =>
          refine ⟨k + 1, by omega, by go_num, fun j hj => ?_⟩
          by_cases e : j = k
          · rw [e]; exact HD.out
          · exact HNO.out j (by omega)
        case measure => simp [intOf]; omega
    · obtain rfl : k = n := by omega
      go_wp2_with fail
      go_ret
      refine ⟨-1, rfl, ?_, by omega, by omega, rfl⟩
      constructor
      · intro h; omega
      · rintro ⟨j, hj, h⟩
        rw [HNO.out j hj] at h
        cases h

set_option maxHeartbeats 1000000 in
set_option maxRecDepth 100000 in
theorem contains_any (g : Nat → Bool) (b off n c : Nat) (w : World) (hn : n ≤ 1024) (hx : ∀ j, j < n → w.cell? ⟨b, off + j, none⟩ = some (.bool (g j))) :
    Calls Try.prog 35 #[.slice (some ⟨b, off, none⟩) n c, .bool false] w fun e w' => ∃ r : Bool, e = .returned (.bool r) ∧ (r = true ↔ ∃ j, j < n ∧ g j = false) ∧ w = w' := by
  have HC := Lib.hid (index_any g b off n c w hn hx)
  clear hx
  go_enter Try.func35, Try.ntmps35
  go_wp2_with fail
  refine HC.out.mono ?_
  rintro e w1 ⟨i, rfl, h1, h2, h3, rfl⟩
  have H1 := Lib.hid h1
  clear h1 HC
  go_wp2_with fail
  go_ret
  refine ⟨_, rfl, ?_, rfl⟩
  simp only [decide_eq_true_eq]
  exact H1.out

/-- A list has all days of a span. -/
def cov (l : List (Int × Int)) (s : Int × Int) : Bool :=
  if s.2 ≤ s.1 then true else if s.1 < 0 || 1024 < s.2 then false else decide (∀ j, j < (s.2 - s.1).toNat → hasB l (s.1.toNat + j) = true)

set_option maxHeartbeats 1000000 in
set_option maxRecDepth 100000 in
theorem covers_any (A : Option Addr) (c : Nat) (l : List (Int × Int)) (s : Int × Int) (w : World) (hS : Sl w A l c) (hl : l.length ≤ 1000000) :
    Calls Try.prog 22 #[.slice A l.length c, .agg #[.int .i64 s.1, .int .i64 s.2]] w fun e w' => e = .returned (.bool (cov l s)) ∧ Below w.heap.size w w' := by
  have hb := (Below.refl w.heap.size w).alloc (Nat.le_refl _) (.cells #[.int .i64 s.1, .int .i64 s.2] 31)
  have hS1 := hS.up hb
  have hx := Box.new w #[.int .i64 s.1, .int .i64 s.2] 31
  have HB := Lib.hid hb
  have HS := Lib.hid hS1
  have HX := Lib.hid hx
  clear hb hS hS1 hx
  obtain ⟨a, z⟩ := s
  dsimp only at *
  by_cases h1 : z ≤ a
  · have hr : cov l (a, z) = true := by unfold cov; simp [h1]
    have HR := Lib.hid hr
    clear hr
    go_enter Try.func22, Try.ntmps22
    go_wp2_with fail
    go_ret
    exact ⟨by rw [HR.out]; rfl, HB.out⟩
  · have d1 : decide (z ≤ a) = false := decide_eq_false h1
    by_cases h2 : a < 0
    · have hr : cov l (a, z) = false := by unfold cov; simp [h1, h2]
      have HR := Lib.hid hr
      clear hr
      go_enter Try.func22, Try.ntmps22
      go_wp2_with fail
      go_ret
      exact ⟨by rw [HR.out]; rfl, HB.out⟩
    · have d2 : decide (a < 0) = false := decide_eq_false h2
      by_cases h3 : 1024 < z
      · have hr : cov l (a, z) = false := by unfold cov; simp [h1, h3]
        have HR := Lib.hid hr
        clear hr
        go_enter Try.func22, Try.ntmps22
        go_wp2_with fail
        go_ret
        exact ⟨by rw [HR.out]; rfl, HB.out⟩
      · have d3 : decide (1024 < z) = false := decide_eq_false h3
        obtain ⟨p, rfl⟩ : ∃ p : Nat, a = (p : Int) := ⟨a.toNat, by omega⟩
        obtain ⟨q, rfl⟩ : ∃ q : Nat, z = (q : Int) := ⟨z.toNat, by omega⟩
        have hr : cov l ((p : Int), (q : Int)) = decide (∀ j, j < q - p → hasB l (p + j) = true) := by
          unfold cov
          simp only [h1, if_false, h2, h3, decide_false, Bool.or_self]
          rw [if_neg (by simp), decide_eq_decide]
          rw [show ((q : Int) - (p : Int)).toNat = q - p by omega, Int.toNat_natCast]
        have HR := Lib.hid hr
        have H1 := Lib.hid (setOf_any A c l _ HS.out hl)
        have HI := Lib.hid (size_set (hasB l))
        have HONE := Lib.hid (bcells_one (hasB l))
        have hne := bcells_ne (hasB l)
        have HG : Hid (∀ k, k < 1024 → (bcells (hasB l))[k]? = some (.bool (hasB l k))) := Lib.hid (fun k hk => arr_get _ _ _ hk)
        have hz1 := zero_set
        have hn1 := bcells_ne fun _ => false
        have HZ := Lib.hid ((bcells_size fun _ => false).trans (bcells_size (hasB l)).symm)
        clear hr
        unfold SetPost at H1
        generalize bcells (hasB l) = CS at *
        generalize bcells (fun _ => false) = Z1 at *
        go_enter Try.func22, Try.ntmps22
        go_wp2_with fail
        refine H1.out.mono ?_
        rintro e w1 ⟨rfl, hb1⟩
        have hx1 := HX.out.below hb1
        have hbw := HB.out.trans (hb1.mono HB.out.size)
        have hd := Box.new w1 Z1 40
        have HX1 := Lib.hid hx1
        have HD := Lib.hid hd
        have hx2 := (hx1.alloc (.cells Z1 40)).grown (setRow_grown _ w1.heap.size CS) (by have := HX1.out.lt; simp; omega)
        have c0 := hx2.cell 0
        have c1 := hx2.cell 1
        simp only [List.getElem?_toArray, List.getElem?_cons_zero, List.getElem?_cons_succ] at c0 c1
        have hcs : Box ((w1.alloc (.cells Z1 40)).setRow w1.heap.size CS) w1.heap.size CS 40 := Box.setRow hd
        have hbw2 := (hbw.alloc hbw.size (.cells Z1 40)).trans (below_grown (setRow_grown _ w1.heap.size CS) hbw.size (by simp; have := hbw.size; omega))
        have hC : ∀ j, j < q - p → ((w1.alloc (.cells Z1 40)).setRow w1.heap.size CS).cell? ⟨w1.heap.size, p + j, none⟩ = some (.bool (hasB l (p + j))) := fun j hj => by
          rw [hcs.cell]; exact HG.out _ (by omega)
        have HC := Lib.hid (contains_any (fun j => hasB l (p + j)) w1.heap.size p (q - p) (1024 - p) _ (by omega) hC)
        have b1 : (0 : Int) ≤ (p : Int) ∧ (p : Int) ≤ (q : Int) ∧ (q : Int) ≤ 1024 := by omega
        have b2 : ¬ 1024 = p := by omega
        clear hx1 HX HS H1 hb1 hd hx2 hcs hC
        go_wp2_with (first
          | (refine wpList_store_row rfl 40 (.tmp 5) (.tmp 20) rfl w1.heap.size CS rfl rfl 40 Z1 HD.out HI.out HZ.out HONE.out ?_))
        refine HC.out.mono ?_
        rintro e w3 ⟨r, rfl, h5, rfl⟩
        have H5 := Lib.hid h5
        clear h5 HC
        go_wp2_with fail
        go_ret
        refine ⟨?_, hbw2⟩
        rw [HR.out]
        refine ret_bool ?_
        rw [Bool.eq_iff_iff]
        simp only [Bool.not_eq_true', decide_eq_true_eq]
        rw [← Bool.not_eq_true, H5.out]
        constructor
        · intro h j hj
          by_cases e : hasB l (p + j) = true
          · exact e
          · exact absurd ⟨j, hj, by simpa using e⟩ h
        · rintro h ⟨j, hj, e⟩
          rw [h j hj] at e
          cases e
end Go.Proofs.Ytnmlfdmlcpgaaaa
