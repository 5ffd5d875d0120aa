/- product of elements; numbers of an element. -/
import Derived.Test.YtobchecnfkocdaaEl
import Derived.LoopTactic
import Derived.Deep.Cut
import Derived.Deep.CutRange
import Derived.Deep.RegionHeld3
namespace Go.Proofs.Ytobchecnfkocdaa
open Go.RowKit
set_option linter.unusedVariables false
set_option linter.unusedSimpArgs false

set_option maxHeartbeats 4000000 in
set_option maxRecDepth 100000 in
theorem prod_any (G n : Nat) (x y : List Nat) (w : World) (hG : w.cell? ⟨G, 0, none⟩ = some (.int .i64 (n : Int))) (hx : Pm n x) (hy : Pm n y) (hn : n ≤ 256) :
    Calls Try.prog 41 #[.pointer (some ⟨G, 0, none⟩), .agg (eof x), .agg (eof y)] w (fun e w' => e = .returned (.agg (eof (mu x y))) ∧ Below w.heap.size w w') := by
  have hGl := World.block_lt_of_cell? w _ hG
  have hzl : (mu x y).length = n := by rw [mu_length, hy.1]
  have hzv : ∀ j, j < n → (mu x y)[j]? = some (x.getD (y.getD j 0) 0) := fun j hj => by
    rw [List.getElem?_eq_getElem (by rw [hzl]; exact hj)]
    have := mu_at (a := x) (b := y) (i := j) (by rw [hy.1]; exact hj)
    rw [getD_get (by rw [hzl]; exact hj)] at this
    rw [this]
  have hyl : ∀ j, j < n → y.getD j 0 < n := fun j hj => hy.lt hj
  have HZ := Lib.hid (And.intro hzl (And.intro hzv hyl))
  have hex : ∀ i, i < 256 → (eof x)[i]? = some (.int .u8 ((x.getD i 0 : Nat) : Int)) := fun i hi => ucs_at _ hi
  have hey : ∀ i, i < 256 → (eof y)[i]? = some (.int .u8 ((y.getD i 0 : Nat) : Int)) := fun i hi => ucs_at _ hi
  have HE := Lib.hid (And.intro hex hey)
  generalize mu x y = z at *
  unfold eof at hex hey HE ⊢
  obtain ⟨CX, hCX⟩ : ∃ CX, ucs (fun i => x.getD i 0) = CX := ⟨_, rfl⟩
  obtain ⟨CY, hCY⟩ : ∃ CY, ucs (fun i => y.getD i 0) = CY := ⟨_, rfl⟩
  rw [hCX, hCY] at HE
  rw [hCX, hCY]
  have HI := Lib.hid (And.intro (show (Try.prog.info? 55).map (·.size) = some CX.size from hCX ▸ el_info _) (show (Try.prog.info? 55).map (·.size) = some CY.size from hCY ▸ el_info _))
  clear hzl hzv hyl hex hey hCX hCY hx hy
  go_enter Try.func41, Try.ntmps41
  go_upto_region 1 with fail
  rw [zc_el]
  have hx4 := Box.new w CX 55
  have hx5 := Box.new (w.alloc (.cells CX 55)) CY 55
  have hx6 := Box.new ((w.alloc (.cells CX 55)).alloc (.cells CY 55)) (ucs fun _ => 0) 55
  have hx4 := (hx4.alloc (.cells CY 55)).alloc (.cells (ucs fun _ => 0) 55)
  have hx5 := hx5.alloc (.cells (ucs fun _ => 0) 55)
  have hb3 : Below w.heap.size w (((w.alloc (.cells CX 55)).alloc (.cells CY 55)).alloc (.cells (ucs fun _ => 0) 55)) := (((Below.refl w.heap.size w).alloc (Nat.le_refl _) _).alloc (by simp) _).alloc (by simp; omega) _
  simp only [World.size_alloc] at hx5 hx6
  obtain ⟨B, hB⟩ : ∃ B, w.heap.size = B := ⟨_, rfl⟩
  rw [hB] at hx4 hx5 hx6 ⊢
  obtain ⟨V, hV⟩ : ∃ V, ((w.alloc (.cells CX 55)).alloc (.cells CY 55)).alloc (.cells (ucs fun _ => 0) 55) = V := ⟨_, rfl⟩
  rw [hV] at hx4 hx5 hx6 hb3 ⊢
  have g0 : V.cell? ⟨G, 0, none⟩ = some (.int .i64 (n : Int)) := (hb3.cell (p := ⟨G, 0, none⟩) hGl).trans hG
  have HBE := Lib.hid hB
  have HX := Lib.hid (And.intro hx4 (And.intro hx5 (And.intro hx6 hb3)))
  clear hx4 hx5 hx6 hb3 hV hB hG hGl
  go_wp2_with fail
  go_loopw [12] (fun i wr => ∃ j : Nat, j ≤ n ∧ i = .int .i64 (j : Int) ∧ Box wr (B + 1 + 1) (ucs fun i => (z.take j).getD i 0) 55 ∧ Box wr B CX 55 ∧ Box wr (B + 1) CY 55 ∧ Below w.heap.size w wr) (fun i _ => n - (intOf i).toNat)
  case atStart => exact ⟨0, Nat.zero_le _, rfl, by simpa using HX.out.2.2.1, HX.out.1, HX.out.2.1, HX.out.2.2.2⟩
  case round =>
    obtain ⟨j, hj, rfl, hb6, hb4, hb5, hb⟩ := hrel
    have KR := Lib.hid (And.intro hb6 (And.intro hb4 (And.intro hb5 hb)))
    clear hb6 hb4 hb5 hb HX g0
    by_cases hlt : j < n
    case neg =>
      have hdj : decide ((j : Int) < (n : Int)) = false := decide_eq_false (by omega)
      obtain rfl : j = n := by omega
      have h := KR.out.1
      rw [List.take_of_length_le (by rw [HZ.out.1]; exact Nat.le_refl _)] at h
      have hi := el_info (fun i => z.getD i 0)
      have hone := ucs_one (fun i => z.getD i 0)
      obtain ⟨CS, hCS⟩ : ∃ CS, ucs (fun i => z.getD i 0) = CS := ⟨_, rfl⟩
      rw [hCS] at h hi hone
      have HCS := Lib.hid hCS
      have HIS := Lib.hid hi
      have HONE := Lib.hid hone
      have HBX := Lib.hid h
      clear hi hone h hCS
      go_wp2_with (first
        | (refine wpList_load_row rfl 55 (.tmp 6) rfl (B + 1 + 1) rfl 55 CS (0, 0) _ HBX.out Try.underlying55 rfl HIS.out ?_)
        | (refine wpList_store_row rfl 55 (.tmp 6) (.tmp 23) rfl (B + 1 + 1) CS rfl rfl 55 CS HBX.out HIS.out rfl HONE.out ?_))
      refine bodyPost_ret (v := .agg CS) ?_ rfl ?_
      · exact results_cell_row Try.results41 _ _ (B + 1 + 1) 55 CS (0, 0) _ rfl (Box.setRow HBX.out) Try.underlying55 rfl HIS.out
      · exact ⟨by rw [HCS.out], KR.out.2.2.2.trans (below_grown (setRow_grown wr (B + 1 + 1) CS) (by rw [HBE.out]; omega) KR.out.2.2.2.size)⟩
    have hdj : decide ((j : Int) < (n : Int)) = true := decide_eq_true (by omega)
    have hyn := HZ.out.2.2 j hlt
    have hzj := HZ.out.2.1 j hlt
    obtain ⟨yj, hyj⟩ : ∃ yj, y.getD j 0 = yj := ⟨_, rfl⟩
    obtain ⟨xv, hxv⟩ : ∃ xv, x.getD yj 0 = xv := ⟨_, rfl⟩
    have z0 : wr.cell? ⟨B + 1, j, none⟩ = some (.int .u8 (yj : Int)) := (KR.out.2.2.1.cell j).trans (by rw [HE.out.2 j (by omega), hyj])
    rw [hyj] at hyn hzj
    have z1 : wr.cell? ⟨B, yj, none⟩ = some (.int .u8 (xv : Int)) := (KR.out.2.1.cell yj).trans (by rw [HE.out.1 yj (by omega), hxv])
    rw [hxv] at hzj
    have z2 : wr.cell? ⟨B + 1 + 1, j, none⟩ = some (.int .u8 (((z.take j).getD j 0 : Nat) : Int)) := (KR.out.1.cell j).trans (ucs_at _ (by omega))
    have f1 := KR.out.1.frozen j
    have hst := KR.out.1.set (i := j) (v := .int .u8 (xv : Int))
    rw [ucs_set, ucs_eq (fun i _ => take_getD hzj i)] at hst
    have hg6 := set_grown_at wr (B + 1 + 1) j (.int .u8 (xv : Int))
    have HST := Lib.hid (And.intro hst (And.intro (KR.out.2.1.grown hg6 (by simp; omega)) (And.intro (KR.out.2.2.1.grown hg6 (by simp)) (KR.out.2.2.2.setCell (p := ⟨B + 1 + 1, j, none⟩) (by rw [HBE.out]; show B ≤ B + 1 + 1; omega) (.int .u8 (xv : Int))))))
    have i0 : (0 : Int) ≤ (j : Int) := by omega
    have i1 : (j : Int) < 256 := by omega
    have i2 : (0 : Int) ≤ (yj : Int) := by omega
    have i3 : (yj : Int) < 256 := by omega
    obtain ⟨v1, hv1⟩ : ∃ v1, (z.take j).getD j 0 = v1 := ⟨_, rfl⟩
    rw [hv1] at z2
    clear hyn hzj hyj hxv hst hg6 hv1 KR
    go_wp2_with fail
    go_roundw
    case rel => exact ⟨j + 1, by omega, by go_num, HST.out⟩
    case measure => simp [intOf]; omega
end Go.Proofs.Ytobchecnfkocdaa
