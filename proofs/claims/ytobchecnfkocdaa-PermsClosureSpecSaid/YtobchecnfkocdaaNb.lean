/- numbers of an element. -/
import Derived.Test.YtobchecnfkocdaaPd
import Derived.Test.YtobchecnfkocdaaCo
import Derived.Lib.OwnKind
namespace Go.Proofs.Ytobchecnfkocdaa
open Go.RowKit
set_option linter.unusedVariables false
set_option linter.unusedSimpArgs false

set_option maxHeartbeats 4000000 in
set_option maxRecDepth 100000 in
theorem numbers_any (n : Nat) (p : List Nat) (w : World) (hp : p.length = n) (hp2 : ∀ x ∈ p, x < 256) (hn : n ≤ 256) :
    Calls Try.prog 45 #[.agg (eof p), .int .i64 (n : Int)] w (fun e w' => ∃ A c, e = .returned (.slice A n c) ∧ Si w' A (ints p) c ∧ (∀ a, A = some a → ∃ cs fz, w'.heap[a.block]? = some (.cells cs 3 fz)) ∧ Below w.heap.size w w') := by
  have hex : ∀ i, i < 256 → (eof p)[i]? = some (.int .u8 ((p.getD i 0 : Nat) : Int)) := fun i hi => ucs_at _ hi
  have hpa : ∀ j, j < n → (ints p)[j]? = some ((p.getD j 0 : Nat) : Int) := fun j hj => by
    rw [getD_get (by rw [hp]; exact hj)]
    exact ints_at (List.getElem?_eq_getElem (by rw [hp]; exact hj))
  have HE := Lib.hid (And.intro hex (And.intro hpa (show (ints p).length = n from by rw [ints_length, hp])))
  have H256 := Lib.hid (fun j (hj : j < n) => hp2 _ (getD_mem (by rw [hp]; exact hj)))
  clear hp2
  obtain ⟨CX, hCX⟩ : ∃ CX, eof p = CX := ⟨_, rfl⟩
  rw [hCX] at HE ⊢
  generalize ints p = X at *
  clear hex hpa hCX hp
  obtain ⟨B, hB⟩ : ∃ B, w.heap.size = B := ⟨_, rfl⟩
  have HBE := Lib.hid hB
  have HX0 := Lib.hid (show Box (w.alloc (.cells CX 55)) B CX 55 from hB ▸ Box.new w _ _)
  have HB0 := Lib.hid (show Below B w (w.alloc (.cells CX 55)) from hB ▸ (Below.refl w.heap.size w).alloc (Nat.le_refl _) _)
  have hsz : (w.alloc (.cells CX 55)).heap.size = B + 1 := by rw [World.size_alloc, hB]
  have HSZ := Lib.hid hsz
  obtain ⟨i0, hi0, hz0, hz1, hz2⟩ := info_parts i64_info
  go_enter Try.func45, Try.ntmps45
  clear hsz
  go_upto_region 1 with fail
  clear hB
  generalize w.alloc (.cells CX 55) = V at *
  go_wp2_with (refine wpList_make_full _ rfl (.tmp 7) (.tmp 7) 22 rfl V.heap.size 3 i0 (.int .i64 0) 1 Try.underlying22 hi0 hz0 hz1 .i64 .i64 n n n rfl rfl rfl rfl (by rw [hz2]; omega) (le_maxLen (by omega)) (Nat.le_refl _) ?_; intro w3 hown hgr; rw [Nat.mul_one, show (Value.int .i64 0).cells = #[.int .i64 0] from rfl, toList_madeCells_one] at hown; rw [HSZ.out] at hown; have HW := Lib.hid (And.intro hown (And.intro (HX0.out.below (grown_below hgr)) (HB0.out.trans ((grown_below hgr).mono (by rw [HSZ.out]; exact Nat.le_succ _))))); clear hown hgr)
  rw [HSZ.out]
  go_loopw [11] (fun i wr => ∃ j : Nat, j ≤ n ∧ i = .int .i64 (j : Int) ∧ wr.ownsRow (B + 1) 3 1 (.slice (some ⟨B + 1, 0, none⟩) n n) n ((X.map iv).take j ++ List.replicate (n - j) (.int .i64 0)) ∧ Box wr B CX 55 ∧ Below B w wr) (fun i _ => n - (intOf i).toNat)
  case atStart => exact ⟨0, Nat.zero_le _, rfl, by rw [← fill_zero]; exact HW.out.1, HW.out.2⟩
  case round =>
    obtain ⟨j, hj, rfl, hown, hbx, hb⟩ := hrel
    have KR := Lib.hid (And.intro hown (And.intro hbx hb))
    clear hown hbx hb HW
    by_cases hlt : j < n
    case neg =>
      have hdj : decide ((j : Int) < (n : Int)) = false := decide_eq_false (by omega)
      obtain rfl : j = n := by omega
      have h := KR.out.1
      rw [fill_end (by rw [List.length_map]; exact HE.out.2.2)] at h
      have HF := Lib.hid (show Si wr (some ⟨B + 1, 0, none⟩) X j from Sv.of_own h (by rw [List.length_map]; exact HE.out.2.2))
      clear h
      go_wp2_with fail
      go_ret
      exact ⟨_, _, rfl, HF.out, fun a e => by injection e with e; subst e; exact Lib.ownsRow_kind KR.out.1 (B + 1) rfl, by rw [HBE.out]; exact KR.out.2.2⟩
    have hdj : decide ((j : Int) < (n : Int)) = true := decide_eq_true (by omega)
    have hxj := HE.out.2.1 j hlt
    have hcj := HE.out.1 j (by omega)
    obtain ⟨x, hx⟩ : ∃ x, p.getD j 0 = x := ⟨_, rfl⟩
    rw [hx] at hxj hcj
    have z0 : wr.cell? ⟨B, j, none⟩ = some (.int .u8 (x : Int)) := (KR.out.2.1.cell j).trans hcj
    have hx256 := H256.out j hlt
    rw [hx] at hx256
    have f1 := KR.out.1.frozenAt j
    have hzz : ∃ u, wr.cell? ⟨B + 1, j, none⟩ = some u := by
      refine ⟨_, (KR.out.1.cellAt j (by omega)).trans (List.getElem?_eq_getElem (h := ?_))⟩
      have := KR.out.1.1
      omega
    obtain ⟨u, hu⟩ := hzz
    have hXj : (X.map iv)[j]? = some (.int .i64 (x : Int)) := by rw [List.getElem?_map, hxj]; rfl
    have hst := KR.out.1.stored j (.int .i64 (x : Int))
    rw [fill_set (by rw [List.length_map]; exact HE.out.2.2) hXj] at hst
    have HST := Lib.hid (And.intro hst.1 (And.intro (KR.out.2.1.grown hst.2 (by show some B ≠ some (B + 1); simp)) (KR.out.2.2.setCell (p := ⟨B + 1, j, none⟩) (Nat.le_succ _) (.int .i64 (x : Int)))))
    have i0 : (0 : Int) ≤ (j : Int) := by omega
    have i1 : (j : Int) < (n : Int) := by omega
    have i2 : (j : Int) < 256 := by omega
    have wx : IntKind.i64.wrap (x : Int) = (x : Int) := by rw [IntKind.wrap_i64]; omega
    clear hxj hcj hx hx256 hXj hst KR
    go_wp2_with fail
    go_roundw
    case rel => exact ⟨j + 1, by omega, by go_num, HST.out⟩
    case measure => simp [intOf]; omega
end Go.Proofs.Ytobchecnfkocdaa
