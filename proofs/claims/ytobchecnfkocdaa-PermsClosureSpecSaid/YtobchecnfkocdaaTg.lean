/- trivialGroup. -/
import Derived.Test.YtobchecnfkocdaaGs
import Derived.Carry
namespace Go.Proofs.Ytobchecnfkocdaa
open Go.RowKit
set_option linter.unusedVariables false
set_option linter.unusedSimpArgs false

theorem ris_ints (n : Nat) : ris (fun i => (i : Int)) n = ints (List.range n) := rfl

theorem GS.up {B N G mb mc cg ce : Nat} {W W' : World} {gens els : List (List Nat)} {Ag Ae : Option Addr} (h : GS B N W G gens els mb mc Ag cg Ae ce) (hb : Below W.heap.size W W') : GS B N W' G gens els mb mc Ag cg Ae ce := by
  obtain ⟨h1, h2, h3, h4, ⟨S, h5, h6⟩, h7, h8, h9, h10⟩ := h
  exact ⟨h1.below hb, own_below h2 hb, own_below h3 hb, h4, ⟨S, h5.kept (below_row hb none) (by simp), h6⟩, h7, h8, h9, h10⟩
theorem ok_range {n : Nat} (hn : n ≤ 256) : Ok n (List.range n) := ⟨List.length_range, fun x hx => by have := List.mem_range.1 hx; omega⟩
set_option maxHeartbeats 8000000 in
set_option maxRecDepth 100000 in
theorem trivial_any (n : Nat) (w : World) (hn : n ≤ 256) :
    Calls Try.prog 33 #[.int .i64 (n : Int)] w (fun e w' => ∃ G mb Ae ce, e = .returned (.pointer (some ⟨G, 0, none⟩)) ∧ GS w.heap.size n w' G [] [List.range n] mb 1 none 0 Ae ce ∧ Below w.heap.size w w') := by
  have hXl : (ris (fun i => (i : Int)) n).length = n := ris_length _ n
  have hXa : ∀ j, j < n → (ris (fun i => (i : Int)) n)[j]? = some (j : Int) := fun j hj => ris_at (fun i => (i : Int)) hj
  have HX := Lib.hid (And.intro hXl (And.intro hXa (ris_ints n)))
  generalize ris (fun i => (i : Int)) n = X at *
  clear hXl hXa
  obtain ⟨i0, hi0, hz0, hz1, hz2⟩ := info_parts i64_info
  go_enter Try.func33, Try.ntmps33
  go_wp2_with (refine wpList_make_full _ rfl (.tmp 6) (.tmp 6) 22 rfl w.heap.size 3 i0 (.int .i64 0) 1 Try.underlying22 hi0 hz0 hz1 .i64 .i64 n n n rfl rfl rfl rfl (by rw [hz2]; omega) (le_maxLen (by omega)) (Nat.le_refl _) ?_; intro w3 hown hgr; rw [Nat.mul_one, show (Value.int .i64 0).cells = #[.int .i64 0] from rfl, toList_madeCells_one] at hown; have HW := Lib.hid (And.intro hown (grown_below hgr)); clear hown hgr)
  obtain ⟨Z, hZ⟩ : ∃ Z, w.heap.size = Z := ⟨_, rfl⟩
  rw [hZ] at HW ⊢
  have HZ := Lib.hid hZ
  clear hZ
  go_loopw [10] (fun i wr => ∃ j : Nat, j ≤ n ∧ i = .int .i64 (j : Int) ∧ wr.ownsRow Z 3 1 (.slice (some ⟨Z, 0, none⟩) n n) n ((X.map iv).take j ++ List.replicate (n - j) (.int .i64 0)) ∧ Below Z w wr) (fun i _ => n - (intOf i).toNat)
  case atStart => exact ⟨0, Nat.zero_le _, rfl, by rw [← fill_zero]; exact HW.out.1, HW.out.2⟩
  case round =>
    obtain ⟨j, hj, rfl, hown, hb⟩ := hrel
    have KR := Lib.hid (And.intro hown hb)
    clear hown hb HW
    by_cases hlt : j < n
    case pos =>
      have hdj : decide ((j : Int) < (n : Int)) = true := decide_eq_true (by omega)
      have hXj : (X.map iv)[j]? = some (.int .i64 (j : Int)) := by rw [List.getElem?_map, HX.out.2.1 j hlt]; rfl
      have f1 := KR.out.1.frozenAt j
      have hzz : ∃ u, wr.cell? ⟨Z, j, none⟩ = some u := by
        refine ⟨_, (KR.out.1.cellAt j (by omega)).trans (List.getElem?_eq_getElem (h := ?_))⟩
        have := KR.out.1.1
        omega
      obtain ⟨u, hu⟩ := hzz
      have hst := KR.out.1.stored j (.int .i64 (j : Int))
      rw [fill_set (by rw [List.length_map]; exact HX.out.1) hXj] at hst
      have HST := Lib.hid (And.intro hst.1 (KR.out.2.setCell (p := ⟨Z, j, none⟩) (Nat.le_refl _) (.int .i64 (j : Int))))
      have i0 : (0 : Int) ≤ (j : Int) := by omega
      have i1 : (j : Int) < (n : Int) := by omega
      clear hXj hst KR
      go_wp2_with fail
      go_roundw
      case rel => exact ⟨j + 1, by omega, by go_num, HST.out⟩
      case measure => simp [intOf]; omega
    case neg =>
    have hdj : decide ((j : Int) < (n : Int)) = false := decide_eq_false (by omega)
    obtain rfl : j = n := by omega
    have h := KR.out.1
    rw [fill_end (by rw [List.length_map]; exact HX.out.1)] at h
    have HF := Lib.hid (show Si wr (some ⟨Z, 0, none⟩) X j from Sv.of_own h (by rw [List.length_map]; exact HX.out.1))
    have HWZ := Lib.hid (show w.heap.size ≤ wr.heap.size from KR.out.2.size)
    clear h
    have hmm := @run_makeMap Try.prog
    go_upto_region 8 with fail
    clear hmm
    have hba1 := (Below.refl wr.heap.size wr).alloc (Nat.le_refl _) (.map #[] 0)
    have hba2 := (Below.refl (wr.alloc (.map #[] 0)).heap.size (wr.alloc (.map #[] 0))).alloc (Nat.le_refl _) (.cells #[.int .i64 (j : Int), .slice none 0 0, .slice none 0 0, .map (some wr.heap.size)] 64)
    have hbx := Box.new (wr.alloc (.map #[] 0)) #[.int .i64 (j : Int), .slice none 0 0, .slice none 0 0, .map (some wr.heap.size)] 64
    rw [World.size_alloc] at hbx
    have hme := (ME.new j wr).kept (below_row hba2 none) (by simp)
    have hba := hba1.trans (hba2.mono hba1.size)
    have hGS : GS Z j ((wr.alloc (.map #[] 0)).alloc (.cells #[.int .i64 (j : Int), .slice none 0 0, .slice none 0 0, .map (some wr.heap.size)] 64)) (wr.heap.size + 1) [] [] wr.heap.size 0 none 0 none 0 := ⟨hbx, World.ownsRow_nil _ _ _ _, World.ownsRow_nil _ _ _ _, .inl rfl, ⟨[], hme, fun q => Iff.rfl⟩, by have := HWZ.out; have := HZ.out; omega, by have := HWZ.out; have := HZ.out; omega, (fun q hq => absurd hq (List.not_mem_nil)), (fun q hq => absurd hq (List.not_mem_nil))⟩
    have hW2 := (show Below w.heap.size w wr from by rw [HZ.out]; exact KR.out.2).trans (hba.mono HWZ.out)
    have hel := elementOf_any (some ⟨Z, 0, none⟩) j (List.range j) _ (by rw [← HX.out.2.2]; exact HF.out.up hba) (fun x hx => by have := List.mem_range.1 hx; omega) (by rw [List.length_range]; exact hn)
    rw [List.length_range] at hel
    have HEL := Lib.hid hel
    have HG := Lib.hid (And.intro hGS hW2)
    clear hba1 hba2 hbx hme hba hGS hW2 hel
    generalize (wr.alloc (.map #[] 0)).alloc (.cells #[.int .i64 (j : Int), .slice none 0 0, .slice none 0 0, .map (some wr.heap.size)] 64) = W2 at *
    obtain ⟨G, hG⟩ : ∃ G, wr.heap.size + 1 = G := ⟨_, rfl⟩
    obtain ⟨mb, hmb⟩ : ∃ mb, wr.heap.size = mb := ⟨_, rfl⟩
    rw [hG, hmb] at HG
    rw [hmb] at hG ⊢
    rw [hG]
    clear hG hmb
    go_wp2_with fail
    refine HEL.out.mono ?_
    rintro e w4 ⟨rfl, hb4⟩
    have HPT := Lib.hid (put_any Z j G [] [] mb 0 none 0 none 0 (List.range j) w4 (HG.out.1.up hb4) (ok_range hn) hn (by omega) (by simp))
    have HB4 := Lib.hid (HG.out.2.trans (hb4.mono HG.out.2.size))
    clear hb4 HEL
    go_wp2_with fail
    refine HPT.out.mono ?_
    rintro e w5 ⟨rfl, Ae, ce, hg5, hb5⟩
    have HF5 := Lib.hid (And.intro hg5 (HB4.out.trans (show Below w.heap.size w4 w5 from by rw [HZ.out]; exact hb5)))
    clear hg5 hb5
    go_wp2_with fail
    go_ret
    exact ⟨G, mb, Ae, ce, rfl, by rw [HZ.out]; exact HF5.out.1, HF5.out.2⟩
end Go.Proofs.Ytobchecnfkocdaa
