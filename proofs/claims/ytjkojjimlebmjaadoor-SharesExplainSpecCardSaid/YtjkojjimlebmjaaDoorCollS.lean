/- collected: rows of shares. -/
import Derived.Test.YtjkojjimlebmjaaDoorSh
import Derived.LoopTactic
namespace Go.Proofs.YtjkojjimlebmjaaDoor
open Go.RowKit
set_option linter.unusedVariables false

theorem made5 (z : Array Value) (hz : z.size = 5) (n : Nat) : (madeCells z (n * 5)).toList = (List.replicate n z.toList).flatten := by
  apply List.ext_getElem?
  intro j
  have h5 : ∀ b ∈ List.replicate n z.toList, b.length = 5 := fun b hb => by rw [(List.mem_replicate.1 hb).2]; simpa using hz
  have hl := flat5 _ h5
  rw [List.length_replicate] at hl
  by_cases hj : j < n * 5
  · have h1 := flat5_at _ h5 (j / 5) z.toList (j % 5) (by rw [List.getElem?_replicate, if_pos (by omega)]) (by omega)
    rw [show j / 5 * 5 + j % 5 = j by omega] at h1
    rw [h1]
    have hjs : j % 5 < z.size := by omega
    simp [madeCells, hj, hz]
    rw [getElem!_pos z _ hjs, Array.getElem?_eq_getElem hjs]
  · rw [List.getElem?_eq_none (by simp [madeCells]; omega), List.getElem?_eq_none (by omega)]

set_option maxHeartbeats 1000000 in
set_option maxRecDepth 100000 in
theorem collS (n : Nat) (hn : n ≤ 1000000) (g : FuncId) (caps : Array Value) (F : Nat → Shr) (w : World) (eg : ∀ args w, (callFunc g args).run Tryd.prog w = .ok (.enter g args) w)
    (hg : ∀ i W, i < n → w.heap.size < W.heap.size → Below w.heap.size w W → Calls Tryd.prog g (#[.int .i64 (i : Int)] ++ caps) W fun e w' => ∃ A c, e = .returned (shv (F i) A c) ∧ Sl w' A (F i).data c ∧ (∀ b off, A = some ⟨b, off, none⟩ → w.heap.size < b) ∧ Below W.heap.size W w') :
    Calls Tryd.prog 23 #[.int .i64 (n : Int), .func (.func g) #[] caps] w (RowS ((List.range n).map F) w) := by
  have HG := Lib.hid hg
  clear hg
  obtain ⟨i0, hi0, hz0, hz1, hz2⟩ := info_parts sh_info
  have HL : Hid (((List.range n).map F).length = n) := by simp [Hid]
  go_enter Tryd.func23, Tryd.ntmps23
  go_wp2_with (refine wpList_make_full _ rfl (.tmp 7) (.tmp 7) 22 rfl w.heap.size 36 i0 (.agg #[.int .i64 0, .int .i64 0, .int .i64 0, .int .i64 0, .slice none 0 0]) 5 Tryd.underlying22 hi0 hz0 hz1 .i64 .i64 n n n rfl rfl rfl rfl (by rw [hz2]; omega) (le_maxLen (by omega)) (Nat.le_refl _) ?_; intro w1 hown hgr)
  have h0 : Come w n F 0 w1 := by
    rw [made5 _ rfl] at hown
    exact ⟨_, List.length_replicate .., fun b hb => by rw [(List.mem_replicate.1 hb).2]; rfl, hown, fun i hi => by omega⟩
  have H0 := Lib.hid (And.intro h0 (grown_below hgr))
  clear h0 hown hgr
  go_loopw [11] (fun i wr => ∃ k : Nat, k ≤ n ∧ i = .int .i64 k ∧ Come w n F k wr ∧ Below w.heap.size w wr) (fun i _ => n - (intOf i).toNat)
  case atStart => exact ⟨0, Nat.zero_le _, rfl, H0.out.1, H0.out.2⟩
  case round =>
    obtain ⟨k, hk, rfl, hO, hb⟩ := hrel
    by_cases hlt : k < n
    · have HC := Lib.hid (HG.out k wr hlt hO.lt hb)
      go_wp2_with fail
      refine HC.out.mono ?_
      rintro e w2 ⟨A, c, rfl, hs, hab, hb2⟩
      have hO2 := hO.below hb2
      have hb3 := hb.trans (hb2.mono hb.size)
      obtain ⟨⟨v0, c0⟩, ⟨v1, c1⟩, ⟨v2, c2⟩, ⟨v3, c3⟩, ⟨v4, c4⟩, hfz⟩ := hO2.cells hlt
      have f0 := hfz (k * 5)
      have f1 := hfz (k * 5 + 1)
      have f2 := hfz (k * 5 + 2)
      have f3 := hfz (k * 5 + 3)
      have f4 := hfz (k * 5 + 4)
      have HO2 := Lib.hid (And.intro hO2 (And.intro hb3 (And.intro hs hab)))
      obtain ⟨m, hm⟩ : ∃ m, (F k).data.length = m := ⟨_, rfl⟩
      have HM := Lib.hid hm
      clear hO2 hb3 hO hb hb2 HC hfz hs hab
      unfold shv
      rw [hm]
      clear hm
      go_wp2_with fail
      go_roundw
      case rel =>
        have hst := HO2.out.1.step hlt A c m HM.out HO2.out.2.2.1 HO2.out.2.2.2 _ rfl
        exact ⟨k + 1, by omega, by go_num, hst.1, HO2.out.2.1.grown hst.2 HO2.out.2.1.size (fun j e => by cases e; exact Nat.le_refl _)⟩
      case measure => simp [intOf]; omega
    · obtain rfl : k = n := by omega
      have HE := Lib.hid (And.intro (hO.done hn) hb)
      clear hO hb
      go_wp2_with fail
      go_ret
      exact ⟨w.heap.size, k, Nat.le_refl _, by rw [HL.out]; rfl, HE.out.1, HE.out.2⟩
end Go.Proofs.YtjkojjimlebmjaaDoor
