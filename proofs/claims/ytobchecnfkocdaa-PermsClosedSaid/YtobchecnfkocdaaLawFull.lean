/- PermsFull. -/
import Derived.Test.YtobchecnfkocdaaPgF
import Derived.Test.YtobchecnfkocdaaVal
import Derived.Test.YtobchecnfkocdaaSane
import Derived.Test.YtobchecnfkocdaaSan
import Derived.Deep.CutRange
namespace Go.Proofs.Ytobchecnfkocdaa
open Go.RowKit
set_option linter.unusedVariables false
set_option linter.unusedSimpArgs false

theorem step_make {w : World} {ops : Array Oper} {o : Oper} {a : Act} {K : Act → World → Prop} {Q : Exit → Act → World → Prop} {E : Prop} (hgd : o.guard = none) (l c : Operand) (ho : o.op = Op.makeSlice 22 l c) (n : Nat) (hl : a.eval l = .int .i64 (n : Int)) (hc : a.eval c = .int .i64 (n : Int)) (hn : n ≤ 1000000)
    (h : ∀ w', w'.ownsRow w.heap.size 3 1 (.slice (some ⟨w.heap.size, 0, none⟩) n n) n (List.replicate n (.int .i64 0)) → w.grownBy w' none → K (a.put o.dst (.slice (some ⟨w.heap.size, 0, none⟩) n n)) w') :
    if Region.wanted o (yielded ops a.tmps) = true then Oper.wp Try.prog o a w K Q else E := by
  have hw : Region.wanted o (yielded ops a.tmps) = true := by simp [Region.wanted, hgd]
  rw [if_pos hw]
  obtain ⟨i0, hi0, hz0, hz1, hz2⟩ := info_parts i64_info
  obtain ⟨w', hrun, r1, r2⟩ := run_make_full (P := Try.prog) w w.heap.size 22 3 i0 (.int .i64 0) 1 Try.underlying22 hi0 hz0 hz1 .i64 .i64 n (by rw [hz2]; omega) (le_maxLen (by omega)) (Nat.le_refl _)
  rw [Nat.mul_one, show (Value.int .i64 0).cells = #[.int .i64 0] from rfl, toList_madeCells_one] at r1
  unfold Oper.wp
  simp [execOp, ho, hl, hc, hrun, Result.andThen]
  exact h w' r1 r2
/-- Two new rows of zeros. -/
def Two0 (B k : Nat) (w1 : World) (a b : Value) (wx : World) : Prop :=
  ∃ b1 b2 : Nat, a = .slice (some ⟨b1, 0, none⟩) k k ∧ b = .slice (some ⟨b2, 0, none⟩) k k ∧ b1 ≠ b2 ∧ wx.ownsRow B 3 1 (.slice (some ⟨b1, 0, none⟩) k k) k (List.replicate k (.int .i64 0)) ∧ wx.ownsRow B 3 1 (.slice (some ⟨b2, 0, none⟩) k k) k (List.replicate k (.int .i64 0)) ∧ Below B w1 wx

theorem two0_a {B k : Nat} {w1 w2 w3 : World} (hB : w1.heap.size = B) (h2 : w2.ownsRow w1.drew.heap.size 3 1 (.slice (some ⟨w1.drew.heap.size, 0, none⟩) k k) k (List.replicate k (.int .i64 0))) (g2 : w1.drew.grownBy w2 none)
    (h3 : w3.ownsRow w2.heap.size 3 1 (.slice (some ⟨w2.heap.size, 0, none⟩) k k) k (List.replicate k (.int .i64 0))) (g3 : w2.grownBy w3 none) : Two0 B k w1 (.slice (some ⟨w1.drew.heap.size, 0, none⟩) k k) (.slice (some ⟨w2.heap.size, 0, none⟩) k k) w3 := by
  have hz : w1.drew.heap.size = B := hB
  rw [hz] at h2 ⊢
  have hlt := (h2.lt B rfl).2
  refine ⟨B, w2.heap.size, rfl, rfl, by omega, own_below h2 (grown_below g3), own_mono h3 (by omega), ?_⟩
  have b2 : Below B w1 w2 := by
    have h := grown_below g2
    rw [hz] at h
    exact (Below.refl B w1).drew.trans h
  exact b2.trans ((grown_below g3).mono (by omega))
theorem two0_b {B k : Nat} {w1 w2 w3 : World} (hB : w1.heap.size = B) (h2 : w2.ownsRow w1.drew.heap.size 3 1 (.slice (some ⟨w1.drew.heap.size, 0, none⟩) k k) k (List.replicate k (.int .i64 0))) (g2 : w1.drew.grownBy w2 none)
    (h3 : w3.ownsRow w2.heap.size 3 1 (.slice (some ⟨w2.heap.size, 0, none⟩) k k) k (List.replicate k (.int .i64 0))) (g3 : w2.grownBy w3 none) : Two0 B k w1 (.slice (some ⟨w2.heap.size, 0, none⟩) k k) (.slice (some ⟨w1.drew.heap.size, 0, none⟩) k k) w3 := by
  obtain ⟨b1, b2, e1, e2, h1, h4, h5, h6⟩ := two0_a hB h2 g2 h3 g3
  exact ⟨b2, b1, e2, e1, h1.symm, h5, h4, h6⟩

theorem sw_set : ∀ k, k < 17 → 2 ≤ k → ((List.range k).set 0 1).set 1 0 = sw k := by decide +kernel
theorem sw_row {k : Nat} (h1 : k < 17) (h2 : 2 ≤ k) : (((ints (List.range k)).map iv).set 0 (.int .i64 1)).set 1 (.int .i64 0) = (ints (sw k)).map iv := by
  rw [← sw_set k h1 h2]
  unfold ints
  rw [List.map_map, List.map_map, List.map_set, List.map_set]
  rfl
theorem full1 {k b1 : Nat} (h1 : k < 17) (h2 : 2 ≤ k) (W : World) (hT : Si W (some ⟨b1, 0, none⟩) (ints (tn k)) k) :
    Calls Try.prog 19 #[.int .i64 (k : Int), .slice (some ⟨W.heap.size, 0, none⟩) 1 1] (W.alloc (.cells #[.slice (some ⟨b1, 0, none⟩) k k] 22)) (fun e w' => ∃ A c, e = .returned (.tuple #[.slice A k c, .int .i64 0]) ∧ Below W.heap.size W w') := by
  have pt := tn_pm k h1 h2
  have hlt : (ints (tn k)).length = k := by rw [ints_length, pt.1]
  have h := closure_pm (N := k) (gs := [tn k]) (by omega) (by simp) (fun g hg => by rw [List.mem_singleton.1 hg]; exact pt) (A := some ⟨W.heap.size, 0, none⟩) (c := 1) (w := W.alloc (.cells #[.slice (some ⟨b1, 0, none⟩) k k] 22)) (ri_box (ls := [tn k].map ints) (Box.new W _ _) (list1 ⟨some ⟨b1, 0, none⟩, k, by rw [hlt]; rfl, hT.up (al1 W _)⟩) (by simp))
  refine h.mono ?_
  intro e w' hc
  rcases hc with ⟨hbig, _⟩ | ⟨A, m, c, ls, rfl, hol, hs, hm, _, hb⟩
  · exact absurd hbig (not_big (gen_tn h1 h2) (by rw [List.length_map, List.length_range]; omega))
  · have hl : m = k := by
      rw [← hol.1, List.length_map]
      have := nd_len (srt_nodup hs) (tn_nd k h1 h2) (fun x => (hm x).trans (gen_tn h1 h2 x))
      rwa [List.length_map, List.length_range] at this
    subst hl
    exact ⟨A, c, rfl, (al1 W _).trans (hb.mono (al1 W _).size)⟩
theorem both_pm {k : Nat} (h1 : k < 17) (h2 : 2 ≤ k) : ∀ g ∈ [tn k, sw k], Pm k g := fun g hg => by
  simp only [List.mem_cons, List.not_mem_nil, or_false] at hg
  rcases hg with rfl | rfl
  · exact tn_pm k h1 h2
  · exact sw_pm k h1 h2
theorem full2 {k b1 b2 : Nat} (h1 : k < 17) (h2 : 2 ≤ k) (W : World) (hT : Si W (some ⟨b1, 0, none⟩) (ints (tn k)) k) (hS : Si W (some ⟨b2, 0, none⟩) (ints (sw k)) k) :
    Calls Try.prog 19 #[.int .i64 (k : Int), .slice (some ⟨W.heap.size, 0, none⟩) 2 2] (W.alloc (.cells #[.slice (some ⟨b1, 0, none⟩) k k, .slice (some ⟨b2, 0, none⟩) k k] 22)) (fun e w' => ∃ A n c er, e = .returned (.tuple #[.slice A n c, .int .i64 er]) ∧ (k ≤ 6 → n = fac k ∧ er = 0) ∧ (7 ≤ k → n = 0 ∧ er = 2) ∧ Below W.heap.size W w') := by
  have pt := tn_pm k h1 h2
  have ps := sw_pm k h1 h2
  have hlt : (ints (tn k)).length = k := by rw [ints_length, pt.1]
  have hls : (ints (sw k)).length = k := by rw [ints_length, ps.1]
  have h := closure_pm (N := k) (gs := [tn k, sw k]) (by omega) (by simp) (both_pm h1 h2) (A := some ⟨W.heap.size, 0, none⟩) (c := 2) (w := W.alloc (.cells #[.slice (some ⟨b1, 0, none⟩) k k, .slice (some ⟨b2, 0, none⟩) k k] 22)) (ri_box (ls := [tn k, sw k].map ints) (Box.new W _ _) (list2 ⟨some ⟨b1, 0, none⟩, k, by rw [hlt]; rfl, hT.up (al1 W _)⟩ ⟨some ⟨b2, 0, none⟩, k, by rw [hls]; rfl, hS.up (al1 W _)⟩) (by simp))
  refine h.mono ?_
  intro e w' hc
  rcases hc with ⟨⟨M, m1, m2, m3⟩, rfl, hb⟩ | ⟨A, m, c, ls, rfl, hol, hs, hm, hl, hb⟩
  · refine ⟨none, 0, 0, 2, rfl, fun h6 => ?_, fun _ => ⟨rfl, rfl⟩, (al1 W _).trans (hb.mono (al1 W _).size)⟩
    have h3 := pm_few m1 (fun q hq => (m3 q hq).pm (both_pm h1 h2))
    have h4 := fac_small k (by omega)
    omega
  · have hf := gen_both h1 h2 hm
    have hml : ls.length = m := by have := hol.1; rwa [List.length_map] at this
    refine ⟨A, m, c, 0, rfl, fun h6 => ⟨?_, rfl⟩, fun h7 => ?_, (al1 W _).trans (hb.mono (al1 W _).size)⟩
    · have h3 := pm_few (srt_nodup hs) (fun q hq => ((hm q).1 hq).pm (both_pm h1 h2))
      omega
    · have h4 := fac_big k h1 h7
      omega
theorem full3 {k b1 : Nat} (h1 : k < 17) (h2 : 2 ≤ k) (W : World) (hT : Si W (some ⟨b1, 0, none⟩) (ints (tn k)) k) :
    Calls Try.prog 21 #[.int .i64 (k : Int), .slice (some ⟨W.heap.size, 0, none⟩) 1 1] (W.alloc (.cells #[.slice (some ⟨b1, 0, none⟩) k k] 22)) (fun e w' => ∃ A c, e = .returned (.tuple #[.slice A 1 c, .int .i64 0]) ∧ RI w' A [ints (List.range k)] c ∧ Below W.heap.size W w') := by
  have pt := tn_pm k h1 h2
  have hlt : (ints (tn k)).length = k := by rw [ints_length, pt.1]
  have h := orbits_pm (N := k) (gs := [tn k]) (by omega) (by simp) (fun g hg => by rw [List.mem_singleton.1 hg]; exact pt) (A := some ⟨W.heap.size, 0, none⟩) (c := 1) (w := W.alloc (.cells #[.slice (some ⟨b1, 0, none⟩) k k] 22)) (ri_box (ls := [tn k].map ints) (Box.new W _ _) (list1 ⟨some ⟨b1, 0, none⟩, k, by rw [hlt]; rfl, hT.up (al1 W _)⟩) (by simp))
  refine h.mono ?_
  rintro e w' ⟨A, m, c, rfl, hol, hb⟩
  rw [tn_orbs k (by omega) (Nat.le_refl _)] at hol
  have hm : m = 1 := hol.1.symm
  subst hm
  exact ⟨A, c, rfl, hol.ri, (al1 W _).trans (hb.mono (al1 W _).size)⟩

set_option maxHeartbeats 8000000 in
set_option maxRecDepth 100000 in
theorem lawFull_any (y : Nat) (hy : y < 256) (w : World) : Calls Try.prog 9 #[.int .u8 (y : Int)] w (QB true w) := by
  have HSN := Lib.hid (sane_all w)
  unfold QB at HSN
  obtain ⟨r, hr⟩ : ∃ r, y % 15 = r := ⟨_, rfl⟩
  obtain ⟨k, hk⟩ : ∃ k, 2 + r = k := ⟨_, rfl⟩
  have hk1 : k < 17 := by omega
  have hk2 : 2 ≤ k := by omega
  have e1 : IntKind.i64.wrap (y : Int) = (y : Int) := by rw [IntKind.wrap_i64]; omega
  have e2 : Int.tmod (y : Int) 15 = (r : Int) := by rw [Int.tmod_eq_emod_of_nonneg (by omega)]; omega
  have e3 : (2 : Int) + (r : Int) = (k : Int) := by omega
  clear hr hk
  go_enter Try.func9, Try.ntmps9
  go_wp2_with fail
  refine HSN.out.mono ?_
  rintro e w1 ⟨rfl, hb⟩
  have HB1 := Lib.hid hb
  clear hb HSN
  go_upto_region 4 with fail
  clear e1 e2 e3
  obtain ⟨B, hB⟩ : ∃ B, w1.heap.size = B := ⟨_, rfl⟩
  have HB := Lib.hid hB
  clear hB
  go_cut [4, 5] from 21 (fun a b wx => Two0 B k w1 a b wx)
  case first =>
    refine wp_region_later 5 (fun _ => True) (by kernel_rfl) ?_
    refine takeL (d := some 21) (i := 0) (v := ?v0) rfl rfl (by kernel_rfl) (by kernel_rfl) (by kernel_rfl) (fun _ _ _ h => h) rfl (by kernel_rfl) (Or.inl ⟨by rfl, ?y0⟩) trivial ?r0
    case y0 =>
      intro w hSw
      clear hSw
      go_simp
      all_goals with_reducible rfl
    try simp only [Act.put, List.setIfInBounds_toArray, List.set_cons_zero, List.set_cons_succ]
    refine takeL (d := some 23) (i := 2) (v := ?v2) rfl rfl (by kernel_rfl) (by kernel_rfl) (by kernel_rfl) (fun _ _ _ h => h) rfl (by kernel_rfl) (Or.inl ⟨by rfl, ?y2⟩) trivial ?r2
    case y2 =>
      intro w hSw
      clear hSw
      go_simp
      all_goals with_reducible rfl
    try simp only [Act.put, List.setIfInBounds_toArray, List.set_cons_zero, List.set_cons_succ]
    refine twoL (i := 1) (j := 3) (by kernel_rfl) rfl rfl (fun K' hK => ?_) (fun K' hK => ?_)
    · refine step_make (by rfl) (.tmp 21) (.tmp 21) (by rfl) k (by rfl) (by rfl) (by omega) ?_
      intro w2 ho2 hg2
      refine hK.out _ _ (fun _ => trivial) ?_
      clear hK
      refine twoL (i := 3) (j := 4) (by kernel_rfl) rfl rfl (fun K' hK => ?_) (fun K' hK => ?_)
      · refine step_make (by rfl) (.tmp 23) (.tmp 23) (by rfl) k (by rfl) (by rfl) (by omega) ?_
        intro w3 ho3 hg3
        refine hK.out _ _ (fun _ => trivial) ?_
        clear hK
        refine oneL (i := 4) (by kernel_rfl) rfl (fun K' hK => ?_)
        go_simp
        refine hK.out _ _ (fun _ => trivial) ?_
        clear hK
        refine oneL (i := 5) (by kernel_rfl) rfl (fun K' hK => ?_)
        go_simp
        refine hK.out _ _ (fun e => by simp at e) ?_
        clear hK
        refine doneL (by kernel_rfl) ?_ _
        have F := Lib.hid (two0_a HB.out ho2 hg2 ho3 hg3)
        clear ho2 hg2 ho3 hg3
        go_wp2_with fail
        go_meet
        case rel => exact F.out
      · rw [if_pos (by rfl)]
        go_simp
        refine hK.out _ _ (fun _ => trivial) ?_
        clear hK
        refine oneL (i := 3) (by kernel_rfl) rfl (fun K' hK => ?_)
        refine step_make (by rfl) (.tmp 23) (.tmp 23) (by rfl) k (by rfl) (by rfl) (by omega) ?_
        intro w3 ho3 hg3
        refine hK.out _ _ (fun _ => trivial) ?_
        clear hK
        refine oneL (i := 5) (by kernel_rfl) rfl (fun K' hK => ?_)
        go_simp
        refine hK.out _ _ (fun e => by simp at e) ?_
        clear hK
        refine doneL (by kernel_rfl) ?_ _
        have F := Lib.hid (two0_a HB.out ho2 hg2 ho3 hg3)
        clear ho2 hg2 ho3 hg3
        go_wp2_with fail
        go_meet
        case rel => exact F.out
    · refine step_make (by rfl) (.tmp 23) (.tmp 23) (by rfl) k (by rfl) (by rfl) (by omega) ?_
      intro w2 ho2 hg2
      refine hK.out _ _ (fun _ => trivial) ?_
      clear hK
      refine oneL (i := 1) (by kernel_rfl) rfl (fun K' hK => ?_)
      refine step_make (by rfl) (.tmp 21) (.tmp 21) (by rfl) k (by rfl) (by rfl) (by omega) ?_
      intro w3 ho3 hg3
      refine hK.out _ _ (fun _ => trivial) ?_
      clear hK
      refine oneL (i := 4) (by kernel_rfl) rfl (fun K' hK => ?_)
      go_simp
      refine hK.out _ _ (fun _ => trivial) ?_
      clear hK
      refine oneL (i := 5) (by kernel_rfl) rfl (fun K' hK => ?_)
      go_simp
      refine hK.out _ _ (fun e => by simp at e) ?_
      clear hK
      refine doneL (by kernel_rfl) ?_ _
      have F := Lib.hid (two0_b HB.out ho2 hg2 ho3 hg3)
      clear ho2 hg2 ho3 hg3
      go_wp2_with fail
      go_meet
      case rel => exact F.out
  case rest =>
    obtain ⟨b1, b2, rfl, rfl, hne, ho1, ho2, hbw⟩ := hcut
    have hXl : ((ints (tn k)).map iv).length = k := by rw [List.length_map, ints_length, (tn_pm k hk1 hk2).1]
    have hYl : ((ints (List.range k)).map iv).length = k := by rw [List.length_map, ints_length, List.length_range]
    have hXa : ∀ j, j < k → ((ints (tn k)).map iv)[j]? = some (.int .i64 (((j + 1) % k : Nat) : Int)) := fun j hj => by
      rw [List.getElem?_map, ints_at (p := tn k) (j := j) (x := (j + 1) % k) (by unfold tn; rw [List.getElem?_map, List.getElem?_range hj]; rfl)]
      rfl
    have hYa : ∀ j, j < k → ((ints (List.range k)).map iv)[j]? = some (.int .i64 (j : Int)) := fun j hj => by
      rw [List.getElem?_map, ints_at (List.getElem?_range hj)]
      rfl
    have HXY := Lib.hid (And.intro hXl (And.intro hYl (And.intro hXa hYa)))
    have HW := Lib.hid (And.intro ho1 (And.intro ho2 hbw))
    have HNE := Lib.hid hne
    clear hXl hYl hXa hYa ho1 ho2 hbw hne
    go_wp2_with fail
    go_loopw [26] (fun i wr => ∃ j : Nat, j ≤ k ∧ i = .int .i64 (j : Int) ∧ wr.ownsRow B 3 1 (.slice (some ⟨b1, 0, none⟩) k k) k (((ints (tn k)).map iv).take j ++ List.replicate (k - j) (.int .i64 0)) ∧ wr.ownsRow B 3 1 (.slice (some ⟨b2, 0, none⟩) k k) k (((ints (List.range k)).map iv).take j ++ List.replicate (k - j) (.int .i64 0)) ∧ Below B w1 wr) (fun i _ => k - (intOf i).toNat)
    case atStart => exact ⟨0, Nat.zero_le _, rfl, by rw [← fill_zero]; exact HW.out.1, by rw [← fill_zero]; exact HW.out.2.1, HW.out.2.2⟩
    case round =>
      obtain ⟨j, hj, rfl, ho1, ho2, hbw⟩ := hrel
      have KR := Lib.hid (And.intro ho1 (And.intro ho2 hbw))
      clear ho1 ho2 hbw HW
      by_cases hlt : j < k
      case pos =>
        have hdj : decide ((j : Int) < (k : Int)) = true := decide_eq_true (by omega)
        obtain ⟨x, hx⟩ : ∃ x, (j + 1) % k = x := ⟨_, rfl⟩
        have hXj := HXY.out.2.2.1 j hlt
        have hYj := HXY.out.2.2.2 j hlt
        rw [hx] at hXj
        have hmod : Int.tmod ((j : Int) + 1) (k : Int) = (x : Int) := by rw [Int.tmod_eq_emod_of_nonneg (by omega), ← hx]; norm_cast
        have hk0 : ¬ (k : Int) = 0 := by omega
        have f1 := KR.out.1.frozenAt j
        obtain ⟨u1, hu1⟩ : ∃ u, wr.cell? ⟨b1, j, none⟩ = some u := by
          refine ⟨_, (KR.out.1.cellAt j (by omega)).trans (List.getElem?_eq_getElem (h := ?_))⟩
          have := KR.out.1.1
          omega
        have hst1 := KR.out.1.stored j (.int .i64 (x : Int))
        rw [fill_set HXY.out.1 hXj] at hst1
        have h2k := KR.out.2.1.kept hst1.2 (.inr (fun e => by injection e with e; exact HNE.out e.symm))
        have hbk := KR.out.2.2.setCell (p := ⟨b1, j, none⟩) (KR.out.1.lt b1 rfl).1 (.int .i64 (x : Int))
        obtain ⟨V1, hV1⟩ : ∃ V1, wr.setCell ⟨b1, j, none⟩ (.int .i64 (x : Int)) = V1 := ⟨_, rfl⟩
        rw [hV1] at hst1 h2k hbk
        have f2 := h2k.frozenAt j
        obtain ⟨u2, hu2⟩ : ∃ u, V1.cell? ⟨b2, j, none⟩ = some u := by
          refine ⟨_, (h2k.cellAt j (by omega)).trans (List.getElem?_eq_getElem (h := ?_))⟩
          have := h2k.1
          omega
        have hst2 := h2k.stored j (.int .i64 (j : Int))
        rw [fill_set HXY.out.2.1 hYj] at hst2
        have HST := Lib.hid (And.intro (hst1.1.kept hst2.2 (.inr (fun e => by injection e with e; exact HNE.out e))) (And.intro hst2.1 (hbk.setCell (p := ⟨b2, j, none⟩) (h2k.lt b2 rfl).1 (.int .i64 (j : Int)))))
        have i0 : (0 : Int) ≤ (j : Int) := by omega
        have i1 : (j : Int) < (k : Int) := by omega
        clear hXj hYj hx hst1 h2k hbk hst2 KR
        go_wp2_with fail
        go_roundw
        case rel => exact ⟨j + 1, by omega, by go_num, HST.out⟩
        case measure => simp [intOf]; omega
      case neg =>
      have hdj : decide ((j : Int) < (k : Int)) = false := decide_eq_false (by omega)
      obtain rfl : j = k := by omega
      have h1 := KR.out.1
      have h2 := KR.out.2.1
      rw [fill_end HXY.out.1] at h1
      rw [fill_end HXY.out.2.1] at h2
      have f1 := h2.frozenAt 0
      have u1 : wr.cell? ⟨b2, 0, none⟩ = some (.int .i64 0) := (h2.cellAt 0 (by omega)).trans (HXY.out.2.2.2 0 (by omega))
      have hst1 := h2.stored 0 (.int .i64 1)
      have h1k := h1.kept hst1.2 (.inr (fun e => by injection e with e; exact HNE.out e))
      have hbk := KR.out.2.2.setCell (p := ⟨b2, 0, none⟩) (h2.lt b2 rfl).1 (.int .i64 1)
      obtain ⟨V1, hV1⟩ : ∃ V1, wr.setCell ⟨b2, 0, none⟩ (.int .i64 1) = V1 := ⟨_, rfl⟩
      rw [hV1] at hst1 h1k hbk
      have f2 := hst1.1.frozenAt 1
      have u2 : V1.cell? ⟨b2, 1, none⟩ = some (.int .i64 1) := by
        refine (hst1.1.cellAt 1 (by omega)).trans ?_
        rw [List.getElem?_set_ne (by omega)]
        exact HXY.out.2.2.2 1 (by omega)
      have hst2 := hst1.1.stored 1 (.int .i64 0)
      rw [sw_row hk1 hk2] at hst2
      have h1f := h1k.kept hst2.2 (.inr (fun e => by injection e with e; exact HNE.out e))
      have hbf := hbk.setCell (p := ⟨b2, 1, none⟩) (hst1.1.lt b2 rfl).1 (.int .i64 0)
      obtain ⟨V2, hV2⟩ : ∃ V2, V1.setCell ⟨b2, 1, none⟩ (.int .i64 0) = V2 := ⟨_, rfl⟩
      rw [hV2] at hst2 h1f hbf
      have HF := Lib.hid (And.intro (show Si V2 (some ⟨b1, 0, none⟩) (ints (tn j)) j from Sv.of_own h1f HXY.out.1) (And.intro (show Si V2 (some ⟨b2, 0, none⟩) (ints (sw j)) j from Sv.of_own hst2.1 (by have := hst2.1.1; omega)) (HB1.out.trans ((show Below w1.heap.size w1 V2 from by rw [HB.out]; exact hbf).mono HB1.out.size))))
      have ki2 : (1 : Int) < (j : Int) := by omega
      have ki3 : (0 : Int) < (j : Int) := by omega
      clear h1 h2 hst1 h1k hbk hst2 h1f hbf KR
      go_wp2_with fail
      refine (full1 hk1 hk2 _ HF.out.1).mono ?_
      rintro e w4 ⟨A4, c4, rfl, hb⟩
      have K4 := Lib.hid (And.intro (HF.out.1.up hb) (And.intro (HF.out.2.1.up hb) (HF.out.2.2.trans (hb.mono HF.out.2.2.size))))
      clear hb HF f1 u1 f2 u2 hV1 hV2
      go_wp2_with fail
      refine (full2 hk1 hk2 _ K4.out.1 K4.out.2.1).mono ?_
      rintro e w5 ⟨A5, n5, c5, er, rfl, h6, h7, hb⟩
      have K5 := Lib.hid (And.intro (K4.out.1.up hb) (And.intro (K4.out.2.2.trans (hb.mono K4.out.2.2.size)) (And.intro h6 h7)))
      clear hb K4 h6 h7
      go_wp2_with fail
      refine (full3 hk1 hk2 _ K5.out.1).mono ?_
      rintro e w6 ⟨A6, c6, rfl, hri, hb⟩
      obtain ⟨b, off, A', c', rfl, hbl, hc, _⟩ := hri.at_ (i := 0) (l := ints (List.range j)) rfl
      rw [ints_length, List.length_range] at hc
      have z0 : w6.cell? ⟨b, off, none⟩ = some (.slice A' j c') := hc
      have K6 := Lib.hid (K5.out.2.1.trans (hb.mono K5.out.2.1.size))
      have d1 : ((j : Int) != (j : Int)) = false := by simp
      clear hb hri hbl hc
      by_cases h6 : j ≤ 6
      · obtain ⟨hn, her⟩ := K5.out.2.2.1 h6
        subst her
        have HN := Lib.hid hn
        have d2 : decide ((6 : Int) < (j : Int)) = false := decide_eq_false (by omega)
        have d3 : ¬ (6 : Int) < (j : Int) := by omega
        clear hn
        go_wp2_with fail
        go_loopw [13, 14] (fun a b wr => ∃ (i F : Nat), 2 ≤ i ∧ i ≤ j + 1 ∧ fac (i - 1) = F ∧ a = .int .i64 (F : Int) ∧ b = .int .i64 (i : Int) ∧ Below w.heap.size w wr) (fun _ b _ => j + 1 - (intOf b).toNat)
        case atStart => exact ⟨2, 1, Nat.le_refl _, by omega, rfl, rfl, rfl, K6.out⟩
        case round =>
          obtain ⟨i, F, hi2, hij, hF, rfl, rfl, hb⟩ := hrel
          have KB := Lib.hid hb
          have HFF := Lib.hid hF
          clear hb
          have hF720 : F ≤ 720 := by rw [← hF]; exact fac_small _ (by omega)
          clear hF
          by_cases hle : i ≤ j
          · have d4 : decide ((i : Int) ≤ (j : Int)) = true := decide_eq_true (by omega)
            obtain ⟨G, hG⟩ : ∃ G, F * i = G := ⟨_, rfl⟩
            have hm : (F : Int) * (i : Int) = (G : Int) := by rw [← hG]; norm_cast
            have hG4 : G ≤ 100000 := by
              rw [← hG]
              exact Nat.le_trans (Nat.mul_le_mul hF720 (show i ≤ 6 by omega)) (by omega)
            have HG := Lib.hid (show fac (i + 1 - 1) = G by
              obtain ⟨i', rfl⟩ : ∃ i', i = i' + 1 := ⟨i - 1, by omega⟩
              rw [← hG, ← HFF.out]
              show (i' + 1) * fac i' = fac i' * (i' + 1)
              exact Nat.mul_comm _ _)
            clear hG
            go_wp2_with fail
            go_roundw
            case rel => exact ⟨i + 1, G, by omega, by omega, HG.out, rfl, by go_num, KB.out⟩
            case measure => simp [intOf]; omega
          · have d4 : decide ((i : Int) ≤ (j : Int)) = false := decide_eq_false (by omega)
            have d5 : ¬ (i : Int) ≤ (j : Int) := by omega
            have hnF : n5 = F := by
              rw [HN.out, ← HFF.out]
              congr 1
              omega
            subst hnF
            have d6 : ((n5 : Int) == (n5 : Int)) = true := by simp
            go_wp2_with fail
            go_ret
            exact ⟨rfl, KB.out⟩
      · obtain ⟨hn, her⟩ := K5.out.2.2.2 (by omega)
        subst hn her
        have d2 : decide ((6 : Int) < (j : Int)) = true := decide_eq_true (by omega)
        have d3 : (6 : Int) < (j : Int) := by omega
        go_wp2_with fail
        go_ret
        exact ⟨rfl, K6.out⟩
end Go.Proofs.Ytobchecnfkocdaa
