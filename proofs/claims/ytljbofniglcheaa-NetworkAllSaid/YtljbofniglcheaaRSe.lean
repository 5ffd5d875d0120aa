/- The reference's Send. -/
import Derived.Test.YtljbofniglcheaaSe
import Derived.Test.YtljbofniglcheaaRMv
namespace Go.Proofs.Ytljbofniglcheaa
open Go.RowKit
set_option linter.unusedVariables false

theorem QQ.all {w : World} {A : Option Addr} {l : List Pk} {c : Nat} (h : QQ w A l c) : ∃ vs, PkF w l vs ∧ ∀ Z, Below w.heap.size w Z → ∀ b, A = some b → ∀ (j : Nat) u, vs[j]? = some u → Z.cell? (b.add j) = some u := by
  by_cases h0 : 0 < l.length
  · obtain ⟨b, off, vs, rfl, hb, hs, hc⟩ := h.1 h0
    refine ⟨vs, hs, fun Z hZ b' e j u hj => ?_⟩
    cases e
    rw [add_off]
    exact (hZ.cell (p := ⟨b, off + j, none⟩) hb).trans (hc j u hj)
  · have : l = [] := List.eq_nil_of_length_eq_zero (by omega)
    subst this
    exact ⟨[], rfl, fun Z hZ b' e j u hj => by cases hj⟩
theorem lit_cells {w : World} {g : Nat} {x y z : Value} {t : TypeId} (h : Box w g #[x, y, z] t) : ∀ b, some (⟨g, 0, none⟩ : Addr) = some b → ∀ (j : Nat) u, [x, y, z][j]? = some u → w.cell? (b.add j) = some u := by
  intro b e j u hj
  cases e
  rw [add_off, Nat.zero_add, h.cell j]
  simpa using hj

set_option maxHeartbeats 4000000 in
set_option maxRecDepth 100000 in
theorem rsend_any (n : Nt) (A B D : Option Addr) (c k d : Nat) (p : Pk) (w : World) (hS : NtIn w n A c B k) (hD : Sl w D p.da d) :
    Calls Try.prog 12 #[ntv n A c B k, pkv p D d] w (NtPost (sn n p) (sne n p) w) := by
  have h2 := tri_new w n A c B k p D d
  have hdl : p.da.length ≤ 9223372036854775807 := by have := Nat.le_trans hD.2.1 hD.2.2.1; unfold maxLen at this; omega
  have HC := Lib.hid (fun W (hb : Below w.heap.size w W) => rcheck_any n A B c k W (hS.up hb))
  have HP := Lib.hid (fun W => rpacket_any p D d W hdl)
  have H2 := Lib.hid h2
  have HSI := Lib.hid (And.intro hS hD)
  obtain ⟨vsA, hvF, hvC⟩ := hS.1.all
  have HQ := Lib.hid (And.intro hvF (And.intro hvC hS.1.2.2.2))
  have HE := Lib.hid (show sne n p = (if vld n && okp p then wte n else 90) ∧ sn n p = (if vld n && okp p then wt n p else nt0) from ⟨rfl, rfl⟩)
  have HV := Lib.hid (show vld n = true → n.q.length ≤ 4096 from fun h => by unfold vld at h; simp only [Bool.and_eq_true, decide_eq_true_eq] at h; exact h.1.1)
  unfold NtPost IntPost BoolPost at *
  unfold ntv ntc pkv pkc at *
  clear h2 hS hD hvF hvC
  obtain ⟨N, hN⟩ : ∃ N, n.q.length = N := ⟨_, rfl⟩
  obtain ⟨M, hM⟩ : ∃ M, n.ap.length = M := ⟨_, rfl⟩
  obtain ⟨m, hm⟩ : ∃ m, p.da.length = m := ⟨_, rfl⟩
  obtain ⟨a, ha⟩ : ∃ a, p.fr = a := ⟨_, rfl⟩
  obtain ⟨b, hb⟩ : ∃ b, p.to = b := ⟨_, rfl⟩
  have HN := Lib.hid (And.intro hN (And.intro hM (And.intro hm (And.intro ha hb))))
  rw [hN, hM] at HC H2
  rw [hm, ha, hb] at HP H2
  rw [hN] at HV
  rw [hN, hM, hm, ha, hb]
  clear hN hM hm ha hb hdl
  go_enter Try.func12, Try.ntmps12
  go_wp2_with fail
  generalize World.alloc _ _ = W at *
  obtain ⟨⟨x0, x1⟩, ⟨y0, y1, y2⟩, z0, z1, g0, g1⟩ := H2.out.facts (Below.refl _ _)
  rw [HN.out.1] at x0
  rw [HN.out.2.1] at x1
  rw [HN.out.2.2.2.1] at y0
  rw [HN.out.2.2.2.2] at y1
  rw [HN.out.2.2.1] at y2
  rcases chk_cases n with ⟨h1, hv⟩ | ⟨h1, hv⟩
  case inr =>
    rw [h1] at HC
    rw [hv, Bool.false_and] at HE
    clear h1 hv HV
    go_wp2_with fail
    refine (HC.out _ H2.out.below).mono ?_
    rintro e w1 ⟨rfl, hb1⟩
    have HBW := Lib.hid (H2.out.below.trans (hb1.mono H2.out.below.size))
    have HF := Lib.hid (fin2 (r := w.heap.size + 1 + 1) (by omega) (H2.out.res.below hb1) HBW.out (NtIn.zero w1) (l1 := 0) (l2 := 0) rfl rfl)
    clear x0 x1 y0 y1 y2 z0 z1 g0 g1
    obtain ⟨_, _, z0, z1, g0, g1⟩ := H2.out.facts hb1
    clear hb1
    go_wp2_with fail
    refine bodyPost_ret (nt_ret2 Try.results12 rfl HF.out.1) rfl ⟨none, 0, none, 0, ?_, ?_, ?_⟩
    · rw [HE.out.1, HE.out.2]; rfl
    · rw [HE.out.2]; exact HF.out.2.1
    · exact HF.out.2.2
  rw [h1] at HC
  have HV1 := Lib.hid (HV.out hv)
  rw [hv, Bool.true_and] at HE
  clear h1 hv HV
  go_wp2_with fail
  refine (HC.out _ H2.out.below).mono ?_
  rintro e w1 ⟨rfl, hb1⟩
  have HB1 := Lib.hid hb1
  clear x0 x1 y0 y1 y2 z0 z1 g0 g1
  obtain ⟨⟨x0, x1⟩, ⟨y0, y1, y2⟩, z0, z1, g0, g1⟩ := H2.out.facts hb1
  rw [HN.out.1] at x0
  rw [HN.out.2.1] at x1
  rw [HN.out.2.2.2.1] at y0
  rw [HN.out.2.2.2.2] at y1
  rw [HN.out.2.2.1] at y2
  clear hb1
  go_wp2_with fail
  refine (HP.out _).mono ?_
  rintro e w2 ⟨rfl, hb2⟩
  have HB2 := Lib.hid (HB1.out.trans (hb2.mono HB1.out.size))
  clear x0 x1 y0 y1 y2 z0 z1 g0 g1 hb2
  obtain ⟨⟨x0, x1⟩, ⟨y0, y1, y2⟩, z0, z1, g0, g1⟩ := H2.out.facts HB2.out
  rw [HN.out.1] at x0
  rw [HN.out.2.1] at x1
  rw [HN.out.2.2.2.1] at y0
  rw [HN.out.2.2.2.2] at y1
  rw [HN.out.2.2.1] at y2
  have HBW := Lib.hid (H2.out.below.trans (HB2.out.mono H2.out.below.size))
  rcases Bool.eq_false_or_eq_true (okp p) with hp | hp
  case inr =>
    rw [hp] at HE ⊢
    clear hp
    have HF := Lib.hid (fin2 (r := w.heap.size + 1 + 1) (by omega) (H2.out.res.below HB2.out) HBW.out (NtIn.zero w2) (l1 := 0) (l2 := 0) rfl rfl)
    go_wp2_with fail
    refine bodyPost_ret (nt_ret2 Try.results12 rfl HF.out.1) rfl ⟨none, 0, none, 0, ?_, ?_, ?_⟩
    · rw [HE.out.1, HE.out.2]; rfl
    · rw [HE.out.2]; exact HF.out.2.1
    · exact HF.out.2.2
  rw [hp] at HE ⊢
  clear hp
  have HE2 := Lib.hid (show sne n p = wte n ∧ sn n p = wt n p by simpa using HE.out)
  clear HE
  have hq := HV1.out
  by_cases hf : N = 4096
  case pos =>
    have HE := Lib.hid (@wt_full n p (HN.out.1.trans hf))
    have hd : ((N : Int) == 4096) = true := by simp; omega
    clear hf hq
    have HF := Lib.hid (fin2 (r := w.heap.size + 1 + 1) (by omega) (H2.out.res.below HB2.out) HBW.out (NtIn.zero w2) (l1 := 0) (l2 := 0) rfl rfl)
    go_wp2_with fail
    refine bodyPost_ret (nt_ret2 Try.results12 rfl HF.out.1) rfl ⟨none, 0, none, 0, ?_, ?_, ?_⟩
    · rw [HE2.out.1, HE2.out.2, HE.out.1, HE.out.2]; rfl
    · rw [HE2.out.2, HE.out.1]; exact HF.out.2.1
    · exact HF.out.2.2
  have HE := Lib.hid (@wt_room n p (fun h => hf (HN.out.1.symm.trans h)))
  have hd : ((N : Int) == 4096) = false := by simp; omega
  clear hf
  have HNQ := Lib.hid hq
  clear hq
  go_upto_region 5 with fail
  have HD1 := Lib.hid (fun W' (hb : Below w2.heap.size w2 W') => show (fun w' => w'.cell? ⟨w.heap.size, 0, none⟩ = some (.slice A N c) ∧ w'.cell? ⟨w.heap.size + 1, 0, none⟩ = some (.int .i64 a) ∧ w'.cell? ⟨w.heap.size + 1, 1, none⟩ = some (.int .i64 b) ∧ w'.cell? ⟨w.heap.size + 1, 2, none⟩ = some (.slice D m d)) W' from
    ⟨(hb.cell (p := ⟨w.heap.size, 0, none⟩) (H2.out.box.below HB2.out).lt).trans x0, (hb.cell (p := ⟨w.heap.size + 1, 0, none⟩) (H2.out.pk.below HB2.out).lt).trans y0, (hb.cell (p := ⟨w.heap.size + 1, 1, none⟩) (H2.out.pk.below HB2.out).lt).trans y1, (hb.cell (p := ⟨w.heap.size + 1, 2, none⟩) (H2.out.pk.below HB2.out).lt).trans y2⟩)
  have HDV := Lib.hid (HD1.out w2.drew (Below.refl w2.heap.size w2).drew)
  have HLF := Lib.hid (show PkF w [p] [.int .i64 a, .int .i64 b, .slice D m d] by
    have := PkF.one_ (p := p) HN.out.2.2.1 HSI.out.2
    rw [HN.out.2.2.2.1, HN.out.2.2.2.2] at this
    exact this)
  clear x0 x1 y0 y1 y2 z0 z1 g0 g1
  refine wp_region_later 8 (fun w' => w'.cell? ⟨w.heap.size, 0, none⟩ = some (.slice A N c) ∧ w'.cell? ⟨w.heap.size + 1, 0, none⟩ = some (.int .i64 a) ∧ w'.cell? ⟨w.heap.size + 1, 1, none⟩ = some (.int .i64 b) ∧ w'.cell? ⟨w.heap.size + 1, 2, none⟩ = some (.slice D m d)) (by kernel_rfl) ?_
  refine takeL (d := some 21) (i := 1) (v := ?v1) rfl rfl (by kernel_rfl) (by kernel_rfl) (by kernel_rfl) (fun _ _ _ h => h) rfl (by kernel_rfl) (Or.inl ⟨by rfl, ?y1⟩) HDV.out ?r1
  case y1 =>
    intro w hSw
    try dsimp only at hSw
    go_simp
    all_goals with_reducible rfl
  try simp only [Act.put, List.setIfInBounds_toArray, List.set_cons_zero, List.set_cons_succ]
  refine takeL (d := some 22) (i := 2) (v := ?v2) rfl rfl (by kernel_rfl) (by kernel_rfl) (by kernel_rfl) (fun _ _ _ h => h) rfl (by kernel_rfl) (Or.inl ⟨by rfl, ?y2⟩) HDV.out ?r2
  case y2 =>
    intro w hSw
    try dsimp only at hSw
    go_simp
    all_goals with_reducible rfl
  try simp only [Act.put, List.setIfInBounds_toArray, List.set_cons_zero, List.set_cons_succ]
  refine takeL (d := some 24) (i := 4) (v := ?v4) rfl rfl (by kernel_rfl) (by kernel_rfl) (by kernel_rfl) (fun _ _ _ h => h) rfl (by kernel_rfl) (Or.inl ⟨by rfl, ?y4⟩) HDV.out ?r4
  case y4 =>
    intro w hSw
    try dsimp only at hSw
    go_simp
    all_goals with_reducible rfl
  try simp only [Act.put, List.setIfInBounds_toArray, List.set_cons_zero, List.set_cons_succ]
  refine twoL (i := 0) (j := 5) (by kernel_rfl) rfl rfl (fun K' hK => ?_) (fun K' hK => ?_)
  · have HBE := Lib.hid (show Below w2.heap.size w2 (w2.alloc (.cells #[] 28)).drew from ((Below.refl w2.heap.size w2).alloc (Nat.le_refl _) _).drew)
    have HE0 := Lib.hid (show OwQ w2.heap.size w (w2.alloc (.cells #[] 28)).drew (.slice (some ⟨w2.heap.size, 0, none⟩) 0 0) [] from OwQ.empty w2 (by first | exact Nat.le_refl _ | (rw [World.size_alloc]; omega)))
    go_simp
    refine hK.out _ _ (fun _ => HD1.out _ HBE.out) ?_
    clear hK
    refine twoL (i := 3) (j := 5) (by kernel_rfl) rfl rfl (fun K' hK => ?_) (fun K' hK => ?_)
    · refine step_append_oq (base := w2.heap.size) (w0 := w) (by rfl) (.tmp 20) (.tmp 22) (by rfl) (.slice (some ⟨w2.heap.size, 0, none⟩) 0 0) [] (by rfl) HE0.out A n.q vsA N c HN.out.1 (by rfl) HQ.out.1 (HQ.out.2.1 _ (HBW.out.trans (HBE.out.mono HBW.out.size))) HQ.out.2.2 N (by simp) (by have := HNQ.out; omega) HBE.out.size ?_
      intro A3 c3 w3 ho3 hg3
      have hB3 := HBE.out.grown hg3 HBE.out.size (fun i hi => by injection hi with hi; simp only at hi; omega)
      rw [List.nil_append] at ho3
      refine hK.out _ _ (fun _ => HD1.out _ hB3) ?_
      clear hK
      refine oneL (i := 5) (by kernel_rfl) rfl (fun K' hK => ?_)
      have hB5 : Below w2.heap.size w2 (w3.alloc (.cells #[.int .i64 a, .int .i64 b, .slice D m d] 28)) := hB3.alloc hB3.size _
      have HO5 := Lib.hid (ho3.below ((Below.refl w3.heap.size w3).alloc (Nat.le_refl _) (.cells #[.int .i64 a, .int .i64 b, .slice D m d] 28)))
      have HL5 := Lib.hid (Box.new w3 #[.int .i64 a, .int .i64 b, .slice D m d] 28)
      have HB5 := Lib.hid hB5
      go_simp
      refine hK.out _ _ (fun _ => HD1.out _ hB5) ?_
      clear hK hB5 ho3 hg3 hB3 HE0 HBE
      refine oneL (i := 6) (by kernel_rfl) rfl (fun K' hK => ?_)
      refine step_append_oq (base := w2.heap.size) (w0 := w) (by rfl) (.tmp 23) (.tmp 25) (by rfl) (.slice A3 N c3) n.q (by rfl) HO5.out (some ⟨w3.heap.size, 0, none⟩) [p] [.int .i64 a, .int .i64 b, .slice D m d] 1 1 (by rfl) (by rfl) HLF.out (lit_cells HL5.out) (fun e => by cases e) (N + 1) (by rw [HN.out.1]) (by have := HNQ.out; omega) HB5.out.size ?_
      intro A' c' w4 ho4 hg4
      have hB4 : Below w2.heap.size w2 w4 := by
        obtain ⟨vs3, hr3, _⟩ := HO5.out
        exact HB5.out.grown hg4 HB5.out.size (fun i hi => (hr3.lt i hi).1)
      have hBW := HBW.out.trans (hB4.mono HBW.out.size)
      have hBT := HB2.out.trans (hB4.mono HB2.out.size)
      obtain ⟨A5, c5, he5, hq5⟩ := ho4.qq hBW
      have hlen : (n.q ++ [p]).length = N + 1 := by rw [List.length_append, HN.out.1]; rfl
      rw [hlen] at he5
      injection he5 with he6 he7 he8
      subst he6 he8
      have X3 := H2.out.box.below hBT
      unfold ntc at X3
      rw [HN.out.1, HN.out.2.1] at X3
      have Z3 := H2.out.res.below hBT
      have N3 : NtIn w4 (wi n p) A' c' B k := ⟨hq5, HSI.out.1.2.up hBW⟩
      have F1 := N3.off X3 (onlyS2 _ _ _ _ _ _) 0 (.slice A' (N + 1) c')
      have F2 : Box (w4.setCell ⟨w.heap.size, 0, none⟩ (.slice A' (N + 1) c')) w.heap.size #[.slice A' (N + 1) c', .slice B M k] 25 := X3.set (i := 0) (v := .slice A' (N + 1) c')
      have F3 := box_other (b := w.heap.size) (i := 0) (v := .slice A' (N + 1) c') Z3 (by omega)
      have F4 := hBW.setCell (p := ⟨w.heap.size, 0, none⟩) (Nat.le_refl _) (.slice A' (N + 1) c')
      have F := Lib.hid (And.intro F1 (And.intro F2 (And.intro F3 F4)))
      have x0' := X3.cell 0
      have f0' := X3.frozen 0
      simp only [List.getElem?_toArray, List.getElem?_cons_zero] at x0'
      have HDV4 := Lib.hid (HD1.out w4 hB4)
      clear F1 F2 F3 F4 hB4 X3 Z3 N3 ho4 hg4 hq5 hlen hBW hBT he7
      refine hK.out _ _ (fun _ => HDV4.out) ?_
      clear hK
      refine oneL (i := 7) (by kernel_rfl) rfl (fun K' hK => ?_)
      go_simp
      refine hK.out _ _ (fun _ => HDV4.out) ?_
      clear hK
      refine oneL (i := 8) (by kernel_rfl) rfl (fun K' hK => ?_)
      go_simp
      refine hK.out _ _ (fun e => by simp at e) ?_
      clear hK
      refine doneL (by kernel_rfl) ?_ _
      clear x0' f0' HDV4 HD1 HDV HO5 HL5 HB5
      generalize World.setCell _ ⟨w.heap.size, 0, none⟩ _ = wF at *
      have x0 := F.out.2.1.cell 0
      have x1 := F.out.2.1.cell 1
      have z0 := F.out.2.2.1.cell 0
      have z1 := F.out.2.2.1.cell 1
      have g0 := F.out.2.2.1.frozen 0
      have g1 := F.out.2.2.1.frozen 1
      simp only [List.getElem?_toArray, List.getElem?_cons_zero, List.getElem?_cons_succ] at x0 x1 z0 z1
      go_wp2_with fail
      refine bodyPost_ret (nt_ret2 Try.results12 rfl (box2 (.slice A' (N + 1) c') (.slice B M k) F.out.2.2.1)) rfl ⟨A', c', B, k, ?_, ?_, ?_⟩
      · rw [HE2.out.1, HE2.out.2, HE.out.1, HE.out.2]
        show _ = Ending.returned (.tuple #[.agg #[.slice A' (n.q ++ [p]).length c', .slice B n.ap.length k], _])
        rw [List.length_append, HN.out.1, HN.out.2.1]
        rfl
      · rw [HE2.out.2, HE.out.1]
        exact (F.out.1.off F.out.2.2.1 (onlyS2 _ _ _ _ _ _) 0 _).off (F.out.2.2.1.set (i := 0) (v := .slice A' (N + 1) c')) (OnlyS.set (onlyS2 _ _ _ _ _ _) 0 _ _ _) 1 _
      · exact (F.out.2.2.2.setCell (p := ⟨w.heap.size + 1 + 1, 0, none⟩) (by show w.heap.size ≤ w.heap.size + 1 + 1; omega) _).setCell (p := ⟨w.heap.size + 1 + 1, 1, none⟩) (by show w.heap.size ≤ w.heap.size + 1 + 1; omega) _
    · have HBX := Lib.hid (show Below w2.heap.size w2 ((w2.alloc (.cells #[] 28)).alloc (.cells #[.int .i64 a, .int .i64 b, .slice D m d] 28)).drew from (((Below.refl w2.heap.size w2).alloc (Nat.le_refl _) _).alloc (by rw [World.size_alloc]; omega) _).drew)
      have HE1 := Lib.hid ((OwQ.empty (base := w2.heap.size) (w0 := w) w2 (Nat.le_refl _)).below (((Below.refl (w2.alloc (.cells #[] 28)).heap.size (w2.alloc (.cells #[] 28))).alloc (Nat.le_refl _) (.cells #[.int .i64 a, .int .i64 b, .slice D m d] 28)).drew))
      have HL0 := Lib.hid (show Box ((w2.alloc (.cells #[] 28)).alloc (.cells #[.int .i64 a, .int .i64 b, .slice D m d] 28)).drew (w2.heap.size + 1) #[.int .i64 a, .int .i64 b, .slice D m d] 28 by
        have := Box.new (w2.alloc (.cells #[] 28)) #[.int .i64 a, .int .i64 b, .slice D m d] 28
        rw [World.size_alloc] at this
        exact this.drew)
      go_simp
      refine hK.out _ _ (fun _ => HD1.out _ HBX.out) ?_
      clear hK
      refine oneL (i := 3) (by kernel_rfl) rfl (fun K' hK => ?_)
      refine step_append_oq (base := w2.heap.size) (w0 := w) (by rfl) (.tmp 20) (.tmp 22) (by rfl) (.slice (some ⟨w2.heap.size, 0, none⟩) 0 0) [] (by rfl) HE1.out A n.q vsA N c HN.out.1 (by rfl) HQ.out.1 (HQ.out.2.1 _ (HBW.out.trans (HBX.out.mono HBW.out.size))) HQ.out.2.2 N (by simp) (by have := HNQ.out; omega) HBX.out.size ?_
      intro A3 c3 w3 ho3 hg3
      have hB3 := HBX.out.grown hg3 HBX.out.size (fun i hi => by injection hi with hi; simp only at hi; omega)
      rw [List.nil_append] at ho3

      have HO5 := Lib.hid ho3
      have HL5 := Lib.hid (HL0.out.grown hg3 (by simp [Value.ownBlock]))
      have HB5 := Lib.hid hB3
      refine hK.out _ _ (fun _ => HD1.out _ hB3) ?_
      clear hK ho3 hg3 hB3 HE0 HE1 HBE HBX HL0
      refine oneL (i := 6) (by kernel_rfl) rfl (fun K' hK => ?_)
      refine step_append_oq (base := w2.heap.size) (w0 := w) (by rfl) (.tmp 23) (.tmp 25) (by rfl) (.slice A3 N c3) n.q (by rfl) HO5.out (some ⟨w2.heap.size + 1, 0, none⟩) [p] [.int .i64 a, .int .i64 b, .slice D m d] 1 1 (by rfl) (by rfl) HLF.out (lit_cells HL5.out) (fun e => by cases e) (N + 1) (by rw [HN.out.1]) (by have := HNQ.out; omega) HB5.out.size ?_
      intro A' c' w4 ho4 hg4
      have hB4 : Below w2.heap.size w2 w4 := by
        obtain ⟨vs3, hr3, _⟩ := HO5.out
        exact HB5.out.grown hg4 HB5.out.size (fun i hi => (hr3.lt i hi).1)
      have hBW := HBW.out.trans (hB4.mono HBW.out.size)
      have hBT := HB2.out.trans (hB4.mono HB2.out.size)
      obtain ⟨A5, c5, he5, hq5⟩ := ho4.qq hBW
      have hlen : (n.q ++ [p]).length = N + 1 := by rw [List.length_append, HN.out.1]; rfl
      rw [hlen] at he5
      injection he5 with he6 he7 he8
      subst he6 he8
      have X3 := H2.out.box.below hBT
      unfold ntc at X3
      rw [HN.out.1, HN.out.2.1] at X3
      have Z3 := H2.out.res.below hBT
      have N3 : NtIn w4 (wi n p) A' c' B k := ⟨hq5, HSI.out.1.2.up hBW⟩
      have F1 := N3.off X3 (onlyS2 _ _ _ _ _ _) 0 (.slice A' (N + 1) c')
      have F2 : Box (w4.setCell ⟨w.heap.size, 0, none⟩ (.slice A' (N + 1) c')) w.heap.size #[.slice A' (N + 1) c', .slice B M k] 25 := X3.set (i := 0) (v := .slice A' (N + 1) c')
      have F3 := box_other (b := w.heap.size) (i := 0) (v := .slice A' (N + 1) c') Z3 (by omega)
      have F4 := hBW.setCell (p := ⟨w.heap.size, 0, none⟩) (Nat.le_refl _) (.slice A' (N + 1) c')
      have F := Lib.hid (And.intro F1 (And.intro F2 (And.intro F3 F4)))
      have x0' := X3.cell 0
      have f0' := X3.frozen 0
      simp only [List.getElem?_toArray, List.getElem?_cons_zero] at x0'
      have HDV4 := Lib.hid (HD1.out w4 hB4)
      clear F1 F2 F3 F4 hB4 X3 Z3 N3 ho4 hg4 hq5 hlen hBW hBT he7
      refine hK.out _ _ (fun _ => HDV4.out) ?_
      clear hK
      refine oneL (i := 7) (by kernel_rfl) rfl (fun K' hK => ?_)
      go_simp
      refine hK.out _ _ (fun _ => HDV4.out) ?_
      clear hK
      refine oneL (i := 8) (by kernel_rfl) rfl (fun K' hK => ?_)
      go_simp
      refine hK.out _ _ (fun e => by simp at e) ?_
      clear hK
      refine doneL (by kernel_rfl) ?_ _
      clear x0' f0' HDV4 HD1 HDV HO5 HL5 HB5
      generalize World.setCell _ ⟨w.heap.size, 0, none⟩ _ = wF at *
      have x0 := F.out.2.1.cell 0
      have x1 := F.out.2.1.cell 1
      have z0 := F.out.2.2.1.cell 0
      have z1 := F.out.2.2.1.cell 1
      have g0 := F.out.2.2.1.frozen 0
      have g1 := F.out.2.2.1.frozen 1
      simp only [List.getElem?_toArray, List.getElem?_cons_zero, List.getElem?_cons_succ] at x0 x1 z0 z1
      go_wp2_with fail
      refine bodyPost_ret (nt_ret2 Try.results12 rfl (box2 (.slice A' (N + 1) c') (.slice B M k) F.out.2.2.1)) rfl ⟨A', c', B, k, ?_, ?_, ?_⟩
      · rw [HE2.out.1, HE2.out.2, HE.out.1, HE.out.2]
        show _ = Ending.returned (.tuple #[.agg #[.slice A' (n.q ++ [p]).length c', .slice B n.ap.length k], _])
        rw [List.length_append, HN.out.1, HN.out.2.1]
        rfl
      · rw [HE2.out.2, HE.out.1]
        exact (F.out.1.off F.out.2.2.1 (onlyS2 _ _ _ _ _ _) 0 _).off (F.out.2.2.1.set (i := 0) (v := .slice A' (N + 1) c')) (OnlyS.set (onlyS2 _ _ _ _ _ _) 0 _ _ _) 1 _
      · exact (F.out.2.2.2.setCell (p := ⟨w.heap.size + 1 + 1, 0, none⟩) (by show w.heap.size ≤ w.heap.size + 1 + 1; omega) _).setCell (p := ⟨w.heap.size + 1 + 1, 1, none⟩) (by show w.heap.size ≤ w.heap.size + 1 + 1; omega) _
  · have HBE := Lib.hid (show Below w2.heap.size w2 (w2.alloc (.cells #[.int .i64 a, .int .i64 b, .slice D m d] 28)).drew from ((Below.refl w2.heap.size w2).alloc (Nat.le_refl _) _).drew)
    have HBX := Lib.hid (show Below w2.heap.size w2 ((w2.alloc (.cells #[.int .i64 a, .int .i64 b, .slice D m d] 28)).alloc (.cells #[] 28)).drew from (((Below.refl w2.heap.size w2).alloc (Nat.le_refl _) _).alloc (by rw [World.size_alloc]; omega) _).drew)
    have HE0 := Lib.hid (show OwQ w2.heap.size w ((w2.alloc (.cells #[.int .i64 a, .int .i64 b, .slice D m d] 28)).alloc (.cells #[] 28)).drew (.slice (some ⟨w2.heap.size + 1, 0, none⟩) 0 0) [] by
      have := OwQ.empty (base := w2.heap.size) (w0 := w) (w2.alloc (.cells #[.int .i64 a, .int .i64 b, .slice D m d] 28)) (by rw [World.size_alloc]; omega)
      rw [World.size_alloc] at this
      exact this)
    have HL0 := Lib.hid (show Box ((w2.alloc (.cells #[.int .i64 a, .int .i64 b, .slice D m d] 28)).alloc (.cells #[] 28)).drew w2.heap.size #[.int .i64 a, .int .i64 b, .slice D m d] 28 from (Box.alloc (Box.new w2 _ _) _).drew)
    go_simp
    refine hK.out _ _ (fun _ => HD1.out _ HBE.out) ?_
    clear hK
    refine oneL (i := 0) (by kernel_rfl) rfl (fun K' hK => ?_)
    go_simp
    refine hK.out _ _ (fun _ => HD1.out _ HBX.out) ?_
    clear hK
    refine oneL (i := 3) (by kernel_rfl) rfl (fun K' hK => ?_)
    refine step_append_oq (base := w2.heap.size) (w0 := w) (by rfl) (.tmp 20) (.tmp 22) (by rfl) (.slice (some ⟨w2.heap.size + 1, 0, none⟩) 0 0) [] (by rfl) HE0.out A n.q vsA N c HN.out.1 (by rfl) HQ.out.1 (HQ.out.2.1 _ (HBW.out.trans (HBX.out.mono HBW.out.size))) HQ.out.2.2 N (by simp) (by have := HNQ.out; omega) HBX.out.size ?_
    intro A3 c3 w3 ho3 hg3
    have hB3 := HBX.out.grown hg3 HBX.out.size (fun i hi => by injection hi with hi; simp only at hi; omega)
    rw [List.nil_append] at ho3

    have HO5 := Lib.hid ho3
    have HL5 := Lib.hid (HL0.out.grown hg3 (by simp [Value.ownBlock]))
    have HB5 := Lib.hid hB3
    refine hK.out _ _ (fun _ => HD1.out _ hB3) ?_
    clear hK ho3 hg3 hB3 HE0 HBE HBX HL0
    refine oneL (i := 6) (by kernel_rfl) rfl (fun K' hK => ?_)
    refine step_append_oq (base := w2.heap.size) (w0 := w) (by rfl) (.tmp 23) (.tmp 25) (by rfl) (.slice A3 N c3) n.q (by rfl) HO5.out (some ⟨w2.heap.size, 0, none⟩) [p] [.int .i64 a, .int .i64 b, .slice D m d] 1 1 (by rfl) (by rfl) HLF.out (lit_cells HL5.out) (fun e => by cases e) (N + 1) (by rw [HN.out.1]) (by have := HNQ.out; omega) HB5.out.size ?_
    intro A' c' w4 ho4 hg4
    have hB4 : Below w2.heap.size w2 w4 := by
      obtain ⟨vs3, hr3, _⟩ := HO5.out
      exact HB5.out.grown hg4 HB5.out.size (fun i hi => (hr3.lt i hi).1)
    have hBW := HBW.out.trans (hB4.mono HBW.out.size)
    have hBT := HB2.out.trans (hB4.mono HB2.out.size)
    obtain ⟨A5, c5, he5, hq5⟩ := ho4.qq hBW
    have hlen : (n.q ++ [p]).length = N + 1 := by rw [List.length_append, HN.out.1]; rfl
    rw [hlen] at he5
    injection he5 with he6 he7 he8
    subst he6 he8
    have X3 := H2.out.box.below hBT
    unfold ntc at X3
    rw [HN.out.1, HN.out.2.1] at X3
    have Z3 := H2.out.res.below hBT
    have N3 : NtIn w4 (wi n p) A' c' B k := ⟨hq5, HSI.out.1.2.up hBW⟩
    have F1 := N3.off X3 (onlyS2 _ _ _ _ _ _) 0 (.slice A' (N + 1) c')
    have F2 : Box (w4.setCell ⟨w.heap.size, 0, none⟩ (.slice A' (N + 1) c')) w.heap.size #[.slice A' (N + 1) c', .slice B M k] 25 := X3.set (i := 0) (v := .slice A' (N + 1) c')
    have F3 := box_other (b := w.heap.size) (i := 0) (v := .slice A' (N + 1) c') Z3 (by omega)
    have F4 := hBW.setCell (p := ⟨w.heap.size, 0, none⟩) (Nat.le_refl _) (.slice A' (N + 1) c')
    have F := Lib.hid (And.intro F1 (And.intro F2 (And.intro F3 F4)))
    have x0' := X3.cell 0
    have f0' := X3.frozen 0
    simp only [List.getElem?_toArray, List.getElem?_cons_zero] at x0'
    have HDV4 := Lib.hid (HD1.out w4 hB4)
    clear F1 F2 F3 F4 hB4 X3 Z3 N3 ho4 hg4 hq5 hlen hBW hBT he7
    refine hK.out _ _ (fun _ => HDV4.out) ?_
    clear hK
    refine oneL (i := 7) (by kernel_rfl) rfl (fun K' hK => ?_)
    go_simp
    refine hK.out _ _ (fun _ => HDV4.out) ?_
    clear hK
    refine oneL (i := 8) (by kernel_rfl) rfl (fun K' hK => ?_)
    go_simp
    refine hK.out _ _ (fun e => by simp at e) ?_
    clear hK
    refine doneL (by kernel_rfl) ?_ _
    clear x0' f0' HDV4 HD1 HDV HO5 HL5 HB5
    generalize World.setCell _ ⟨w.heap.size, 0, none⟩ _ = wF at *
    have x0 := F.out.2.1.cell 0
    have x1 := F.out.2.1.cell 1
    have z0 := F.out.2.2.1.cell 0
    have z1 := F.out.2.2.1.cell 1
    have g0 := F.out.2.2.1.frozen 0
    have g1 := F.out.2.2.1.frozen 1
    simp only [List.getElem?_toArray, List.getElem?_cons_zero, List.getElem?_cons_succ] at x0 x1 z0 z1
    go_wp2_with fail
    refine bodyPost_ret (nt_ret2 Try.results12 rfl (box2 (.slice A' (N + 1) c') (.slice B M k) F.out.2.2.1)) rfl ⟨A', c', B, k, ?_, ?_, ?_⟩
    · rw [HE2.out.1, HE2.out.2, HE.out.1, HE.out.2]
      show _ = Ending.returned (.tuple #[.agg #[.slice A' (n.q ++ [p]).length c', .slice B n.ap.length k], _])
      rw [List.length_append, HN.out.1, HN.out.2.1]
      rfl
    · rw [HE2.out.2, HE.out.1]
      exact (F.out.1.off F.out.2.2.1 (onlyS2 _ _ _ _ _ _) 0 _).off (F.out.2.2.1.set (i := 0) (v := .slice A' (N + 1) c')) (OnlyS.set (onlyS2 _ _ _ _ _ _) 0 _ _ _) 1 _
    · exact (F.out.2.2.2.setCell (p := ⟨w.heap.size + 1 + 1, 0, none⟩) (by show w.heap.size ≤ w.heap.size + 1 + 1; omega) _).setCell (p := ⟨w.heap.size + 1 + 1, 1, none⟩) (by show w.heap.size ≤ w.heap.size + 1 + 1; omega) _
end Go.Proofs.Ytljbofniglcheaa
