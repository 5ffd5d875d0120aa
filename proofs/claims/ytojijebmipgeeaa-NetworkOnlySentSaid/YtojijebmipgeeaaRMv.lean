/- The reference's New, without, Send. -/
import Derived.Test.YtojijebmipgeeaaSd
import Derived.Test.YtojijebmipgeeaaRCk
import Derived.IntWalk
namespace Go.Proofs.Ytojijebmipgeeaa
open Go.RowKit
set_option linter.unusedVariables false

section
variable {P : Program} {md : Region.Mode} {ops : Array Oper} {Q : Exit → Act → World → Prop} {st : Nat} {D : World → Prop}
/-- Two operations may come up. -/
theorem twoL {i j : Nat} {oi oj : Oper} {fuel : Nat} {listed : Array Bool} {a : Act} {w : World} (hr : Region.ready md ops listed = [i, j]) (hoi : ops[i]? = some oi) (hoj : ops[j]? = some oj)
    (hi : ∀ K' : Act → World → Prop, Shut (∀ a w, Lt st D (listed.setIfInBounds i true) w → wpAnyL P md ops Q st D fuel (listed.setIfInBounds i true) a w → K' a w) → if Region.wanted oi (yielded ops a.tmps) = true then Oper.wp P oi a w K' Q else K' (a.put oi.dst undef) w)
    (hj : ∀ K' : Act → World → Prop, Shut (∀ a w, Lt st D (listed.setIfInBounds j true) w → wpAnyL P md ops Q st D fuel (listed.setIfInBounds j true) a w → K' a w) → if Region.wanted oj (yielded ops a.tmps) = true then Oper.wp P oj a w K' Q else K' (a.put oj.dst undef) w) :
    wpAnyL P md ops Q st D (fuel + 1) listed a w := by
  refine ⟨fun h0 => absurd (hr ▸ h0) (by simp), fun k hk => ?_⟩
  rw [hr] at hk
  rcases List.mem_cons.1 hk with e | hk
  · rw [e]
    exact wpOp_step hoi (fun K' hK => hi K' (fun a w hS hW => hK a w ⟨hS, hW⟩))
  · rw [List.mem_singleton.1 hk]
    exact wpOp_step hoj (fun K' hK => hj K' (fun a w hS hW => hK a w ⟨hS, hW⟩))
end

theorem rnew_any (w : World) : Calls Try.prog 17 #[] w (NtOnly nt0 w) := by
  have hZ : Box (w.alloc (.cells #[.slice none 0 0, .slice none 0 0] 25)) w.heap.size #[.slice none 0 0, .slice none 0 0] 25 := Box.new w _ _
  have HZ := Lib.hid hZ
  clear hZ
  unfold NtOnly
  go_enter Try.func17, Try.ntmps17
  go_wp2_with fail
  exact bodyPost_ret (nt_ret Try.results17 rfl HZ.out) rfl ⟨none, 0, none, 0, rfl, NtIn.zero _, (Below.refl _ w).alloc (Nat.le_refl _) _⟩

/-- A row of the call's own with packets whose data lie in an earlier world. -/
def OwQ (base : Nat) (w0 w : World) (v : Value) (l : List Pk) : Prop := ∃ vs, w.ownsRow base 28 3 v l.length vs ∧ PkF w0 l vs
theorem OwQ.below {base : Nat} {w0 w w' : World} {v : Value} {l : List Pk} (h : OwQ base w0 w v l) (hb : Below w.heap.size w w') : OwQ base w0 w' v l := by
  obtain ⟨vs, h1, h2⟩ := h
  exact ⟨vs, own_below h1 hb, h2⟩
theorem OwQ.empty {base : Nat} {w0 : World} (w : World) (hb : base ≤ w.heap.size) : OwQ base w0 (w.alloc (.cells #[] 28)) (.slice (some ⟨w.heap.size, 0, none⟩) 0 0) [] :=
  ⟨[], World.ownsRow_lit w #[] 0 hb (by unfold maxLen; omega) rfl, rfl⟩
theorem OwQ.qq {base : Nat} {w0 w : World} {v : Value} {l : List Pk} (h : OwQ base w0 w v l) (hb : Below w0.heap.size w0 w) : ∃ A c, v = .slice A l.length c ∧ QQ w A l c := by
  obtain ⟨vs, h1, h2⟩ := h
  exact QQ.of_own rfl h1 (h2.up hb)
theorem step_append_oq {base : Nat} {w0 w : World} {ops : Array Oper} {o : Oper} {a : Act} {K : Act → World → Prop} {Q : Exit → Act → World → Prop} {E : Prop} (hgd : o.guard = none) (s x : Operand)
    (ho : o.op = .call { callee := .builtin .append, args := #[s, x], argTypes := #[22, 22] })
    (v : Value) (l : List Pk) (hs : a.eval s = v) (hown : OwQ base w0 w v l)
    (X : Option Addr) (xs : List Pk) (us : List Value) (m cx : Nat) (hm : xs.length = m) (hx : a.eval x = .slice X m cx) (hu : PkF w0 xs us) (huc : ∀ b, X = some b → ∀ j u, us[j]? = some u → w.cell? (b.add j) = some u) (hn0 : X = none → xs = [] ∧ cx = 0)
    (N : Nat) (hN : l.length + m = N) (hb : N ≤ 100000) (hbase : base ≤ w.heap.size)
    (h : ∀ A' c' w', OwQ base w0 w' (.slice A' N c') (l ++ xs) → w.grownBy w' v.ownBlock → K (a.put o.dst (.slice A' N c')) w') :
    if Region.wanted o (yielded ops a.tmps) = true then Oper.wp Try.prog o a w K Q else E := by
  have hw : Region.wanted o (yielded ops a.tmps) = true := by simp [Region.wanted, hgd]
  rw [if_pos hw]
  obtain ⟨i0, hi0, hz0, hz1, hz2⟩ := info_parts pk_info
  obtain ⟨vs, hr, hf⟩ := hown
  have hul := hu.length
  rw [hm] at hul
  have hll : (l ++ xs).length = N := by rw [List.length_append, hm, hN]
  cases X with
  | none =>
    obtain ⟨rfl, rfl⟩ := hn0 rfl
    obtain rfl : m = 0 := by simpa using hm.symm
    cases hu
    obtain ⟨A1, c1, hv⟩ := own_form hr
    have hrun := run_append_owned_none (P := Try.prog) (w := w) base 22 o.type 28 i0 3 Try.underlying22 hi0 v l.length vs hr
    unfold Oper.wp
    simp [execOp, ho, resolve, invoke, builtin, hs, hx, hrun, Result.andThen]
    subst hv
    obtain rfl : l.length = N := by omega
    exact h A1 c1 w ⟨vs, by simpa using hr, by simpa using hf⟩ (World.grownBy.refl w _)
  | some ad =>
    refine wp_append_own w s x 22 ho base 28 i0 (.agg #[.int .i64 0, .int .i64 0, .slice none 0 0]) 3 40 Try.underlying22 hi0 hz0 hz1 hz2 rfl (by decide) v l.length vs hs hr ad m cx us hx hul (huc ad rfl) hu.one (le_maxLen (by omega)) (by omega) hbase ?_
    intro v' w' ho' hg' _
    obtain ⟨A1, c1, rfl⟩ := own_form ho'
    rw [hN] at ho' ⊢
    exact h A1 c1 w' ⟨vs ++ us, by rw [hll]; exact ho', hf.app hu⟩ hg'

set_option maxHeartbeats 4000000 in
set_option maxRecDepth 100000 in
theorem rwithout_any (n : Nt) (A B : Option Addr) (c k i : Nat) (w : World) (hS : NtIn w n A c B k) (hi : i < n.q.length) (hq : n.q.length ≤ 4096) :
    Calls Try.prog 45 #[ntv n A c B k, .int .i64 (i : Int)] w (NtOnly (wo n i) w) := by
  obtain ⟨bA, oA, vsA, rfl, hbA, hvF, hvC⟩ := hS.1.1 (by omega)
  have hSq := hS.1
  have h2 := two_new w n (some ⟨bA, oA, none⟩) c B k
  have hck : n.q.length ≤ c := hS.1.2.1
  have hcm := hS.1.2.2.1
  have H2 := Lib.hid h2
  have HSI := Lib.hid hS
  have HV := Lib.hid (And.intro hvF hvC)
  unfold NtOnly
  unfold ntv ntc at *
  obtain ⟨N, hN⟩ : ∃ N, n.q.length = N := ⟨_, rfl⟩
  obtain ⟨M, hM⟩ : ∃ M, n.ap.length = M := ⟨_, rfl⟩
  have HN := Lib.hid (And.intro hN hM)
  rw [hN] at hq hck hi
  rw [hN, hM] at H2 ⊢
  clear hN hM hS h2 hSq hvF hvC
  obtain ⟨j, hj⟩ : ∃ j, j = i + 1 := ⟨_, rfl⟩
  have hjN : j ≤ N := by omega
  have hij : IntKind.i64.wrap ((i : Int) + 1) = (j : Int) := by
    have := IntWalk.i64_in ((i : Int) + 1) (by omega)
    omega
  have hic : i ≤ c := by omega
  have hjc : j ≤ c := by omega
  have HJ := Lib.hid hj
  clear hj
  go_enter Try.func45, Try.ntmps45
  go_wp2_with fail
  generalize World.alloc _ _ = W at *
  have x0 := (H2.out.facts (Below.refl _ _)).1.1
  rw [HN.out.1] at x0
  have HD1 := Lib.hid (fun W' (hb : Below W.heap.size W W') => show (fun w' => w'.cell? ⟨w.heap.size, 0, none⟩ = some (.slice (some ⟨bA, oA, none⟩) N c)) W' from (hb.cell (p := ⟨w.heap.size, 0, none⟩) H2.out.box.lt).trans x0)
  have HDV := Lib.hid (HD1.out W.drew (Below.refl W.heap.size W).drew)
  have HBE := Lib.hid (show Below W.heap.size W (W.alloc (.cells #[] 28)).drew from ((Below.refl W.heap.size W).alloc (Nat.le_refl _) _).drew)
  have HE0 := Lib.hid (show OwQ W.heap.size w (W.alloc (.cells #[] 28)).drew (.slice (some ⟨W.heap.size, 0, none⟩) 0 0) [] from OwQ.empty W (Nat.le_refl _))
  clear x0
  by_cases hcj : c = j
  · subst hcj
    refine wp_region_later 13 (fun w' => w'.cell? ⟨w.heap.size, 0, none⟩ = some (.slice (some ⟨bA, oA, none⟩) N c)) (by kernel_rfl) ?_
    refine takeL (d := some 6) (i := 1) (v := ?v1a) rfl rfl (by kernel_rfl) (by kernel_rfl) (by kernel_rfl) (fun _ _ _ h => h) rfl (by kernel_rfl) (Or.inl ⟨by rfl, ?y1a⟩) HDV.out ?r1a
    case y1a =>
      intro w hSw
      try dsimp only at hSw
      go_simp
      all_goals with_reducible rfl
    try simp only [Act.put, List.setIfInBounds_toArray, List.set_cons_zero, List.set_cons_succ]
    refine takeL (d := some 7) (i := 2) (v := ?v2a) rfl rfl (by kernel_rfl) (by kernel_rfl) (by kernel_rfl) (fun _ _ _ h => h) rfl (by kernel_rfl) (Or.inl ⟨by rfl, ?y2a⟩) HDV.out ?r2a
    case y2a =>
      intro w hSw
      try dsimp only at hSw
      go_simp
      all_goals with_reducible rfl
    try simp only [Act.put, List.setIfInBounds_toArray, List.set_cons_zero, List.set_cons_succ]
    refine takeL (d := some 8) (i := 3) (v := ?v3a) rfl rfl (by kernel_rfl) (by kernel_rfl) (by kernel_rfl) (fun _ _ _ h => h) rfl (by kernel_rfl) (Or.inl ⟨by rfl, ?y3a⟩) HDV.out ?r3a
    case y3a =>
      intro w hSw
      try dsimp only at hSw
      go_simp
      all_goals with_reducible rfl
    try simp only [Act.put, List.setIfInBounds_toArray, List.set_cons_zero, List.set_cons_succ]
    refine takeL (d := some 9) (i := 4) (v := ?v4a) rfl rfl (by kernel_rfl) (by kernel_rfl) (by kernel_rfl) (fun _ _ _ h => h) rfl (by kernel_rfl) (Or.inl ⟨by rfl, ?y4a⟩) HDV.out ?r4a
    case y4a =>
      intro w hSw
      try dsimp only at hSw
      go_simp
      all_goals with_reducible rfl
    try simp only [Act.put, List.setIfInBounds_toArray, List.set_cons_zero, List.set_cons_succ]
    refine takeL (d := some 11) (i := 6) (v := ?v6a) rfl rfl (by kernel_rfl) (by kernel_rfl) (by kernel_rfl) (fun _ _ _ h => h) rfl (by kernel_rfl) (Or.inl ⟨by rfl, ?y6a⟩) HDV.out ?r6a
    case y6a =>
      intro w hSw
      try dsimp only at hSw
      go_simp
      all_goals with_reducible rfl
    try simp only [Act.put, List.setIfInBounds_toArray, List.set_cons_zero, List.set_cons_succ]
    refine takeL (d := some 12) (i := 7) (v := ?v7a) rfl rfl (by kernel_rfl) (by kernel_rfl) (by kernel_rfl) (fun _ _ _ h => h) rfl (by kernel_rfl) (Or.inl ⟨by rfl, ?y7a⟩) HDV.out ?r7a
    case y7a =>
      intro w hSw
      try dsimp only at hSw
      go_simp
      all_goals with_reducible rfl
    try simp only [Act.put, List.setIfInBounds_toArray, List.set_cons_zero, List.set_cons_succ]
    refine takeL (d := some 13) (i := 8) (v := ?v8a) rfl rfl (by kernel_rfl) (by kernel_rfl) (by kernel_rfl) (fun _ _ _ h => h) rfl (by kernel_rfl) (Or.inl ⟨by rfl, ?y8a⟩) HDV.out ?r8a
    case y8a =>
      intro w hSw
      try dsimp only at hSw
      go_simp
      all_goals with_reducible rfl
    try simp only [Act.put, List.setIfInBounds_toArray, List.set_cons_zero, List.set_cons_succ]
    refine takeL (d := some 14) (i := 9) (v := ?v9a) rfl rfl (by kernel_rfl) (by kernel_rfl) (by kernel_rfl) (fun _ _ _ h => h) rfl (by kernel_rfl) (Or.inl ⟨by rfl, ?y9a⟩) HDV.out ?r9a
    case y9a =>
      intro w hSw
      try dsimp only at hSw
      go_simp
      all_goals with_reducible rfl
    try simp only [Act.put, List.setIfInBounds_toArray, List.set_cons_zero, List.set_cons_succ]
    refine takeL (d := some 15) (i := 10) (v := ?v10a) rfl rfl (by kernel_rfl) (by kernel_rfl) (by kernel_rfl) (fun _ _ _ h => h) rfl (by kernel_rfl) (Or.inl ⟨by rfl, ?y10a⟩) HDV.out ?r10a
    case y10a =>
      intro w hSw
      try dsimp only at hSw
      go_simp
      all_goals with_reducible rfl
    try simp only [Act.put, List.setIfInBounds_toArray, List.set_cons_zero, List.set_cons_succ]
    have hwx : wo n i = ⟨n.q.take i ++ [], n.ap⟩ := by
      unfold wo
      rw [List.drop_eq_nil_of_le (by rw [HN.out.1]; have := HJ.out; omega)]
    have hm2 : ([] : List Pk).length = 0 := rfl
    have hu2 : PkF w [] [] := rfl
    have hc2 : ∀ Z, Below w.heap.size w Z → ∀ b, some (⟨bA, oA, none⟩ : Addr) = some b → ∀ (j : Nat) u, ([] : List Value)[j]? = some u → Z.cell? (b.add j) = some u := fun Z hb b e j u hj => by cases hj
    have hl2 : (n.q.take i).length + 0 = i + 0 := by rw [List.length_take, HN.out.1]; omega
    have hNL : i + 0 ≤ N := by omega
    have hm1 : (n.q.take i).length = i := by rw [List.length_take, HN.out.1]; omega
    have hu1 : PkF w (n.q.take i) (vsA.take (i * 3)) := HV.out.1.take i
    have hc1 : ∀ Z, Below w.heap.size w Z → ∀ b, some (⟨bA, oA, none⟩ : Addr) = some b → ∀ (h : Nat) u, (vsA.take (i * 3))[h]? = some u → Z.cell? (b.add h) = some u := fun Z hb b e h u hj => by
      cases e
      rw [List.getElem?_take] at hj
      split at hj
      · rw [add_off]
        exact (hb.cell (p := ⟨bA, oA + h, none⟩) hbA).trans (HV.out.2 _ _ hj)
      · cases hj
    have HC := Lib.hid (And.intro hm1 (And.intro hu1 (And.intro hc1 (And.intro hm2 (And.intro hu2 (And.intro hc2 (And.intro hl2 hwx)))))))
    clear hm1 hu1 hc1 hm2 hu2 hc2 hl2 hwx
    refine oneL (i := 0) (by kernel_rfl) rfl (fun K' hK => ?_)
    go_simp
    refine hK.out _ _ (fun _ => HD1.out _ HBE.out) ?_
    clear hK
    refine oneL (i := 5) (by kernel_rfl) rfl (fun K' hK => ?_)
    refine step_append_oq (base := W.heap.size) (w0 := w) (by rfl) (.tmp 5) (.tmp 9) (by rfl) (.slice (some ⟨W.heap.size, 0, none⟩) 0 0) [] (by rfl) HE0.out (some ⟨bA, oA, none⟩) (n.q.take i) (vsA.take (i * 3)) i c HC.out.1 (by rfl) HC.out.2.1 (HC.out.2.2.1 _ (H2.out.below.trans (HBE.out.mono H2.out.below.size))) (fun e => by cases e) i (by simp) (by omega) HBE.out.size ?_
    intro A3 c3 w3 ho3 hg3
    have hB3 := HBE.out.grown hg3 HBE.out.size (fun i hi => by injection hi with hi; simp only at hi; omega)
    have HB3 := Lib.hid hB3
    rw [List.nil_append] at ho3
    have HO3 := Lib.hid ho3
    clear ho3 hg3 hB3
    refine hK.out _ _ (fun _ => HD1.out _ HB3.out) ?_
    clear hK
    refine oneL (i := 11) (by kernel_rfl) rfl (fun K' hK => ?_)
    refine step_append_oq (base := W.heap.size) (w0 := w) (by rfl) (.tmp 10) (.tmp 15) (by rfl) (.slice A3 i c3) (n.q.take i) (by rfl) HO3.out (some ⟨bA, oA, none⟩) [] [] 0 0 HC.out.2.2.2.1 (by rfl) HC.out.2.2.2.2.1 (HC.out.2.2.2.2.2.1 _ (H2.out.below.trans (HB3.out.mono H2.out.below.size))) (fun e => by cases e) (i + 0) HC.out.2.2.2.2.2.2.1 (by omega) HB3.out.size ?_
    intro A' c' w4 ho4 hg4
    have hB4 : Below W.heap.size W w4 := by
      obtain ⟨vs3, hr3, _⟩ := HO3.out
      exact HB3.out.grown hg4 HB3.out.size (fun i hi => (hr3.lt i hi).1)
    have hBW := H2.out.below.trans (hB4.mono H2.out.below.size)
    obtain ⟨A5, c5, he5, hq5⟩ := ho4.qq hBW
    have hlen : (n.q.take i ++ []).length = i + 0 := by rw [List.length_append, HC.out.2.2.2.1]; exact HC.out.2.2.2.2.2.2.1
    rw [hlen] at he5
    injection he5 with he6 he7 he8
    subst he6 he8
    have X3 := H2.out.box.below hB4
    unfold ntc at X3
    rw [HN.out.1, HN.out.2] at X3
    have Z3 := H2.out.res.below hB4
    have N3 : NtIn w4 (wo n i) A' c' B k := by
      rw [HC.out.2.2.2.2.2.2.2]
      exact ⟨hq5, HSI.out.2.up hBW⟩
    obtain ⟨L, hL⟩ : ∃ L, i + 0 = L := ⟨_, rfl⟩
    have HXL := Lib.hid (show (wo n i).q.length = L by rw [HC.out.2.2.2.2.2.2.2, ← hL]; exact hlen)
    rw [hL]
    clear hL he7
    have F1 := N3.off X3 (onlyS2 _ _ _ _ _ _) 0 (.slice A' L c')
    have F2 : Box (w4.setCell ⟨w.heap.size, 0, none⟩ (.slice A' L c')) w.heap.size #[.slice A' L c', .slice B M k] 25 := X3.set (i := 0) (v := .slice A' L c')
    have F3 := box_other (b := w.heap.size) (i := 0) (v := .slice A' L c') Z3 (by omega)
    have F4 := hBW.setCell (p := ⟨w.heap.size, 0, none⟩) (Nat.le_refl _) (.slice A' L c')
    have F := Lib.hid (And.intro F1 (And.intro F2 (And.intro F3 F4)))
    have x0' := X3.cell 0
    have f0' := X3.frozen 0
    simp only [List.getElem?_toArray, List.getElem?_cons_zero] at x0'
    have HDV4 := Lib.hid (HD1.out w4 hB4)
    clear F1 F2 F3 F4 hB4 X3 Z3 N3 ho4 hg4 hq5 hlen hBW
    refine hK.out _ _ (fun _ => HDV4.out) ?_
    clear hK
    refine oneL (i := 12) (by kernel_rfl) rfl (fun K' hK => ?_)
    go_simp
    refine hK.out _ _ (fun _ => HDV4.out) ?_
    clear hK
    refine oneL (i := 13) (by kernel_rfl) rfl (fun K' hK => ?_)
    go_simp
    refine hK.out _ _ (fun e => by simp at e) ?_
    clear hK
    refine doneL (by kernel_rfl) ?_ _
    clear x0' f0' HDV4 HD1 HDV hij HO3 HB3 HE0 HBE
    generalize World.setCell _ ⟨w.heap.size, 0, none⟩ _ = wF at *
    have x0 := F.out.2.1.cell 0
    have x1 := F.out.2.1.cell 1
    have z0 := F.out.2.2.1.cell 0
    have z1 := F.out.2.2.1.cell 1
    have g0 := F.out.2.2.1.frozen 0
    have g1 := F.out.2.2.1.frozen 1
    simp only [List.getElem?_toArray, List.getElem?_cons_zero, List.getElem?_cons_succ] at x0 x1 z0 z1
    go_wp2_with fail
    have HFN := Lib.hid (And.intro (box2 (.slice A' L c') (.slice B M k) F.out.2.2.1) (And.intro ((F.out.1.off F.out.2.2.1 (onlyS2 _ _ _ _ _ _) 0 (.slice A' L c')).off (F.out.2.2.1.set (i := 0) (v := .slice A' L c')) (OnlyS.set (onlyS2 _ _ _ _ _ _) 0 _ _ _) 1 (.slice B M k)) ((F.out.2.2.2.setCell (p := ⟨w.heap.size + 1, 0, none⟩) (by show w.heap.size ≤ w.heap.size + 1; omega) (.slice A' L c')).setCell (p := ⟨w.heap.size + 1, 1, none⟩) (by show w.heap.size ≤ w.heap.size + 1; omega) (.slice B M k))))
    refine bodyPost_ret (nt_ret Try.results45 rfl HFN.out.1) rfl ⟨A', c', B, k, ?_, HFN.out.2.1, HFN.out.2.2⟩
    show _ = Ending.returned (.agg #[.slice A' (wo n i).q.length c', .slice B n.ap.length k])
    rw [HXL.out, HN.out.2]
  · skip
    refine wp_region_later 13 (fun w' => w'.cell? ⟨w.heap.size, 0, none⟩ = some (.slice (some ⟨bA, oA, none⟩) N c)) (by kernel_rfl) ?_
    refine takeL (d := some 6) (i := 1) (v := ?v1b) rfl rfl (by kernel_rfl) (by kernel_rfl) (by kernel_rfl) (fun _ _ _ h => h) rfl (by kernel_rfl) (Or.inl ⟨by rfl, ?y1b⟩) HDV.out ?r1b
    case y1b =>
      intro w hSw
      try dsimp only at hSw
      go_simp
      all_goals with_reducible rfl
    try simp only [Act.put, List.setIfInBounds_toArray, List.set_cons_zero, List.set_cons_succ]
    refine takeL (d := some 7) (i := 2) (v := ?v2b) rfl rfl (by kernel_rfl) (by kernel_rfl) (by kernel_rfl) (fun _ _ _ h => h) rfl (by kernel_rfl) (Or.inl ⟨by rfl, ?y2b⟩) HDV.out ?r2b
    case y2b =>
      intro w hSw
      try dsimp only at hSw
      go_simp
      all_goals with_reducible rfl
    try simp only [Act.put, List.setIfInBounds_toArray, List.set_cons_zero, List.set_cons_succ]
    refine takeL (d := some 8) (i := 3) (v := ?v3b) rfl rfl (by kernel_rfl) (by kernel_rfl) (by kernel_rfl) (fun _ _ _ h => h) rfl (by kernel_rfl) (Or.inl ⟨by rfl, ?y3b⟩) HDV.out ?r3b
    case y3b =>
      intro w hSw
      try dsimp only at hSw
      go_simp
      all_goals with_reducible rfl
    try simp only [Act.put, List.setIfInBounds_toArray, List.set_cons_zero, List.set_cons_succ]
    refine takeL (d := some 9) (i := 4) (v := ?v4b) rfl rfl (by kernel_rfl) (by kernel_rfl) (by kernel_rfl) (fun _ _ _ h => h) rfl (by kernel_rfl) (Or.inl ⟨by rfl, ?y4b⟩) HDV.out ?r4b
    case y4b =>
      intro w hSw
      try dsimp only at hSw
      go_simp
      all_goals with_reducible rfl
    try simp only [Act.put, List.setIfInBounds_toArray, List.set_cons_zero, List.set_cons_succ]
    refine takeL (d := some 11) (i := 6) (v := ?v6b) rfl rfl (by kernel_rfl) (by kernel_rfl) (by kernel_rfl) (fun _ _ _ h => h) rfl (by kernel_rfl) (Or.inl ⟨by rfl, ?y6b⟩) HDV.out ?r6b
    case y6b =>
      intro w hSw
      try dsimp only at hSw
      go_simp
      all_goals with_reducible rfl
    try simp only [Act.put, List.setIfInBounds_toArray, List.set_cons_zero, List.set_cons_succ]
    refine takeL (d := some 12) (i := 7) (v := ?v7b) rfl rfl (by kernel_rfl) (by kernel_rfl) (by kernel_rfl) (fun _ _ _ h => h) rfl (by kernel_rfl) (Or.inl ⟨by rfl, ?y7b⟩) HDV.out ?r7b
    case y7b =>
      intro w hSw
      try dsimp only at hSw
      go_simp
      all_goals with_reducible rfl
    try simp only [Act.put, List.setIfInBounds_toArray, List.set_cons_zero, List.set_cons_succ]
    refine takeL (d := some 13) (i := 8) (v := ?v8b) rfl rfl (by kernel_rfl) (by kernel_rfl) (by kernel_rfl) (fun _ _ _ h => h) rfl (by kernel_rfl) (Or.inl ⟨by rfl, ?y8b⟩) HDV.out ?r8b
    case y8b =>
      intro w hSw
      try dsimp only at hSw
      go_simp
      all_goals with_reducible rfl
    try simp only [Act.put, List.setIfInBounds_toArray, List.set_cons_zero, List.set_cons_succ]
    refine takeL (d := some 14) (i := 9) (v := ?v9b) rfl rfl (by kernel_rfl) (by kernel_rfl) (by kernel_rfl) (fun _ _ _ h => h) rfl (by kernel_rfl) (Or.inl ⟨by rfl, ?y9b⟩) HDV.out ?r9b
    case y9b =>
      intro w hSw
      try dsimp only at hSw
      go_simp
      all_goals with_reducible rfl
    try simp only [Act.put, List.setIfInBounds_toArray, List.set_cons_zero, List.set_cons_succ]
    refine takeL (d := some 15) (i := 10) (v := ?v10b) rfl rfl (by kernel_rfl) (by kernel_rfl) (by kernel_rfl) (fun _ _ _ h => h) rfl (by kernel_rfl) (Or.inl ⟨by rfl, ?y10b⟩) HDV.out ?r10b
    case y10b =>
      intro w hSw
      try dsimp only at hSw
      go_simp
      all_goals with_reducible rfl
    try simp only [Act.put, List.setIfInBounds_toArray, List.set_cons_zero, List.set_cons_succ]
    have hwx : wo n i = ⟨n.q.take i ++ n.q.drop j, n.ap⟩ := by
      unfold wo
      rw [HJ.out]
    have hm2 : (n.q.drop j).length = N - j := by rw [List.length_drop, HN.out.1]
    have hu2 : PkF w (n.q.drop j) (vsA.drop (j * 3)) := HV.out.1.drop j
    have hc2 : ∀ Z, Below w.heap.size w Z → ∀ b, some (⟨bA, oA + j * 3, none⟩ : Addr) = some b → ∀ (h : Nat) u, (vsA.drop (j * 3))[h]? = some u → Z.cell? (b.add h) = some u := fun Z hb b e h u hj => by
      cases e
      rw [List.getElem?_drop] at hj
      rw [add_off, Nat.add_assoc]
      exact (hb.cell (p := ⟨bA, oA + (j * 3 + h), none⟩) hbA).trans (HV.out.2 _ _ hj)
    have hl2 : (n.q.take i).length + (N - j) = i + (N - j) := by rw [List.length_take, HN.out.1]; omega
    have hNL : i + (N - j) ≤ N := by have := HJ.out; omega
    have hm1 : (n.q.take i).length = i := by rw [List.length_take, HN.out.1]; omega
    have hu1 : PkF w (n.q.take i) (vsA.take (i * 3)) := HV.out.1.take i
    have hc1 : ∀ Z, Below w.heap.size w Z → ∀ b, some (⟨bA, oA, none⟩ : Addr) = some b → ∀ (h : Nat) u, (vsA.take (i * 3))[h]? = some u → Z.cell? (b.add h) = some u := fun Z hb b e h u hj => by
      cases e
      rw [List.getElem?_take] at hj
      split at hj
      · rw [add_off]
        exact (hb.cell (p := ⟨bA, oA + h, none⟩) hbA).trans (HV.out.2 _ _ hj)
      · cases hj
    have HC := Lib.hid (And.intro hm1 (And.intro hu1 (And.intro hc1 (And.intro hm2 (And.intro hu2 (And.intro hc2 (And.intro hl2 hwx)))))))
    clear hm1 hu1 hc1 hm2 hu2 hc2 hl2 hwx
    refine oneL (i := 0) (by kernel_rfl) rfl (fun K' hK => ?_)
    go_simp
    refine hK.out _ _ (fun _ => HD1.out _ HBE.out) ?_
    clear hK
    refine oneL (i := 5) (by kernel_rfl) rfl (fun K' hK => ?_)
    refine step_append_oq (base := W.heap.size) (w0 := w) (by rfl) (.tmp 5) (.tmp 9) (by rfl) (.slice (some ⟨W.heap.size, 0, none⟩) 0 0) [] (by rfl) HE0.out (some ⟨bA, oA, none⟩) (n.q.take i) (vsA.take (i * 3)) i c HC.out.1 (by rfl) HC.out.2.1 (HC.out.2.2.1 _ (H2.out.below.trans (HBE.out.mono H2.out.below.size))) (fun e => by cases e) i (by simp) (by omega) HBE.out.size ?_
    intro A3 c3 w3 ho3 hg3
    have hB3 := HBE.out.grown hg3 HBE.out.size (fun i hi => by injection hi with hi; simp only at hi; omega)
    have HB3 := Lib.hid hB3
    rw [List.nil_append] at ho3
    have HO3 := Lib.hid ho3
    clear ho3 hg3 hB3
    refine hK.out _ _ (fun _ => HD1.out _ HB3.out) ?_
    clear hK
    refine oneL (i := 11) (by kernel_rfl) rfl (fun K' hK => ?_)
    refine step_append_oq (base := W.heap.size) (w0 := w) (by rfl) (.tmp 10) (.tmp 15) (by rfl) (.slice A3 i c3) (n.q.take i) (by rfl) HO3.out (some ⟨bA, oA + j * 3, none⟩) (n.q.drop j) (vsA.drop (j * 3)) (N - j) (c - j) HC.out.2.2.2.1 (by rfl) HC.out.2.2.2.2.1 (HC.out.2.2.2.2.2.1 _ (H2.out.below.trans (HB3.out.mono H2.out.below.size))) (fun e => by cases e) (i + (N - j)) HC.out.2.2.2.2.2.2.1 (by omega) HB3.out.size ?_
    intro A' c' w4 ho4 hg4
    have hB4 : Below W.heap.size W w4 := by
      obtain ⟨vs3, hr3, _⟩ := HO3.out
      exact HB3.out.grown hg4 HB3.out.size (fun i hi => (hr3.lt i hi).1)
    have hBW := H2.out.below.trans (hB4.mono H2.out.below.size)
    obtain ⟨A5, c5, he5, hq5⟩ := ho4.qq hBW
    have hlen : (n.q.take i ++ (n.q.drop j)).length = i + (N - j) := by rw [List.length_append, HC.out.2.2.2.1]; exact HC.out.2.2.2.2.2.2.1
    rw [hlen] at he5
    injection he5 with he6 he7 he8
    subst he6 he8
    have X3 := H2.out.box.below hB4
    unfold ntc at X3
    rw [HN.out.1, HN.out.2] at X3
    have Z3 := H2.out.res.below hB4
    have N3 : NtIn w4 (wo n i) A' c' B k := by
      rw [HC.out.2.2.2.2.2.2.2]
      exact ⟨hq5, HSI.out.2.up hBW⟩
    obtain ⟨L, hL⟩ : ∃ L, i + (N - j) = L := ⟨_, rfl⟩
    have HXL := Lib.hid (show (wo n i).q.length = L by rw [HC.out.2.2.2.2.2.2.2, ← hL]; exact hlen)
    rw [hL]
    clear hL he7
    have F1 := N3.off X3 (onlyS2 _ _ _ _ _ _) 0 (.slice A' L c')
    have F2 : Box (w4.setCell ⟨w.heap.size, 0, none⟩ (.slice A' L c')) w.heap.size #[.slice A' L c', .slice B M k] 25 := X3.set (i := 0) (v := .slice A' L c')
    have F3 := box_other (b := w.heap.size) (i := 0) (v := .slice A' L c') Z3 (by omega)
    have F4 := hBW.setCell (p := ⟨w.heap.size, 0, none⟩) (Nat.le_refl _) (.slice A' L c')
    have F := Lib.hid (And.intro F1 (And.intro F2 (And.intro F3 F4)))
    have x0' := X3.cell 0
    have f0' := X3.frozen 0
    simp only [List.getElem?_toArray, List.getElem?_cons_zero] at x0'
    have HDV4 := Lib.hid (HD1.out w4 hB4)
    clear F1 F2 F3 F4 hB4 X3 Z3 N3 ho4 hg4 hq5 hlen hBW
    refine hK.out _ _ (fun _ => HDV4.out) ?_
    clear hK
    refine oneL (i := 12) (by kernel_rfl) rfl (fun K' hK => ?_)
    go_simp
    refine hK.out _ _ (fun _ => HDV4.out) ?_
    clear hK
    refine oneL (i := 13) (by kernel_rfl) rfl (fun K' hK => ?_)
    go_simp
    refine hK.out _ _ (fun e => by simp at e) ?_
    clear hK
    refine doneL (by kernel_rfl) ?_ _
    clear x0' f0' HDV4 HD1 HDV hij HO3 HB3 HE0 HBE
    generalize World.setCell _ ⟨w.heap.size, 0, none⟩ _ = wF at *
    have x0 := F.out.2.1.cell 0
    have x1 := F.out.2.1.cell 1
    have z0 := F.out.2.2.1.cell 0
    have z1 := F.out.2.2.1.cell 1
    have g0 := F.out.2.2.1.frozen 0
    have g1 := F.out.2.2.1.frozen 1
    simp only [List.getElem?_toArray, List.getElem?_cons_zero, List.getElem?_cons_succ] at x0 x1 z0 z1
    go_wp2_with fail
    have HFN := Lib.hid (And.intro (box2 (.slice A' L c') (.slice B M k) F.out.2.2.1) (And.intro ((F.out.1.off F.out.2.2.1 (onlyS2 _ _ _ _ _ _) 0 (.slice A' L c')).off (F.out.2.2.1.set (i := 0) (v := .slice A' L c')) (OnlyS.set (onlyS2 _ _ _ _ _ _) 0 _ _ _) 1 (.slice B M k)) ((F.out.2.2.2.setCell (p := ⟨w.heap.size + 1, 0, none⟩) (by show w.heap.size ≤ w.heap.size + 1; omega) (.slice A' L c')).setCell (p := ⟨w.heap.size + 1, 1, none⟩) (by show w.heap.size ≤ w.heap.size + 1; omega) (.slice B M k))))
    refine bodyPost_ret (nt_ret Try.results45 rfl HFN.out.1) rfl ⟨A', c', B, k, ?_, HFN.out.2.1, HFN.out.2.2⟩
    show _ = Ending.returned (.agg #[.slice A' (wo n i).q.length c', .slice B n.ap.length k])
    rw [HXL.out, HN.out.2]
end Go.Proofs.Ytojijebmipgeeaa
