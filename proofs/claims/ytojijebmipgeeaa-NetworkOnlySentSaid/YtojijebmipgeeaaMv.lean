/- with, without. -/
import Derived.Test.YtojijebmipgeeaaNr
import Derived.Test.YtojijebmipgeeaaLat
import Derived.IntWalk
namespace Go.Proofs.Ytojijebmipgeeaa
open Go.RowKit
set_option linter.unusedVariables false

theorem NtIn.off {w : World} {n : Nt} {A B : Option Addr} {c k : Nat} (h : NtIn w n A c B k) {b : Nat} {cs : Array Value} {t : TypeId} (hx : Box w b cs t) (hs : OnlyS cs) (i : Nat) (v : Value) : NtIn (w.setCell ⟨b, i, none⟩ v) n A c B k := ⟨h.1.off hx hs i v, h.2.off hx hs i v⟩
theorem QQ.cut {w : World} {A : Option Addr} {l : List Pk} {c : Nat} (h : QQ w A l c) : QQ w A l l.length := ⟨h.1, Nat.le_refl _, Nat.le_trans h.2.1 h.2.2.1, fun e => ⟨(h.2.2.2 e).1, by rw [(h.2.2.2 e).1]; rfl⟩⟩
theorem QQ.lit {w : World} {g n : Nat} {p : Pk} {D : Option Addr} {d : Nat} {t : TypeId} (hn : p.da.length = n) (hx : Box w g #[.int .i64 p.fr, .int .i64 p.to, .slice D n d] t) (hs : Sl w D p.da d) : QQ w (some ⟨g, 0, none⟩) [p] 1 := by
  refine ⟨fun _ => ⟨g, 0, _, rfl, hx.lt, PkF.one_ hn hs, fun j u hj => ?_⟩, by simp, by unfold maxLen; omega, fun e => by cases e⟩
  rw [Nat.zero_add, hx.cell j]
  simpa using hj
theorem step_append_pk {w : World} {ops : Array Oper} {o : Oper} {a : Act} {K : Act → World → Prop} {Q : Exit → Act → World → Prop} {E : Prop} (hgd : o.guard = none) (s x : Operand)
    (ho : o.op = .call { callee := .builtin .append, args := #[s, x], argTypes := #[22, 22] })
    (A : Option Addr) (l : List Pk) (n : Nat) (hn : l.length = n) (hs : a.eval s = .slice A n n) (hA : QQ w A l n)
    (X : Addr) (xs : List Pk) (m cx : Nat) (hm : xs.length = m) (hx : a.eval x = .slice (some X) m cx) (hX : QQ w (some X) xs cx) (h0 : m = 0 → ∃ b off, A = some ⟨b, off, none⟩) (N : Nat) (hN : n + m = N) (hb : N ≤ 100000)
    (h : ∀ A' c' w', QQ w' A' (l ++ xs) c' → Below w.heap.size w w' → K (a.put o.dst (.slice A' N c')) w') :
    if Region.wanted o (yielded ops a.tmps) = true then Oper.wp Try.prog o a w K Q else E := by
  have hw : Region.wanted o (yielded ops a.tmps) = true := by simp [Region.wanted, hgd]
  rw [if_pos hw]
  subst hN
  exact wp_append_pk s x ho A l n hn hs hA X xs m cx hm hx hX h0 hb h
theorem wt_full {n : Nt} {p : Pk} (h : n.q.length = 4096) : wt n p = nt0 ∧ wte n = 2 := by
  have : full n = true := decide_eq_true h
  simp [wt, wte, this]
theorem wt_room {n : Nt} {p : Pk} (h : n.q.length ≠ 4096) : wt n p = wi n p ∧ wte n = 0 := by
  have : full n = false := decide_eq_false h
  simp [wt, wte, this]
theorem alloc3 (w : World) (a b c : Obj) : Below w.heap.size w (((w.alloc a).alloc b).alloc c) := (((Below.refl _ w).alloc (Nat.le_refl _) a).alloc (by simp) b).alloc (by simp; omega) c

set_option maxHeartbeats 4000000 in
set_option maxRecDepth 100000 in
theorem with_any (n : Nt) (A B D : Option Addr) (c k d : Nat) (p : Pk) (w : World) (hS : NtIn w n A c B k) (hD : Sl w D p.da d) (hq : n.q.length ≤ 4096) :
    Calls Try.prog 29 #[ntv n A c B k, pkv p D d] w (NtPost (wt n p) (wte n) w) := by
  obtain ⟨W, hW⟩ : ∃ W, ((w.alloc (.cells (ntc n A c B k) 25)).alloc (.cells (pkc p D d) 28)).alloc (.cells #[.slice none 0 0, .slice none 0 0] 25) = W := ⟨_, rfl⟩
  have hb0 : Below w.heap.size w W := hW ▸ alloc3 w _ _ _
  have hX : Box W w.heap.size (ntc n A c B k) 25 := hW ▸ Box.alloc (Box.alloc (Box.new w _ _) _) _
  have hY : Box W (w.heap.size + 1) (pkc p D d) 28 := by
    have := Box.alloc (Box.new (w.alloc (.cells (ntc n A c B k) 25)) (pkc p D d) 28) (.cells #[.slice none 0 0, .slice none 0 0] 25)
    rw [World.size_alloc] at this
    exact hW ▸ this
  have hZ : Box W (w.heap.size + 1 + 1) #[.slice none 0 0, .slice none 0 0] 25 := by
    have := Box.new ((w.alloc (.cells (ntc n A c B k) 25)).alloc (.cells (pkc p D d) 28)) #[.slice none 0 0, .slice none 0 0] 25
    rw [World.size_alloc, World.size_alloc] at this
    exact hW ▸ this
  have hck : n.q.length ≤ c := hS.1.2.1
  have HSI := Lib.hid (And.intro (hS.up hb0) (hD.up hb0))
  unfold NtPost
  unfold ntv ntc pkv pkc at *
  obtain ⟨N, hN⟩ : ∃ N, n.q.length = N := ⟨_, rfl⟩
  obtain ⟨M, hM⟩ : ∃ M, n.ap.length = M := ⟨_, rfl⟩
  obtain ⟨m, hm⟩ : ∃ m, p.da.length = m := ⟨_, rfl⟩
  obtain ⟨a, ha⟩ : ∃ a, p.fr = a := ⟨_, rfl⟩
  obtain ⟨b, hb⟩ : ∃ b, p.to = b := ⟨_, rfl⟩
  have HN := Lib.hid (And.intro hN (And.intro hM (And.intro hm (And.intro ha hb))))
  rw [hN] at hq hck
  rw [hN, hM] at hX hW ⊢
  rw [hm, ha, hb] at hY hW ⊢
  clear hN hM hm ha hb hS hD
  have x0 := hX.cell 0
  have x1 := hX.cell 1
  have y0 := hY.cell 0
  have y1 := hY.cell 1
  have y2 := hY.cell 2
  have z0 := hZ.cell 0
  have z1 := hZ.cell 1
  have e0 := hX.frozen 0
  have e1 := hX.frozen 1
  have g0 := hZ.frozen 0
  have g1 := hZ.frozen 1
  simp only [List.getElem?_toArray, List.getElem?_cons_zero, List.getElem?_cons_succ] at x0 x1 y0 y1 y2 z0 z1
  have HB := Lib.hid (And.intro hb0 (And.intro hX (And.intro hY hZ)))
  clear hb0 hX hY hZ
  have HW := Lib.hid hW
  clear hW
  by_cases hf : N = 4096
  · have HE := Lib.hid (@wt_full n p (HN.out.1.trans hf))
    have hd : ((N : Int) == 4096) = true := by simp; omega
    clear hf
    go_enter Try.func29, Try.ntmps29
    go_wp2_with fail
    rw [HW.out]
    go_wp2_with fail
    refine bodyPost_ret (nt_ret2 Try.results29 rfl HB.out.2.2.2) rfl ⟨none, 0, none, 0, ?_, ?_, ?_⟩
    · rw [HE.out.1, HE.out.2]; rfl
    · rw [HE.out.1]; exact NtIn.zero _
    · exact HB.out.1
  · have HE := Lib.hid (@wt_room n p (fun h => hf (HN.out.1.symm.trans h)))
    have hd : ((N : Int) == 4096) = false := by simp; omega
    clear hf
    have hn0 : (0 : Int) ≤ (N : Int) := by omega
    have hnc : (N : Int) ≤ (c : Int) := by omega
    go_enter Try.func29, Try.ntmps29
    go_wp2_with fail
    rw [HW.out]
    go_wp2_with fail
    have HD1 := Lib.hid (fun W' (hb : Below W.heap.size W W') => show (fun w' => w'.cell? ⟨w.heap.size, 0, none⟩ = some (.slice A N c) ∧ w'.cell? ⟨w.heap.size + 1, 0, none⟩ = some (.int .i64 a) ∧ w'.cell? ⟨w.heap.size + 1, 1, none⟩ = some (.int .i64 b) ∧ w'.cell? ⟨w.heap.size + 1, 2, none⟩ = some (.slice D m d)) W' from
      ⟨(hb.cell (p := ⟨w.heap.size, 0, none⟩) HB.out.2.1.lt).trans x0, (hb.cell (p := ⟨w.heap.size + 1, 0, none⟩) HB.out.2.2.1.lt).trans y0, (hb.cell (p := ⟨w.heap.size + 1, 1, none⟩) HB.out.2.2.1.lt).trans y1, (hb.cell (p := ⟨w.heap.size + 1, 2, none⟩) HB.out.2.2.1.lt).trans y2⟩)
    have HDV := Lib.hid (HD1.out W.drew (Below.refl W.heap.size W).drew)
    have hba := ((Below.refl W.heap.size W).alloc (Nat.le_refl _) (.cells #[.int .i64 a, .int .i64 b, .slice D m d] 28)).drew
    have HBA := Lib.hid hba
    have HLIT := Lib.hid (show QQ (W.alloc (.cells #[.int .i64 a, .int .i64 b, .slice D m d] 28)).drew (some ⟨W.heap.size, 0, none⟩) [p] 1 from by
      refine QQ.lit (t := 28) HN.out.2.2.1 ?_ (HSI.out.2.up hba)
      rw [HN.out.2.2.2.1, HN.out.2.2.2.2]
      exact Box.drew (Box.new W _ _))
    have HQA := Lib.hid (show QQ (W.alloc (.cells #[.int .i64 a, .int .i64 b, .slice D m d] 28)).drew A n.q N from by
      have := (HSI.out.1.1.up hba).cut
      rw [HN.out.1] at this
      exact this)
    clear hba x0 x1 y0 y1 y2 z0 z1 e0 e1 g0 g1
    refine wp_region_later 9 (fun w' => w'.cell? ⟨w.heap.size, 0, none⟩ = some (.slice A N c) ∧ w'.cell? ⟨w.heap.size + 1, 0, none⟩ = some (.int .i64 a) ∧ w'.cell? ⟨w.heap.size + 1, 1, none⟩ = some (.int .i64 b) ∧ w'.cell? ⟨w.heap.size + 1, 2, none⟩ = some (.slice D m d)) (by kernel_rfl) ?_
    refine takeL (d := some 13) (i := 0) (v := ?v0) rfl rfl (by kernel_rfl) (by kernel_rfl) (by kernel_rfl) (fun _ _ _ h => h) rfl (by kernel_rfl) (Or.inl ⟨by rfl, ?y0⟩) HDV.out ?r0
    case y0 =>
      intro w hSw
      try dsimp only at hSw
      go_simp
      all_goals with_reducible rfl
    try simp only [Act.put, List.setIfInBounds_toArray, List.set_cons_zero, List.set_cons_succ]
    refine takeL (d := some 14) (i := 1) (v := ?v1) rfl rfl (by kernel_rfl) (by kernel_rfl) (by kernel_rfl) (fun _ _ _ h => h) rfl (by kernel_rfl) (Or.inl ⟨by rfl, ?y1⟩) HDV.out ?r1
    case y1 =>
      intro w hSw
      try dsimp only at hSw
      go_simp
      all_goals with_reducible rfl
    try simp only [Act.put, List.setIfInBounds_toArray, List.set_cons_zero, List.set_cons_succ]
    refine takeL (d := some 15) (i := 2) (v := ?v2) rfl rfl (by kernel_rfl) (by kernel_rfl) (by kernel_rfl) (fun _ _ _ h => h) rfl (by kernel_rfl) (Or.inl ⟨by rfl, ?y2⟩) HDV.out ?r2
    case y2 =>
      intro w hSw
      try dsimp only at hSw
      go_simp
      all_goals with_reducible rfl
    try simp only [Act.put, List.setIfInBounds_toArray, List.set_cons_zero, List.set_cons_succ]
    refine takeL (d := some 16) (i := 3) (v := ?v3) rfl rfl (by kernel_rfl) (by kernel_rfl) (by kernel_rfl) (fun _ _ _ h => h) rfl (by kernel_rfl) (Or.inl ⟨by rfl, ?y3⟩) HDV.out ?r3
    case y3 =>
      intro w hSw
      try dsimp only at hSw
      go_simp
      all_goals with_reducible rfl
    try simp only [Act.put, List.setIfInBounds_toArray, List.set_cons_zero, List.set_cons_succ]
    refine takeL (d := some 17) (i := 4) (v := ?v4) rfl rfl (by kernel_rfl) (by kernel_rfl) (by kernel_rfl) (fun _ _ _ h => h) rfl (by kernel_rfl) (Or.inl ⟨by rfl, ?y4⟩) HDV.out ?r4
    case y4 =>
      intro w hSw
      try dsimp only at hSw
      go_simp
      all_goals with_reducible rfl
    try simp only [Act.put, List.setIfInBounds_toArray, List.set_cons_zero, List.set_cons_succ]
    refine takeL (d := some 18) (i := 5) (v := ?v5) rfl rfl (by kernel_rfl) (by kernel_rfl) (by kernel_rfl) (fun _ _ _ h => h) rfl (by kernel_rfl) (Or.inl ⟨by rfl, ?y5⟩) HDV.out ?r5
    case y5 =>
      intro w hSw
      try dsimp only at hSw
      go_simp
      all_goals with_reducible rfl
    try simp only [Act.put, List.setIfInBounds_toArray, List.set_cons_zero, List.set_cons_succ]
    refine oneL (i := 6) (by kernel_rfl) rfl (fun K' hK => ?_)
    go_simp
    refine hK.out _ _ (fun _ => HD1.out _ HBA.out) ?_
    clear hK
    refine oneL (i := 7) (by kernel_rfl) rfl (fun K' hK => ?_)
    refine step_append_pk (by rfl) (.tmp 17) (.tmp 19) (by rfl) A n.q N HN.out.1 (by rfl) HQA.out ⟨W.heap.size, 0, none⟩ [p] 1 1 rfl (by rfl) HLIT.out (fun h => by cases h) (N + 1) rfl (by omega) ?_
    intro A' c' w3 hq3 hb3
    have hB3 := HBA.out.trans (hb3.mono HBA.out.size)
    have X3 := HB.out.2.1.below hB3
    have Z3 := HB.out.2.2.2.below hB3
    have N3 : NtIn w3 (wi n p) A' c' B k := ⟨hq3, (HSI.out.1.2.up hB3)⟩
    have F1 := N3.off X3 (onlyS2 _ _ _ _ _ _) 0 (.slice A' (N + 1) c')
    have F2 : Box (w3.setCell ⟨w.heap.size, 0, none⟩ (.slice A' (N + 1) c')) w.heap.size #[.slice A' (N + 1) c', .slice B M k] 25 := X3.set (i := 0) (v := .slice A' (N + 1) c')
    have F3 := box_other (b := w.heap.size) (i := 0) (v := .slice A' (N + 1) c') Z3 (by omega)
    have F4 := (HB.out.1.trans (hB3.mono HB.out.1.size)).setCell (p := ⟨w.heap.size, 0, none⟩) (Nat.le_refl _) (.slice A' (N + 1) c')
    have F := Lib.hid (And.intro F1 (And.intro F2 (And.intro F3 F4)))
    have x0' := X3.cell 0
    have f0' := X3.frozen 0
    simp only [List.getElem?_toArray, List.getElem?_cons_zero] at x0'
    have HDV3 := Lib.hid (HD1.out w3 hB3)
    clear F1 F2 F3 F4 hq3 hb3 hB3 X3 Z3 N3
    refine hK.out _ _ (fun _ => HDV3.out) ?_
    clear hK
    refine oneL (i := 8) (by kernel_rfl) rfl (fun K' hK => ?_)
    go_simp
    refine hK.out _ _ (fun _ => HDV3.out) ?_
    clear hK
    refine oneL (i := 9) (by kernel_rfl) rfl (fun K' hK => ?_)
    go_simp
    refine hK.out _ _ (fun e => by simp at e) ?_
    clear hK
    refine doneL (by kernel_rfl) ?_ _
    clear x0' f0' HDV3 HD1 HDV HBA HLIT HQA
    generalize World.setCell _ ⟨w.heap.size, 0, none⟩ _ = wF at *
    have x0 := F.out.2.1.cell 0
    have x1 := F.out.2.1.cell 1
    have z0 := F.out.2.2.1.cell 0
    have z1 := F.out.2.2.1.cell 1
    have g0 := F.out.2.2.1.frozen 0
    have g1 := F.out.2.2.1.frozen 1
    simp only [List.getElem?_toArray, List.getElem?_cons_zero, List.getElem?_cons_succ] at x0 x1 z0 z1
    go_wp2_with fail
    refine bodyPost_ret (nt_ret2 Try.results29 rfl (box2 (.slice A' (N + 1) c') (.slice B M k) F.out.2.2.1)) rfl ⟨A', c', B, k, ?_, ?_, ?_⟩
    · rw [HE.out.1, HE.out.2]
      show _ = Ending.returned (.tuple #[.agg #[.slice A' (n.q ++ [p]).length c', .slice B n.ap.length k], _])
      rw [List.length_append, HN.out.1, HN.out.2.1]
      rfl
    · rw [HE.out.1]
      exact (F.out.1.off F.out.2.2.1 (onlyS2 _ _ _ _ _ _) 0 _).off (F.out.2.2.1.set (i := 0) (v := .slice A' (N + 1) c')) (OnlyS.set (onlyS2 _ _ _ _ _ _) 0 _ _ _) 1 _
    · exact (F.out.2.2.2.setCell (p := ⟨w.heap.size + 1 + 1, 0, none⟩) (by show w.heap.size ≤ w.heap.size + 1 + 1; omega) _).setCell (p := ⟨w.heap.size + 1 + 1, 1, none⟩) (by show w.heap.size ≤ w.heap.size + 1 + 1; omega) _

set_option maxHeartbeats 4000000 in
set_option maxRecDepth 100000 in
theorem without_any (n : Nt) (A B : Option Addr) (c k i : Nat) (w : World) (hS : NtIn w n A c B k) (hi : i < n.q.length) (hq : n.q.length ≤ 4096) :
    Calls Try.prog 43 #[ntv n A c B k, .int .i64 (i : Int)] w (NtOnly (wo n i) w) := by
  obtain ⟨bA, oA, vsA, rfl, hbA, _⟩ := hS.1.1 (by omega)
  obtain ⟨W, hW⟩ : ∃ W, (w.alloc (.cells (ntc n (some ⟨bA, oA, none⟩) c B k) 25)).alloc (.cells #[.slice none 0 0, .slice none 0 0] 25) = W := ⟨_, rfl⟩
  have hb0 : Below w.heap.size w W := hW ▸ ((Below.refl _ w).alloc (Nat.le_refl _) _).alloc (by simp) _
  have hX : Box W w.heap.size (ntc n (some ⟨bA, oA, none⟩) c B k) 25 := hW ▸ Box.alloc (Box.new w _ _) _
  have hZ : Box W (w.heap.size + 1) #[.slice none 0 0, .slice none 0 0] 25 := by
    have := Box.new (w.alloc (.cells (ntc n (some ⟨bA, oA, none⟩) c B k) 25)) #[.slice none 0 0, .slice none 0 0] 25
    rw [World.size_alloc] at this
    exact hW ▸ this
  have hck : n.q.length ≤ c := hS.1.2.1
  have hcm := hS.1.2.2.1
  have HSI := Lib.hid (hS.up hb0)
  unfold NtOnly
  unfold ntv ntc at *
  obtain ⟨N, hN⟩ : ∃ N, n.q.length = N := ⟨_, rfl⟩
  obtain ⟨M, hM⟩ : ∃ M, n.ap.length = M := ⟨_, rfl⟩
  have HN := Lib.hid (And.intro hN hM)
  rw [hN] at hq hck hi
  rw [hN, hM] at hX hW ⊢
  clear hN hM hS
  obtain ⟨j, hj⟩ : ∃ j, j = i + 1 := ⟨_, rfl⟩
  have hjN : j ≤ N := by omega
  have x0 := hX.cell 0
  simp only [List.getElem?_toArray, List.getElem?_cons_zero] at x0
  have HB := Lib.hid (And.intro hb0 (And.intro hX hZ))
  clear hb0 hX hZ
  have HW := Lib.hid hW
  clear hW
  have HQ1 := Lib.hid (show QQ W.drew (some ⟨bA, oA, none⟩) (n.q.take i) i from (HSI.out.1.take (n := i) (k := i) (by rw [List.length_take]; omega) (by omega)).up (Below.refl _ W).drew)
  have HQ2 := Lib.hid (show QQ W.drew (some ⟨bA, oA + j * 3, none⟩) (n.q.drop j) (c - j) from by exact (HSI.out.1.drop (n := j) (by rw [HN.out.1]; exact hjN)).up (Below.refl _ W).drew)
  have hij : IntKind.i64.wrap ((i : Int) + 1) = (j : Int) := by
    have := IntWalk.i64_in ((i : Int) + 1) (by omega)
    omega
  have hic : i ≤ c := by omega
  have hjc : j ≤ c := by omega
  have HJ := Lib.hid (And.intro hj hj)
  clear hj
  go_enter Try.func43, Try.ntmps43
  go_wp2_with fail
  rw [HW.out]
  have HD1 := Lib.hid (fun W' (hb : Below W.heap.size W W') => show (fun w' => w'.cell? ⟨w.heap.size, 0, none⟩ = some (.slice (some ⟨bA, oA, none⟩) N c)) W' from (hb.cell (p := ⟨w.heap.size, 0, none⟩) HB.out.2.1.lt).trans x0)
  have HDV := Lib.hid (HD1.out W.drew (Below.refl W.heap.size W).drew)
  clear x0
  by_cases hcj : c = j
  · subst hcj
    refine wp_region_later 12 (fun w' => w'.cell? ⟨w.heap.size, 0, none⟩ = some (.slice (some ⟨bA, oA, none⟩) N c)) (by kernel_rfl) ?_
    refine takeL (d := some 5) (i := 0) (v := ?v0a) rfl rfl (by kernel_rfl) (by kernel_rfl) (by kernel_rfl) (fun _ _ _ h => h) rfl (by kernel_rfl) (Or.inl ⟨by rfl, ?y0a⟩) HDV.out ?r0a
    case y0a =>
      intro w hSw
      try dsimp only at hSw
      go_simp
      all_goals with_reducible rfl
    try simp only [Act.put, List.setIfInBounds_toArray, List.set_cons_zero, List.set_cons_succ]
    refine takeL (d := some 6) (i := 1) (v := ?v1a) rfl rfl (by kernel_rfl) (by kernel_rfl) (by kernel_rfl) (fun _ _ _ h => h) rfl (by kernel_rfl) (Or.inl ⟨by rfl, ?y1a⟩) HDV.out ?r1a
    case y1a =>
      intro w hSw
      try dsimp only at hSw
      go_simp
      all_goals with_reducible rfl
    try simp only [Act.put, List.setIfInBounds_toArray, List.set_cons_zero, List.set_cons_succ]
    refine takeL (d := some 7) (i := 2) (v := ?v2a) rfl rfl (by kernel_rfl) (by kernel_rfl) (by kernel_rfl) (fun _ _ _ h => h) rfl (by kernel_rfl) (Or.inl ⟨by rfl, ?y2a⟩) HDV.out ?r2a
    case y2a =>
      intro w hSw
      try dsimp only at hSw
      go_simp
      all_goals with_reducible rfl
    try simp only [Act.put, List.setIfInBounds_toArray, List.set_cons_zero, List.set_cons_succ]
    refine takeL (d := some 8) (i := 3) (v := ?v3a) rfl rfl (by kernel_rfl) (by kernel_rfl) (by kernel_rfl) (fun _ _ _ h => h) rfl (by kernel_rfl) (Or.inl ⟨by rfl, ?y3a⟩) HDV.out ?r3a
    case y3a =>
      intro w hSw
      try dsimp only at hSw
      go_simp
      all_goals with_reducible rfl
    try simp only [Act.put, List.setIfInBounds_toArray, List.set_cons_zero, List.set_cons_succ]
    refine takeL (d := some 9) (i := 4) (v := ?v4a) rfl rfl (by kernel_rfl) (by kernel_rfl) (by kernel_rfl) (fun _ _ _ h => h) rfl (by kernel_rfl) (Or.inl ⟨by rfl, ?y4a⟩) HDV.out ?r4a
    case y4a =>
      intro w hSw
      try dsimp only at hSw
      go_simp
      all_goals with_reducible rfl
    try simp only [Act.put, List.setIfInBounds_toArray, List.set_cons_zero, List.set_cons_succ]
    refine takeL (d := some 10) (i := 5) (v := ?v5a) rfl rfl (by kernel_rfl) (by kernel_rfl) (by kernel_rfl) (fun _ _ _ h => h) rfl (by kernel_rfl) (Or.inl ⟨by rfl, ?y5a⟩) HDV.out ?r5a
    case y5a =>
      intro w hSw
      try dsimp only at hSw
      go_simp
      all_goals with_reducible rfl
    try simp only [Act.put, List.setIfInBounds_toArray, List.set_cons_zero, List.set_cons_succ]
    refine takeL (d := some 11) (i := 6) (v := ?v6a) rfl rfl (by kernel_rfl) (by kernel_rfl) (by kernel_rfl) (fun _ _ _ h => h) rfl (by kernel_rfl) (Or.inl ⟨by rfl, ?y6a⟩) HDV.out ?r6a
    case y6a =>
      intro w hSw
      try dsimp only at hSw
      go_simp
      all_goals with_reducible rfl
    try simp only [Act.put, List.setIfInBounds_toArray, List.set_cons_zero, List.set_cons_succ]
    refine takeL (d := some 12) (i := 7) (v := ?v7a) rfl rfl (by kernel_rfl) (by kernel_rfl) (by kernel_rfl) (fun _ _ _ h => h) rfl (by kernel_rfl) (Or.inl ⟨by rfl, ?y7a⟩) HDV.out ?r7a
    case y7a =>
      intro w hSw
      try dsimp only at hSw
      go_simp
      all_goals with_reducible rfl
    try simp only [Act.put, List.setIfInBounds_toArray, List.set_cons_zero, List.set_cons_succ]
    refine takeL (d := some 13) (i := 8) (v := ?v8a) rfl rfl (by kernel_rfl) (by kernel_rfl) (by kernel_rfl) (fun _ _ _ h => h) rfl (by kernel_rfl) (Or.inl ⟨by rfl, ?y8a⟩) HDV.out ?r8a
    case y8a =>
      intro w hSw
      try dsimp only at hSw
      go_simp
      all_goals with_reducible rfl
    try simp only [Act.put, List.setIfInBounds_toArray, List.set_cons_zero, List.set_cons_succ]
    refine takeL (d := some 14) (i := 9) (v := ?v9a) rfl rfl (by kernel_rfl) (by kernel_rfl) (by kernel_rfl) (fun _ _ _ h => h) rfl (by kernel_rfl) (Or.inl ⟨by rfl, ?y9a⟩) HDV.out ?r9a
    case y9a =>
      intro w hSw
      try dsimp only at hSw
      go_simp
      all_goals with_reducible rfl
    try simp only [Act.put, List.setIfInBounds_toArray, List.set_cons_zero, List.set_cons_succ]
    have HX := Lib.hid (show wo n i = ⟨n.q.take i ++ [], n.ap⟩ from by
      unfold wo
      rw [List.drop_eq_nil_of_le (by rw [HN.out.1]; have := HJ.out.1; omega)])
    have HXL := Lib.hid (show (n.q.take i ++ []).length = i + 0 by rw [List.length_append, List.length_take, HN.out.1]; simp; omega)
    have hml : ([] : List Pk).length = 0 := rfl
    refine oneL (i := 10) (by kernel_rfl) rfl (fun K' hK => ?_)
    refine step_append_pk (by rfl) (.tmp 9) (.tmp 14) (by rfl) (some ⟨bA, oA, none⟩) (n.q.take i) i (by rw [List.length_take, HN.out.1]; omega) (by rfl) HQ1.out ⟨bA, oA, none⟩ [] 0 0 hml (by rfl) (QQ.none_of (by unfold maxLen; omega)) (fun _ => ⟨bA, oA, rfl⟩) (i + 0) rfl (by omega) ?_
    clear hml
    intro A' c' w3 hq3 hb3
    have hB3 : Below W.heap.size W w3 := (Below.refl _ W).drew.trans hb3
    have X3 := HB.out.2.1.below hB3
    have Z3 := HB.out.2.2.below hB3
    have N3 : NtIn w3 (wo n i) A' c' B k := by
      rw [HX.out]
      exact ⟨hq3, (HSI.out.2.up hB3)⟩
    obtain ⟨L, hL⟩ : ∃ L, i + 0 = L := ⟨_, rfl⟩
    rw [hL] at HXL ⊢
    clear hL
    have F1 := N3.off X3 (onlyS2 _ _ _ _ _ _) 0 (.slice A' L c')
    have F2 : Box (w3.setCell ⟨w.heap.size, 0, none⟩ (.slice A' L c')) w.heap.size #[.slice A' L c', .slice B M k] 25 := X3.set (i := 0) (v := .slice A' L c')
    have F3 := box_other (b := w.heap.size) (i := 0) (v := .slice A' L c') Z3 (by omega)
    have F4 := (HB.out.1.trans (hB3.mono HB.out.1.size)).setCell (p := ⟨w.heap.size, 0, none⟩) (Nat.le_refl _) (.slice A' L c')
    have F := Lib.hid (And.intro F1 (And.intro F2 (And.intro F3 F4)))
    have x0' := X3.cell 0
    have f0' := X3.frozen 0
    simp only [List.getElem?_toArray, List.getElem?_cons_zero] at x0'
    have HDV3 := Lib.hid (HD1.out w3 hB3)
    clear F1 F2 F3 F4 hq3 hb3 hB3 X3 Z3 N3
    refine hK.out _ _ (fun _ => HDV3.out) ?_
    clear hK
    refine oneL (i := 11) (by kernel_rfl) rfl (fun K' hK => ?_)
    go_simp
    refine hK.out _ _ (fun _ => HDV3.out) ?_
    clear hK
    refine oneL (i := 12) (by kernel_rfl) rfl (fun K' hK => ?_)
    go_simp
    refine hK.out _ _ (fun e => by simp at e) ?_
    clear hK
    refine doneL (by kernel_rfl) ?_ _
    clear x0' f0' HDV3 HD1 HDV HQ1 HQ2 hij
    generalize World.setCell _ ⟨w.heap.size, 0, none⟩ _ = wF at *
    have x0 := F.out.2.1.cell 0
    have x1 := F.out.2.1.cell 1
    have z0 := F.out.2.2.1.cell 0
    have z1 := F.out.2.2.1.cell 1
    have g0 := F.out.2.2.1.frozen 0
    have g1 := F.out.2.2.1.frozen 1
    simp only [List.getElem?_toArray, List.getElem?_cons_zero, List.getElem?_cons_succ] at x0 x1 z0 z1
    go_wp2_with fail
    refine bodyPost_ret (nt_ret Try.results43 rfl (box2 (.slice A' L c') (.slice B M k) F.out.2.2.1)) rfl ⟨A', c', B, k, ?_, ?_, ?_⟩
    · rw [HX.out]
      show _ = Ending.returned (.agg #[.slice A' (n.q.take i ++ []).length c', .slice B n.ap.length k])
      rw [HXL.out, HN.out.2]
    · exact (F.out.1.off F.out.2.2.1 (onlyS2 _ _ _ _ _ _) 0 _).off (F.out.2.2.1.set (i := 0) (v := .slice A' L c')) (OnlyS.set (onlyS2 _ _ _ _ _ _) 0 _ _ _) 1 _
    · exact (F.out.2.2.2.setCell (p := ⟨w.heap.size + 1, 0, none⟩) (by show w.heap.size ≤ w.heap.size + 1; omega) _).setCell (p := ⟨w.heap.size + 1, 1, none⟩) (by show w.heap.size ≤ w.heap.size + 1; omega) _
  · skip
    refine wp_region_later 12 (fun w' => w'.cell? ⟨w.heap.size, 0, none⟩ = some (.slice (some ⟨bA, oA, none⟩) N c)) (by kernel_rfl) ?_
    refine takeL (d := some 5) (i := 0) (v := ?v0b) rfl rfl (by kernel_rfl) (by kernel_rfl) (by kernel_rfl) (fun _ _ _ h => h) rfl (by kernel_rfl) (Or.inl ⟨by rfl, ?y0b⟩) HDV.out ?r0b
    case y0b =>
      intro w hSw
      try dsimp only at hSw
      go_simp
      all_goals with_reducible rfl
    try simp only [Act.put, List.setIfInBounds_toArray, List.set_cons_zero, List.set_cons_succ]
    refine takeL (d := some 6) (i := 1) (v := ?v1b) rfl rfl (by kernel_rfl) (by kernel_rfl) (by kernel_rfl) (fun _ _ _ h => h) rfl (by kernel_rfl) (Or.inl ⟨by rfl, ?y1b⟩) HDV.out ?r1b
    case y1b =>
      intro w hSw
      try dsimp only at hSw
      go_simp
      all_goals with_reducible rfl
    try simp only [Act.put, List.setIfInBounds_toArray, List.set_cons_zero, List.set_cons_succ]
    refine takeL (d := some 7) (i := 2) (v := ?v2b) rfl rfl (by kernel_rfl) (by kernel_rfl) (by kernel_rfl) (fun _ _ _ h => h) rfl (by kernel_rfl) (Or.inl ⟨by rfl, ?y2b⟩) HDV.out ?r2b
    case y2b =>
      intro w hSw
      try dsimp only at hSw
      go_simp
      all_goals with_reducible rfl
    try simp only [Act.put, List.setIfInBounds_toArray, List.set_cons_zero, List.set_cons_succ]
    refine takeL (d := some 8) (i := 3) (v := ?v3b) rfl rfl (by kernel_rfl) (by kernel_rfl) (by kernel_rfl) (fun _ _ _ h => h) rfl (by kernel_rfl) (Or.inl ⟨by rfl, ?y3b⟩) HDV.out ?r3b
    case y3b =>
      intro w hSw
      try dsimp only at hSw
      go_simp
      all_goals with_reducible rfl
    try simp only [Act.put, List.setIfInBounds_toArray, List.set_cons_zero, List.set_cons_succ]
    refine takeL (d := some 9) (i := 4) (v := ?v4b) rfl rfl (by kernel_rfl) (by kernel_rfl) (by kernel_rfl) (fun _ _ _ h => h) rfl (by kernel_rfl) (Or.inl ⟨by rfl, ?y4b⟩) HDV.out ?r4b
    case y4b =>
      intro w hSw
      try dsimp only at hSw
      go_simp
      all_goals with_reducible rfl
    try simp only [Act.put, List.setIfInBounds_toArray, List.set_cons_zero, List.set_cons_succ]
    refine takeL (d := some 10) (i := 5) (v := ?v5b) rfl rfl (by kernel_rfl) (by kernel_rfl) (by kernel_rfl) (fun _ _ _ h => h) rfl (by kernel_rfl) (Or.inl ⟨by rfl, ?y5b⟩) HDV.out ?r5b
    case y5b =>
      intro w hSw
      try dsimp only at hSw
      go_simp
      all_goals with_reducible rfl
    try simp only [Act.put, List.setIfInBounds_toArray, List.set_cons_zero, List.set_cons_succ]
    refine takeL (d := some 11) (i := 6) (v := ?v6b) rfl rfl (by kernel_rfl) (by kernel_rfl) (by kernel_rfl) (fun _ _ _ h => h) rfl (by kernel_rfl) (Or.inl ⟨by rfl, ?y6b⟩) HDV.out ?r6b
    case y6b =>
      intro w hSw
      try dsimp only at hSw
      go_simp
      all_goals with_reducible rfl
    try simp only [Act.put, List.setIfInBounds_toArray, List.set_cons_zero, List.set_cons_succ]
    refine takeL (d := some 12) (i := 7) (v := ?v7b) rfl rfl (by kernel_rfl) (by kernel_rfl) (by kernel_rfl) (fun _ _ _ h => h) rfl (by kernel_rfl) (Or.inl ⟨by rfl, ?y7b⟩) HDV.out ?r7b
    case y7b =>
      intro w hSw
      try dsimp only at hSw
      go_simp
      all_goals with_reducible rfl
    try simp only [Act.put, List.setIfInBounds_toArray, List.set_cons_zero, List.set_cons_succ]
    refine takeL (d := some 13) (i := 8) (v := ?v8b) rfl rfl (by kernel_rfl) (by kernel_rfl) (by kernel_rfl) (fun _ _ _ h => h) rfl (by kernel_rfl) (Or.inl ⟨by rfl, ?y8b⟩) HDV.out ?r8b
    case y8b =>
      intro w hSw
      try dsimp only at hSw
      go_simp
      all_goals with_reducible rfl
    try simp only [Act.put, List.setIfInBounds_toArray, List.set_cons_zero, List.set_cons_succ]
    refine takeL (d := some 14) (i := 9) (v := ?v9b) rfl rfl (by kernel_rfl) (by kernel_rfl) (by kernel_rfl) (fun _ _ _ h => h) rfl (by kernel_rfl) (Or.inl ⟨by rfl, ?y9b⟩) HDV.out ?r9b
    case y9b =>
      intro w hSw
      try dsimp only at hSw
      go_simp
      all_goals with_reducible rfl
    try simp only [Act.put, List.setIfInBounds_toArray, List.set_cons_zero, List.set_cons_succ]
    have HX := Lib.hid (show wo n i = ⟨n.q.take i ++ n.q.drop j, n.ap⟩ from by
      unfold wo
      rw [HJ.out.1])
    have HXL := Lib.hid (show (n.q.take i ++ n.q.drop j).length = i + (N - j) by rw [List.length_append, List.length_take, List.length_drop, HN.out.1]; omega)
    have hml : (n.q.drop j).length = N - j := by rw [List.length_drop, HN.out.1]
    refine oneL (i := 10) (by kernel_rfl) rfl (fun K' hK => ?_)
    refine step_append_pk (by rfl) (.tmp 9) (.tmp 14) (by rfl) (some ⟨bA, oA, none⟩) (n.q.take i) i (by rw [List.length_take, HN.out.1]; omega) (by rfl) HQ1.out ⟨bA, oA + j * 3, none⟩ (n.q.drop j) (N - j) (c - j) hml (by rfl) HQ2.out (fun _ => ⟨bA, oA, rfl⟩) (i + (N - j)) rfl (by omega) ?_
    clear hml
    intro A' c' w3 hq3 hb3
    have hB3 : Below W.heap.size W w3 := (Below.refl _ W).drew.trans hb3
    have X3 := HB.out.2.1.below hB3
    have Z3 := HB.out.2.2.below hB3
    have N3 : NtIn w3 (wo n i) A' c' B k := by
      rw [HX.out]
      exact ⟨hq3, (HSI.out.2.up hB3)⟩
    obtain ⟨L, hL⟩ : ∃ L, i + (N - j) = L := ⟨_, rfl⟩
    rw [hL] at HXL ⊢
    clear hL
    have F1 := N3.off X3 (onlyS2 _ _ _ _ _ _) 0 (.slice A' L c')
    have F2 : Box (w3.setCell ⟨w.heap.size, 0, none⟩ (.slice A' L c')) w.heap.size #[.slice A' L c', .slice B M k] 25 := X3.set (i := 0) (v := .slice A' L c')
    have F3 := box_other (b := w.heap.size) (i := 0) (v := .slice A' L c') Z3 (by omega)
    have F4 := (HB.out.1.trans (hB3.mono HB.out.1.size)).setCell (p := ⟨w.heap.size, 0, none⟩) (Nat.le_refl _) (.slice A' L c')
    have F := Lib.hid (And.intro F1 (And.intro F2 (And.intro F3 F4)))
    have x0' := X3.cell 0
    have f0' := X3.frozen 0
    simp only [List.getElem?_toArray, List.getElem?_cons_zero] at x0'
    have HDV3 := Lib.hid (HD1.out w3 hB3)
    clear F1 F2 F3 F4 hq3 hb3 hB3 X3 Z3 N3
    refine hK.out _ _ (fun _ => HDV3.out) ?_
    clear hK
    refine oneL (i := 11) (by kernel_rfl) rfl (fun K' hK => ?_)
    go_simp
    refine hK.out _ _ (fun _ => HDV3.out) ?_
    clear hK
    refine oneL (i := 12) (by kernel_rfl) rfl (fun K' hK => ?_)
    go_simp
    refine hK.out _ _ (fun e => by simp at e) ?_
    clear hK
    refine doneL (by kernel_rfl) ?_ _
    clear x0' f0' HDV3 HD1 HDV HQ1 HQ2 hij
    generalize World.setCell _ ⟨w.heap.size, 0, none⟩ _ = wF at *
    have x0 := F.out.2.1.cell 0
    have x1 := F.out.2.1.cell 1
    have z0 := F.out.2.2.1.cell 0
    have z1 := F.out.2.2.1.cell 1
    have g0 := F.out.2.2.1.frozen 0
    have g1 := F.out.2.2.1.frozen 1
    simp only [List.getElem?_toArray, List.getElem?_cons_zero, List.getElem?_cons_succ] at x0 x1 z0 z1
    go_wp2_with fail
    refine bodyPost_ret (nt_ret Try.results43 rfl (box2 (.slice A' L c') (.slice B M k) F.out.2.2.1)) rfl ⟨A', c', B, k, ?_, ?_, ?_⟩
    · rw [HX.out]
      show _ = Ending.returned (.agg #[.slice A' (n.q.take i ++ (n.q.drop j)).length c', .slice B n.ap.length k])
      rw [HXL.out, HN.out.2]
    · exact (F.out.1.off F.out.2.2.1 (onlyS2 _ _ _ _ _ _) 0 _).off (F.out.2.2.1.set (i := 0) (v := .slice A' L c')) (OnlyS.set (onlyS2 _ _ _ _ _ _) 0 _ _ _) 1 _
    · exact (F.out.2.2.2.setCell (p := ⟨w.heap.size + 1, 0, none⟩) (by show w.heap.size ≤ w.heap.size + 1; omega) _).setCell (p := ⟨w.heap.size + 1, 1, none⟩) (by show w.heap.size ≤ w.heap.size + 1; omega) _
end Go.Proofs.Ytojijebmipgeeaa
