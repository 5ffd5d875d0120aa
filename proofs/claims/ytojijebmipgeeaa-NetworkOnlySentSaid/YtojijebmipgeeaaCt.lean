/- Cut. -/
import Derived.Test.YtojijebmipgeeaaSe
import Derived.Test.YtojijebmipgeeaaIt
import Derived.Test.YtojijebmipgeeaaSo
namespace Go.Proofs.Ytojijebmipgeeaa
open Go.RowKit Go.Sort
set_option linter.unusedVariables false

theorem wpList_append_pr {base : Nat} {w : World} {ops : Array Oper} {rest : List Oper} {o : Oper} {a : Act} {Q : Exit → Act → World → Prop} (hgd : o.guard = none) (s x : Operand)
    (ho : o.op = .call { callee := .builtin .append, args := #[s, x], argTypes := #[23, 23] })
    (v : Value) (n : Nat) (l : List (Int × Int)) (hs : a.eval s = v) (hown : w.ownsRow base 55 2 v n (prc l)) (q : Nat) (y1 y2 : Int) (hx : a.eval x = .slice (some ⟨q, 0, none⟩) 1 1) (hq : Box w q #[.int .i64 y1, .int .i64 y2] 55) (hn : n ≤ 900000) (hbase : base ≤ w.heap.size)
    (h : ∀ g c' w', w'.ownsRow base 55 2 (.slice (some ⟨g, 0, none⟩) (n + 1) c') (n + 1) (prc (l ++ [(y1, y2)])) → w.grownBy w' v.ownBlock → wpList Try.prog ops Q rest (a.put o.dst (.slice (some ⟨g, 0, none⟩) (n + 1) c')) w') : wpList Try.prog ops Q (o :: rest) a w := by
  obtain ⟨i0, hi0, hz0, hz1, hz2⟩ := info_parts pr_info
  refine wpList_plain hgd fun K hK => ?_
  refine wp_append_own w s x 23 ho base 55 i0 (.agg #[.int .i64 0, .int .i64 0]) 2 16 Try.underlying23 hi0 hz0 hz1 hz2 rfl (by decide) v n (prc l) hs hown ⟨q, 0, none⟩ 1 1 [.int .i64 y1, .int .i64 y2] hx rfl (World.news_of_block hq) (by intro v hv; simp at hv; rcases hv with rfl | rfl <;> rfl) (le_maxLen (by omega)) (by omega) hbase ?_
  intro v' w' ho' hg' _
  obtain ⟨g, c', rfl⟩ := ownsRow_succ ho'
  refine hK _ _ (h g c' w' ?_ hg')
  rw [prc_app]
  exact ho'
/-- Right pairs are few. -/
theorem apk_few {l : List (Int × Int)} (h : apk l = true) : l.length ≤ 300 := by
  have ho := apk_oka h
  have key : ∀ k, k < l.length → (k : Int) ≤ 16 * (l.getD k (0, 0)).1 + (l.getD k (0, 0)).2 ∧ 16 * (l.getD k (0, 0)).1 + (l.getD k (0, 0)).2 ≤ 255 ∧ okr (l.getD k (0, 0)) = true := by
    intro k
    induction k with
    | zero =>
      intro hk
      have h0 := ho 0 hk
      unfold apa at h0
      simp only [Bool.and_eq_true] at h0
      have h1 := h0.1
      refine ⟨?_, ?_, h1⟩ <;> (unfold okr site at h1; simp only [Bool.and_eq_true, decide_eq_true_eq] at h1; omega)
    | succ k ih =>
      intro hk
      obtain ⟨i1, i2, i3⟩ := ih (by omega)
      have h0 := ho (k + 1) hk
      unfold apa at h0
      simp only [Bool.and_eq_true, Nat.add_sub_cancel] at h0
      obtain ⟨h1, h2⟩ := h0
      have h3 : lsp (l.getD k (0, 0)) (l.getD (k + 1) (0, 0)) = true := by simpa using h2
      rw [lsp_iff] at h3
      have h1' := h1
      unfold okr site at h1 i3
      simp only [Bool.and_eq_true, decide_eq_true_eq] at h1 i3
      refine ⟨?_, ?_, h1'⟩ <;> omega
  rcases Nat.lt_or_ge 300 l.length with hgt | hle
  · have := key 300 hgt
    omega
  · exact hle
theorem vld_few {n : Nt} (h : vld n = true) : n.ap.length ≤ 300 := by
  unfold vld at h
  simp only [Bool.and_eq_true] at h
  exact apk_few h.2

theorem PP.n {w : World} {A : Option Addr} {l : List (Int × Int)} {c : Nat} (h : PP w A l c) : PPn w.heap.size w A l := fun hp => h.1 hp

set_option maxHeartbeats 4000000 in
set_option maxRecDepth 100000 in
theorem cut_any (n : Nt) (A B : Option Addr) (c k : Nat) (a b : Int) (on : Bool) (w : World) (hS : NtIn w n A c B k) :
    Calls Try.prog 18 #[ntv n A c B k, .int .i64 a, .int .i64 b, .bool on] w (NtPost (ct n a b on) (cte n a b) w) := by
  have h2 := two_new w n A c B k
  have HC := Lib.hid (fun W (hb : Below w.heap.size w W) => check_any n A B c k W (hS.up hb))
  have HT := Lib.hid (fun W => canTalk_any a b W)
  have HBT := Lib.hid (fun W => between_any a b W)
  have H2 := Lib.hid h2
  have HSI := Lib.hid hS
  have HE := Lib.hid (show cte n a b = (if vld n then (if talk a b then 0 else 1) else 90) ∧ ct n a b on = (if vld n && talk a b then ⟨n.q, ctl n.ap (btw a b) on⟩ else nt0) from ⟨rfl, rfl⟩)
  have HF := Lib.hid (fun h => @vld_few n h)
  unfold NtPost IntPost at *
  unfold ntv ntc at *
  clear h2 hS
  obtain ⟨N, hN⟩ : ∃ N, n.q.length = N := ⟨_, rfl⟩
  obtain ⟨M, hM⟩ : ∃ M, n.ap.length = M := ⟨_, rfl⟩
  have HN := Lib.hid (And.intro hN hM)
  rw [hN] at HC H2 ⊢
  rw [hM] at HC H2 ⊢
  clear hN hM
  go_enter Try.func18, Try.ntmps18
  go_wp2_with fail
  generalize World.alloc _ _ = W at *
  have hx := (H2.out.facts (Below.refl _ _)).1.1
  have hx1 := (H2.out.facts (Below.refl _ _)).1.2
  rw [HN.out.1] at hx
  rw [HN.out.2] at hx1
  rcases chk_cases n with ⟨h1, hv⟩ | ⟨h1, hv⟩
  · rw [h1] at HC
    rw [hv] at HE
    have HFW := Lib.hid (HF.out hv)
    clear h1 hv HF
    go_wp2_with fail
    refine (HC.out _ H2.out.below).mono ?_
    rintro e w1 ⟨rfl, hb1⟩
    clear hx hx1
    obtain ⟨⟨x0, x1⟩, z0, z1, f0, f1⟩ := H2.out.facts hb1
    rw [HN.out.1] at x0
    rw [HN.out.2] at x1
    have HB1 := Lib.hid hb1
    have HBW := Lib.hid (H2.out.below.trans (hb1.mono H2.out.below.size))
    clear hb1
    cases ht : talk a b <;> rw [ht] at HT HE <;> clear ht
    · have HE2 := Lib.hid (show cte n a b = 1 ∧ ct n a b on = nt0 by simpa using HE.out)
      have HFN := Lib.hid (fin2 (r := w.heap.size + 1) (by omega) (H2.out.res.below HB1.out) HBW.out (NtIn.zero w1) (l1 := 0) (l2 := 0) rfl rfl)
      go_wp2_with fail
      refine (HT.out _).mono ?_
      rintro e w2 ⟨rfl, rfl⟩
      go_wp2_with fail
      refine bodyPost_ret (nt_ret2 Try.results18 rfl HFN.out.1) rfl ⟨none, 0, none, 0, ?_, ?_, ?_⟩
      · rw [HE2.out.1, HE2.out.2]; rfl
      · rw [HE2.out.2]; exact HFN.out.2.1
      · exact HFN.out.2.2
    · have HE2 := Lib.hid (show cte n a b = 0 ∧ ct n a b on = ⟨n.q, ctl n.ap (btw a b) on⟩ by simpa using HE.out)
      clear HE
      go_wp2_with fail
      refine (HT.out _).mono ?_
      rintro e w2 ⟨rfl, rfl⟩
      go_wp2_with fail
      obtain ⟨⟨k1, k2⟩, hkk⟩ : ∃ kk : Int × Int, btw a b = kk := ⟨_, rfl⟩
      rw [hkk] at HBT HE2
      clear hkk
      unfold prv at HBT
      refine (HBT.out _).mono ?_
      rintro e w2 ⟨rfl, os, rfl⟩
      clear x0 x1 z0 z1 f0 f1
      obtain ⟨V, hV⟩ : ∃ V, grow w1 os = V := ⟨_, rfl⟩
      have hbV : Below w1.heap.size w1 V := hV ▸ below_grow w1 os
      rw [hV]
      clear hV
      have hbA : Below w1.heap.size w1 (V.alloc (.cells #[.int .i64 k1, .int .i64 k2] 55)) := hbV.alloc hbV.size _
      have HLK := Lib.hid (show Box (V.alloc (.cells #[.int .i64 k1, .int .i64 k2] 55)) V.heap.size #[.int .i64 k1, .int .i64 k2] 55 from Box.new V _ _)
      have HBA := Lib.hid (HB1.out.trans (hbA.mono HB1.out.size))
      have HVS := Lib.hid (show w.heap.size < V.heap.size from Nat.lt_of_lt_of_le (Nat.lt_of_lt_of_le H2.out.box.lt HB1.out.size) hbV.size)
      clear hbA hbV
      go_upto_region 7 with fail
      generalize V.alloc (.cells #[.int .i64 k1, .int .i64 k2] 55) = VA at *
      obtain ⟨⟨x0, x1⟩, z0, z1, f0, f1⟩ := H2.out.facts HBA.out
      rw [HN.out.1] at x0
      rw [HN.out.2] at x1
      have l0 := HLK.out.cell 0
      have l1 := HLK.out.cell 1
      simp only [List.getElem?_toArray, List.getElem?_cons_zero, List.getElem?_cons_succ] at l0 l1
      go_wp2_with fail
      refine (others_any B M k k1 k2 _).mono ?_
      rintro e w3 ⟨rfl, hw3⟩
      have hO1 := Box.alloc (Box.new VA #[.slice B M k] 23) (.cells #[.int .i64 k1, .int .i64 k2] 55)
      have hO2 := Box.new (VA.alloc (.cells #[.slice B M k] 23)) #[.int .i64 k1, .int .i64 k2] 55
      rw [World.size_alloc] at hO2
      have hb3 : Below VA.heap.size VA w3 := hw3 ▸ ((Below.refl _ VA).alloc (Nat.le_refl _) _).alloc (by simp) _
      rw [hw3] at hO1 hO2
      clear hw3 x0 x1 z0 z1 f0 f1 l0 l1
      have HB3 := Lib.hid (HBA.out.trans (hb3.mono HBA.out.size))
      have HBW3 := Lib.hid (H2.out.below.trans (HB3.out.mono H2.out.below.size))
      have HLK3 := Lib.hid (HLK.out.below hb3)
      have HCO := Lib.hid (collect_any VA.heap.size (VA.heap.size + 1) k B n.ap k1 k2 (by have := HFW.out; omega) w3 hO1.lt hO2.lt (by rw [HN.out.2]; exact hO1.cell 0) (hO2.cell 0) (hO2.cell 1) (HSI.out.2.up HBW3.out).n)
      unfold OwnP at HCO
      clear hO1 hO2 hb3
      obtain ⟨⟨x0, x1⟩, z0, z1, f0, f1⟩ := H2.out.facts HB3.out
      rw [HN.out.1] at x0
      rw [HN.out.2] at x1
      go_wp2_with fail
      refine HCO.out.mono ?_
      rintro e w4 ⟨v, rfl, hr, hb4⟩
      have HM := Lib.hid (show ctl n.ap (k1, k2) on = (if on then srt (oth n.ap (k1, k2) ++ [(k1, k2)]) else oth n.ap (k1, k2)) from rfl)
      have hml : (oth n.ap (k1, k2)).length ≤ 300 := Nat.le_trans (oth_le _ _) HFW.out
      obtain ⟨ot, hot⟩ : ∃ ot, oth n.ap (k1, k2) = ot := ⟨_, rfl⟩
      rw [hot] at hr HM hml
      clear hot
      obtain ⟨m, hm⟩ : ∃ m, ot.length = m := ⟨_, rfl⟩
      rw [hm] at hr hml
      obtain ⟨A', c', rfl, hPP⟩ := PP.of_own hm hr
      have HMM := Lib.hid hm
      clear hm
      clear x0 x1 z0 z1 f0 f1
      have HB4 := Lib.hid (HB3.out.trans (hb4.mono HB3.out.size))
      have HBW4 := Lib.hid (H2.out.below.trans (HB4.out.mono H2.out.below.size))
      have HLK4 := Lib.hid (HLK3.out.below hb4)
      have hX4 := H2.out.box.below HB4.out
      have hZ4 := H2.out.res.below HB4.out
      unfold ntc at hX4
      rw [HN.out.1, HN.out.2] at hX4
      have hsz3 : w.heap.size + 1 < w3.heap.size := (H2.out.res.below HB3.out).lt
      have hlk3 : V.heap.size < w3.heap.size := HLK3.out.lt
      have hne4 : ∀ g, (Value.slice A' m c').ownBlock = some g → w3.heap.size ≤ g := fun g hg => (hr.lt g hg).1
      have H4 := Lib.hid (And.intro hr (And.intro hPP (And.intro hX4 (And.intro hZ4 hne4))))
      obtain ⟨x0, x1, e0, e1⟩ := And.intro (hX4.cell 0) (And.intro (hX4.cell 1) (And.intro (hX4.frozen 0) (hX4.frozen 1)))
      simp only [List.getElem?_toArray, List.getElem?_cons_zero, List.getElem?_cons_succ] at x0 x1
      have HS34 := Lib.hid hb4.size
      clear hr hPP hX4 hZ4 hne4 hb4
      -- behind the store
      have HX5 := Lib.hid (show Box (w4.setCell ⟨w.heap.size, 1, none⟩ (.slice A' m c')) w.heap.size #[.slice A N c, .slice A' m c'] 25 from H4.out.2.2.1.set (i := 1) (v := .slice A' m c'))
      have HZ5 := Lib.hid (box_other (b := w.heap.size) (i := 1) (v := .slice A' m c') H4.out.2.2.2.1 (by omega))
      have HL5 := Lib.hid (box_other (b := w.heap.size) (i := 1) (v := .slice A' m c') HLK4.out (fun e => by have := HVS.out; omega))
      have HR5 := Lib.hid (H4.out.1.kept (set_grown_at w4 w.heap.size 1 (.slice A' m c')) (by
        cases hov : (Value.slice A' m c').ownBlock with
        | none => exact .inl rfl
        | some g => exact .inr (fun e => by injection e with e; have := H4.out.2.2.2.2 g hov; omega)))
      have HP5 := Lib.hid (H4.out.2.1.off H4.out.2.2.1 (onlyS2 _ _ _ _ _ _) 1 (.slice A' m c'))
      have HQ5 := Lib.hid ((HSI.out.1.up HBW4.out).off H4.out.2.2.1 (onlyS2 _ _ _ _ _ _) 1 (.slice A' m c'))
      have HB5 := Lib.hid (HBW4.out.setCell (p := ⟨w.heap.size, 1, none⟩) (Nat.le_refl _) (.slice A' m c'))
      have HS5 := Lib.hid (show w3.heap.size ≤ (w4.setCell ⟨w.heap.size, 1, none⟩ (.slice A' m c')).heap.size from by have h34 := HS34.out; simp [World.setCell]; exact h34)
      go_upto_region 8 with fail
      clear x0 x1 e0 e1
      generalize World.setCell w4 _ _ = w5 at *
      obtain ⟨x0, x1, e0, e1⟩ := And.intro (HX5.out.cell 0) (And.intro (HX5.out.cell 1) (And.intro (HX5.out.frozen 0) (HX5.out.frozen 1)))
      obtain ⟨z0, z1, f0, f1⟩ := And.intro (HZ5.out.cell 0) (And.intro (HZ5.out.cell 1) (And.intro (HZ5.out.frozen 0) (HZ5.out.frozen 1)))
      obtain ⟨l0, l1⟩ := And.intro (HL5.out.cell 0) (HL5.out.cell 1)
      simp only [List.getElem?_toArray, List.getElem?_cons_zero, List.getElem?_cons_succ] at x0 x1 z0 z1 l0 l1
      cases on
      · have HE3 := Lib.hid (show ct n a b false = ⟨n.q, ot⟩ by rw [HE2.out.2, HM.out]; rfl)
        have HFN := Lib.hid (fin2 (r := w.heap.size + 1) (m := ⟨n.q, ot⟩) (by omega) HZ5.out HB5.out ⟨HQ5.out, HP5.out⟩ HN.out.1 HMM.out)
        go_wp2_with fail
        refine bodyPost_ret (nt_ret2 Try.results18 rfl HFN.out.1) rfl ⟨A, c, A', c', ?_, ?_, ?_⟩
        · rw [HE2.out.1, HE3.out]
          show _ = Ending.returned (.tuple #[.agg #[.slice A n.q.length c, .slice A' ot.length c'], _])
          rw [HN.out.1, HMM.out]; rfl
        · rw [HE3.out]; exact HFN.out.2.1
        · exact HFN.out.2.2
      · have HE3 := Lib.hid (show ct n a b true = ⟨n.q, srt (ot ++ [(k1, k2)])⟩ by rw [HE2.out.2, HM.out]; rfl)
        go_upto_region 9 with fail
        have hBN := Box.new w5 #[.int .i64 k1, .int .i64 k2] 55
        have HBN := Lib.hid hBN
        clear hBN
        go_wp2_with (refine wpList_append_pr (base := w3.heap.size) rfl (.tmp 33) (.tmp 35) rfl (.slice A' m c') m ot rfl (HR5.out.alloc _) w5.heap.size k1 k2 rfl HBN.out (by omega) (by rw [World.size_alloc]; have := HS5.out; omega) ?_; intro g c6 w6 hr6 hg6; have HX6 := Lib.hid ((HX5.out.alloc (.cells #[.int .i64 k1, .int .i64 k2] 55)).grown hg6 (fun e => by have := (HR5.out.lt _ e.symm).1; omega)); have HZ6 := Lib.hid ((HZ5.out.alloc (.cells #[.int .i64 k1, .int .i64 k2] 55)).grown hg6 (fun e => by have := (HR5.out.lt _ e.symm).1; omega)); have HB6 := Lib.hid ((HB5.out.alloc HB5.out.size _).grown hg6 (Nat.le_trans HB5.out.size (by simp)) (fun i hi => by have := (HR5.out.lt i hi).1; omega)); have HR6 := Lib.hid hr6; obtain ⟨x0', x1', e0', e1'⟩ := And.intro (HX6.out.cell 0) (And.intro (HX6.out.cell 1) (And.intro (HX6.out.frozen 0) (HX6.out.frozen 1))); clear hr6 hg6 x0 x1 e0 e1 z0 z1 f0 f1 l0 l1)
        have HE4 := Lib.hid (show (ot ++ [(k1, k2)]).length = m + 1 by rw [List.length_append, HMM.out]; rfl)
        have HX7 := Lib.hid (show Box (w6.setCell ⟨w.heap.size, 1, none⟩ (.slice (some ⟨g, 0, none⟩) (m + 1) c6)) w.heap.size #[.slice A N c, .slice (some ⟨g, 0, none⟩) (m + 1) c6] 25 from HX6.out.set (i := 1) (v := .slice (some ⟨g, 0, none⟩) (m + 1) c6))
        have HZ7 := Lib.hid (box_other (b := w.heap.size) (i := 1) (v := .slice (some ⟨g, 0, none⟩) (m + 1) c6) HZ6.out (by omega))
        have hgw : w3.heap.size ≤ g := (HR6.out.lt g rfl).1
        have HR7 := Lib.hid (HR6.out.kept (set_grown_at w6 w.heap.size 1 (.slice (some ⟨g, 0, none⟩) (m + 1) c6)) (.inr (fun e => by injection e with e; simp only at e; omega)))
        have HB7 := Lib.hid (HB6.out.setCell (p := ⟨w.heap.size, 1, none⟩) (Nat.le_refl _) (.slice (some ⟨g, 0, none⟩) (m + 1) c6))
        clear x0' x1' e0' e1'
        generalize World.setCell w6 _ _ = w7 at *
        refine (sort_any w3.heap.size g c6 (m + 1) (ot ++ [(k1, k2)]) w7 HE4.out (by omega) HR7.out).mono ?_
        rintro e w8 ⟨rfl, hp8, hg8⟩
        have HX8 := Lib.hid (HX7.out.grown hg8 (fun e => by injection e with e; omega))
        have HZ8 := Lib.hid (HZ7.out.grown hg8 (fun e => by injection e with e; omega))
        have HB8 := Lib.hid (HB7.out.grown hg8 HB7.out.size (fun i hi => by injection hi with hi; omega))
        have HP8 := Lib.hid hp8
        have HS8 := Lib.hid (show (srt (ot ++ [(k1, k2)])).length = m + 1 by unfold srt; rw [List.length_mergeSort]; exact HE4.out)
        obtain ⟨x0, x1, e0, e1⟩ := And.intro (HX8.out.cell 0) (And.intro (HX8.out.cell 1) (And.intro (HX8.out.frozen 0) (HX8.out.frozen 1)))
        obtain ⟨z0, z1, f0, f1⟩ := And.intro (HZ8.out.cell 0) (And.intro (HZ8.out.cell 1) (And.intro (HZ8.out.frozen 0) (HZ8.out.frozen 1)))
        simp only [List.getElem?_toArray, List.getElem?_cons_zero, List.getElem?_cons_succ] at x0 x1 z0 z1
        clear hp8 hg8
        have HFN := Lib.hid (fin2 (r := w.heap.size + 1) (m := ⟨n.q, srt (ot ++ [(k1, k2)])⟩) (by omega) HZ8.out HB8.out ⟨HSI.out.1.up HB8.out, HP8.out⟩ HN.out.1 HS8.out)
        go_wp2_with fail
        refine bodyPost_ret (nt_ret2 Try.results18 rfl HFN.out.1) rfl ⟨A, c, some ⟨g, 0, none⟩, c6, ?_, ?_, ?_⟩
        · rw [HE2.out.1, HE3.out]
          show _ = Ending.returned (.tuple #[.agg #[.slice A n.q.length c, .slice (some ⟨g, 0, none⟩) (srt (ot ++ [(k1, k2)])).length c6], _])
          rw [HN.out.1, HS8.out]; rfl
        · rw [HE3.out]; exact HFN.out.2.1
        · exact HFN.out.2.2
  · rw [h1] at HC
    rw [hv] at HE
    have HE2 := Lib.hid (show cte n a b = 90 ∧ ct n a b on = nt0 by simpa using HE.out)
    clear h1 hv HF HE
    go_wp2_with fail
    refine (HC.out _ H2.out.below).mono ?_
    rintro e w1 ⟨rfl, hb1⟩
    clear hx hx1
    obtain ⟨_, z0, z1, f0, f1⟩ := H2.out.facts hb1
    have HFN := Lib.hid (H2.out.fin hb1 (NtIn.zero w1) (l1 := 0) (l2 := 0) rfl rfl)
    clear hb1
    go_wp2_with fail
    refine bodyPost_ret (nt_ret2 Try.results18 rfl HFN.out.1) rfl ⟨none, 0, none, 0, ?_, ?_, ?_⟩
    · rw [HE2.out.1, HE2.out.2]; rfl
    · rw [HE2.out.2]; exact HFN.out.2.1
    · exact HFN.out.2.2
end Go.Proofs.Ytojijebmipgeeaa
