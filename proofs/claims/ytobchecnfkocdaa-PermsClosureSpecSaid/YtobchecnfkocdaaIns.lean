/- The reference's Insert. -/
import Derived.Test.YtobchecnfkocdaaOm
import Derived.Maps.AppendAt
import Derived.Test.YtobchecnfkocdaaSan
namespace Go.Proofs.Ytobchecnfkocdaa
open Go.RowKit
set_option linter.unusedVariables false
set_option linter.unusedSimpArgs false

theorem wp_append_omx {B : Nat} {w : World} {o : Oper} {a : Act} {K : Act → World → Prop} {Q : Exit → Act → World → Prop} (s x : Operand)
    (ho : o.op = .call { callee := .builtin .append, args := #[s, x], argTypes := #[31, 31] })
    (A : Option Addr) (n c : Nat) (ls : List (List Int)) (hs : a.eval s = .slice A n c) (hO : OM B w A n c ls) (ad : Addr) (m c2 : Nat) (ns : List (List Int)) (us : List Value) (hm : us.length = m) (hx : a.eval x = .slice (some ad) m c2) (hq : ∀ j u, us[j]? = some u → w.cell? (ad.add j) = some u)
    (hnl : ns.length = m) (hns : ∀ (i : Nat) (l : List Int), ns[i]? = some l → ∃ A' c', us[i]? = some (.slice A' l.length c') ∧ Si w A' l c' ∧ Tc B w A' l.length) (hone : ∀ u ∈ us, u.oneCell' = true) (N : Nat) (hN : n + m = N) (hn : N ≤ 900000) (hbase : B ≤ w.heap.size)
    (h : ∀ A' c' w', OM B w' A' N c' (ls ++ ns) → Below B w w' → w.grownBy w' (Value.slice A n c).ownBlock → (∀ g, A' = some ⟨g, 0, none⟩ → (Value.slice A n c).ownBlock = some g ∨ g = w.heap.size) → K (a.put o.dst (.slice A' N c')) w') : o.wp Try.prog a w K Q := by
  subst hN
  obtain ⟨i0, hi0, hz0, hz1, hz2⟩ := info_parts ri_info
  obtain ⟨h0, vs, h1, h2⟩ := hO
  obtain ⟨v', w', hr, ho', hg', _, hat⟩ := run_append_own_at (P := Try.prog) (w := w) B 31 o.type 22 i0 (.slice none 0 0) 1 24 Try.underlying31 hi0 hz0 hz1 hz2 rfl (by decide) _ n vs h1 ad m c2 us (by omega) hq hone (le_maxLen (by omega)) (by omega) hbase
  have hno : Nos B w (Value.slice A n c).ownBlock := Nos.own h1
  have hvl : vs.length = n := by have := h1.1; omega
  have hform : ∃ A' c', v' = .slice A' (n + m) c' := by
    rcases ho'.2 with ⟨hv, hn0⟩ | ⟨g, cap, cur, hv, _⟩
    · exact ⟨none, 0, by rw [hv, hn0]⟩
    · exact ⟨_, _, hv⟩
  obtain ⟨A', c', rfl⟩ := hform
  unfold Oper.wp execOp
  simp only [ho, resolve, invoke, builtin, Sem.run_bind, Sem.run_pure, Result.andThen_ok, List.map_toArray, List.map_cons, List.map_nil, hs, hx, hr]
  refine h A' c' w' ⟨by rw [List.length_append, h0, hnl], _, ho', fun i l' hi => ?_⟩ ((Below.refl B w).grown hg' hbase (fun i hi => (h1.lt i hi).1)) hg' (fun g e => ?_)
  · by_cases hlt : i < n
    · rw [List.getElem?_append_left (by omega)] at hi
      obtain ⟨A2, c3, e1, e2, e3⟩ := h2 i l' hi
      refine ⟨A2, c3, ?_, e2.grownc e3 hg' hno, e3.grown hg' hno⟩
      rw [List.getElem?_append_left (by omega)]
      exact e1
    · rw [List.getElem?_append_right (by omega), h0] at hi
      obtain ⟨A2, c3, e1, e2, e3⟩ := hns _ l' hi
      refine ⟨A2, c3, ?_, e2.grownc e3 hg' hno, e3.grown hg' hno⟩
      rw [List.getElem?_append_right (by omega), hvl]
      exact e1
  · subst e
    rcases hat with h5 | h5
    · exact .inl (by rw [← h5]; rfl)
    · right
      simpa [Value.ownBlock] using h5
theorem wpList_append_omx {B : Nat} {w : World} {ops : Array Oper} {rest : List Oper} {o : Oper} {a : Act} {Q : Exit → Act → World → Prop} (hgd : o.guard = none) (s x : Operand)
    (ho : o.op = .call { callee := .builtin .append, args := #[s, x], argTypes := #[31, 31] })
    (A : Option Addr) (n c : Nat) (ls : List (List Int)) (hs : a.eval s = .slice A n c) (hO : OM B w A n c ls) (ad : Addr) (m c2 : Nat) (ns : List (List Int)) (us : List Value) (hm : us.length = m) (hx : a.eval x = .slice (some ad) m c2) (hq : ∀ j u, us[j]? = some u → w.cell? (ad.add j) = some u)
    (hnl : ns.length = m) (hns : ∀ (i : Nat) (l : List Int), ns[i]? = some l → ∃ A' c', us[i]? = some (.slice A' l.length c') ∧ Si w A' l c' ∧ Tc B w A' l.length) (hone : ∀ u ∈ us, u.oneCell' = true) (N : Nat) (hN : n + m = N) (hn : N ≤ 900000) (hbase : B ≤ w.heap.size)
    (h : ∀ A' c' w', OM B w' A' N c' (ls ++ ns) → Below B w w' → w.grownBy w' (Value.slice A n c).ownBlock → (∀ g, A' = some ⟨g, 0, none⟩ → (Value.slice A n c).ownBlock = some g ∨ g = w.heap.size) → wpList Try.prog ops Q rest (a.put o.dst (.slice A' N c')) w') :
    wpList Try.prog ops Q (o :: rest) a w := by
  refine wpList_plain hgd fun K hK => ?_
  exact wp_append_omx s x ho A n c ls hs hO ad m c2 ns us hm hx hq hnl hns hone N hN hn hbase (fun g c' w' h1 h2 h3 h4 => hK _ _ (h g c' w' h1 h2 h3 h4))
theorem OM.part {B n c g : Nat} {w : World} {ls : List (List Int)} (h : OM B w (some ⟨g, 0, none⟩) n c ls) : ∃ vs : List Value, vs.length = n ∧ (∀ j u, vs[j]? = some u → w.cell? ⟨g, j, none⟩ = some u) ∧
    (∀ (i : Nat) (l : List Int), ls[i]? = some l → ∃ A' c', vs[i]? = some (.slice A' l.length c') ∧ Si w A' l c' ∧ Tc B w A' l.length) ∧ (∀ u ∈ vs, u.oneCell' = true) ∧ n ≤ c ∧ c ≤ maxLen := by
  obtain ⟨h0, vs, h1, h2⟩ := h
  have hvl : vs.length = n := by have := h1.1; omega
  refine ⟨vs, hvl, fun j u hu => ?_, h2, fun u hu => ?_, ?_⟩
  · have hj := (List.getElem?_eq_some_iff.1 hu).1
    rw [h1.cellAt j (by omega), hu]
  · obtain ⟨i, hi, e⟩ := List.getElem_of_mem hu
    obtain ⟨l, hl⟩ : ∃ l, ls[i]? = some l := ⟨_, List.getElem?_eq_getElem (by omega)⟩
    obtain ⟨A', c', e1, _⟩ := h2 i l hl
    rw [List.getElem?_eq_getElem hi, e] at e1
    injection e1 with e1
    rw [e1]
    rfl
  · rcases h1.2 with ⟨hv, _⟩ | ⟨g', cap, cur, hv, _, _, hn, hc, _⟩
    · cases hv
    · injection hv with _ _ e
      subst e
      exact ⟨hn, hc⟩
theorem OM.fresh {B n c Z : Nat} {w : World} {A : Option Addr} {ls : List (List Int)} (h : OM B w A n c ls) (hz : ∀ g, A = some ⟨g, 0, none⟩ → Z ≤ g) : ∀ i, (Value.slice A n c).ownBlock = some i → Z ≤ i := by
  obtain ⟨_, vs, h1, _⟩ := h
  intro i hi
  rcases h1.2 with ⟨hv, _⟩ | ⟨g', cap, cur, hv, _⟩
  · rw [hv] at hi
    cases hi
  · injection hv with hA _ _
    subst hA
    injection hi with hi
    have hi : g' = i := hi
    subst hi
    exact hz g' rfl
def InsP (B g n c : Nat) (ls : List (List Int)) (k : Nat) (p : List Int) (w : World) (e : Ending) (w' : World) : Prop :=
  ∃ g' c', e = .returned (.slice (some ⟨g', 0, none⟩) (n + 1) c') ∧ OM B w' (some ⟨g', 0, none⟩) (n + 1) c' (ls.take k ++ p :: ls.drop k) ∧ w.heap.size ≤ g' ∧ Below w.heap.size w w'

set_option maxHeartbeats 4000000 in
set_option maxRecDepth 100000 in
theorem insert_any (B g n c : Nat) (ls : List (List Int)) (k : Nat) (P : Option Addr) (pc : Nat) (p : List Int) (w : World) (hO : OM B w (some ⟨g, 0, none⟩) n c ls) (hk : k ≤ n) (hP : Si w P p pc) (hT : Tc B w P p.length) (hn : n ≤ 4096) (hB : B ≤ w.heap.size) :
    Calls Try.prog 38 #[.slice (some ⟨g, 0, none⟩) n c, .int .i64 (k : Int), .slice P p.length pc] w (InsP B g n c ls k p w) := by
  have hnl : ls.length = n := hO.1
  obtain ⟨vs, hvl, hcell, hel, hone, hnc, hcm⟩ := hO.part
  obtain ⟨Z, hZ⟩ : ∃ Z, w.heap.size = Z := ⟨_, rfl⟩
  have hgZ : 0 < n → g < Z := fun h => by
    obtain ⟨u, hu⟩ : ∃ u, vs[0]? = some u := ⟨_, List.getElem?_eq_getElem (by omega)⟩
    rw [← hZ]
    exact World.block_lt_of_cell? w _ (hcell 0 u hu)
  unfold InsP
  rw [hZ] at hB ⊢
  have HZ := Lib.hid hZ
  have HV := Lib.hid (And.intro hvl (And.intro hcell (And.intro hel (And.intro hone (And.intro hnl (And.intro hgZ (And.intro hP hT)))))))
  obtain ⟨pl, hpl⟩ : ∃ pl, p.length = pl := ⟨_, rfl⟩
  have HPL := Lib.hid hpl
  rw [hpl]
  have hlit := World.ownsRow_lit (base := B) (e := 22) (size := 1) w #[] 0 (by rw [hZ]; exact hB) (by unfold maxLen; omega) rfl
  have H1 := Lib.hid (show OM B (w.alloc (.cells #[] 22)) (some ⟨w.heap.size, 0, none⟩) 0 0 [] from ⟨rfl, _, hlit, fun i l h => by cases h⟩)
  have HA1 := Lib.hid (al1 w (.cells #[] 22))
  have HB := Lib.hid hB
  clear hO hnl hvl hcell hel hone hgZ hP hT hpl hlit hZ hB
  have k0 : (0 : Int) ≤ (k : Int) := by omega
  have k1 : (k : Int) ≤ (c : Int) := by omega
  have k2 : (k : Int) ≤ (n : Int) := by omega
  have k3 : (n : Int) ≤ (c : Int) := by omega
  go_enter Try.func38, Try.ntmps38
  have up1 : ∀ (i : Nat) (l : List Int), ls[i]? = some l → ∃ (A' : Option Addr) (c' : Nat), vs[i]? = some (Value.slice A' l.length c') ∧ Si (w.alloc (.cells #[] 22)) A' l c' ∧ Tc B (w.alloc (.cells #[] 22)) A' l.length := fun i l hi => by
    obtain ⟨A', c', e1, e2, e3⟩ := HV.out.2.2.1 i l hi
    exact ⟨A', c', e1, e2.up HA1.out, e3.up HA1.out⟩
  have hs1 : (w.alloc (.cells #[] 22)).heap.size = Z + 1 := by rw [World.size_alloc, HZ.out]
  have hB1 : B ≤ (w.alloc (.cells #[] 22)).heap.size := by have := HB.out; omega
  have HUP := Lib.hid (And.intro up1 (And.intro hs1 hB1))
  clear up1 hs1 hB1
  by_cases hck : k = c
  case pos =>
    subst hck
    have hkn : k = n := by omega
    subst hkn
    go_wp2_with (first
      | (at_builtin; refine wpList_append_omx (B := B) rfl (.tmp 8) (.tmp 11) rfl _ 0 0 [] rfl H1.out ⟨g, 0, none⟩ k _ (ls.take k) (vs.take k) (by rw [List.length_take, HV.out.1]; omega) rfl (fun j u hu => by
        rw [add_off, Nat.zero_add]
        have hlt : j < k := by have := (List.getElem?_eq_some_iff.1 hu).1; rw [List.length_take] at this; omega
        rw [List.getElem?_take, if_pos hlt] at hu
        exact (HA1.out.cell (p := ⟨g, j, none⟩) (by rw [HZ.out]; exact HV.out.2.2.2.2.2.1 (by omega))).trans (HV.out.2.1 j u hu)) (by rw [List.length_take, HV.out.2.2.2.2.1]; omega) (fun i l hi => by
        have hlt : i < k := by have := (List.getElem?_eq_some_iff.1 hi).1; rw [List.length_take] at this; omega
        rw [List.getElem?_take, if_pos hlt] at hi ⊢
        exact HUP.out.1 i l hi) (fun u hu => HV.out.2.2.2.1 u (List.mem_of_mem_take hu)) k (Nat.zero_add k) (by omega) HUP.out.2.2 ?_; intro A2 c2 w2 hO2 hb2 hg2 hat2; have hf2 : Below Z w w2 := by { have h := HA1.out.grown hg2 (by rw [HUP.out.2.1, HZ.out]; omega) (fun i hi => by cases hi; exact Nat.le_refl _); rwa [HZ.out] at h }; have H2 := Lib.hid (And.intro hO2 (And.intro hf2 (show ∀ g', A2 = some ⟨g', 0, none⟩ → Z ≤ g' from fun g' e => (hat2 g' e).elim (fun h => by cases h; rw [HZ.out]; exact Nat.le_refl _) (fun h => by rw [h, HUP.out.2.1]; omega)))); clear hO2 hb2 hg2 hat2 hf2)
      | (at_builtin; refine wpList_append_omx (B := B) rfl (.tmp 13) (.tmp 15) rfl A2 k c2 _ rfl (H2.out.1.up (al1 w2 (.cells #[.slice P pl pc] 22))) ⟨w2.heap.size, 0, none⟩ 1 1 [p] [.slice P pl pc] rfl rfl (fun j u hu => by { rw [add_off, Nat.zero_add, (Box.new w2 #[.slice P pl pc] 22).cell j]; simpa using hu }) rfl (list1 ⟨P, pc, by rw [HPL.out]; rfl, (HV.out.2.2.2.2.2.2.1.up (by rw [HZ.out]; exact H2.out.2.1)).up (al1 w2 (.cells #[.slice P pl pc] 22)), (HV.out.2.2.2.2.2.2.2.up (by rw [HZ.out]; exact H2.out.2.1)).up (al1 w2 (.cells #[.slice P pl pc] 22))⟩) (by intro u hu; simp at hu; subst hu; rfl) (k + 1) rfl (by omega) (by have h1 := H2.out.2.1.size; have h2 := HB.out; have h3 := HZ.out; rw [World.size_alloc]; omega) ?_; intro A3 c3 w3 hO3 hb3 hg3 hat3; have hz2 : Z ≤ w2.heap.size := (by { have h1 := H2.out.2.1.size; have h3 := HZ.out; omega }); have hf3 : Below Z w w3 := ((H2.out.2.1.trans ((al1 w2 (.cells #[.slice P pl pc] 22)).mono hz2)).grown hg3 (by rw [World.size_alloc]; omega) (H2.out.1.fresh H2.out.2.2)); have H3 := Lib.hid (And.intro hO3 (And.intro hf3 (show ∀ g', A3 = some ⟨g', 0, none⟩ → Z ≤ g' from fun g' e => (hat3 g' e).elim (fun h => H2.out.1.fresh H2.out.2.2 _ h) (fun h => by rw [h, World.size_alloc]; omega)))); clear hO3 hb3 hg3 hat3 hf3 hz2)
      | (at_builtin; go_loud (refine wpList_append_omx (B := B) rfl (.tmp 17) (.tmp 20) rfl A3 (k + 1) c3 _ rfl H3.out.1 ⟨g, 0, none⟩ 0 _ (ls.drop k) (vs.drop k) (by rw [List.length_drop, HV.out.1]; omega) rfl (fun j u hu => absurd (List.getElem?_eq_some_iff.1 hu).1 (by rw [List.length_drop, HV.out.1]; omega)) (by rw [List.length_drop, HV.out.2.2.2.2.1]; omega) (fun i l hi => by
        rw [List.getElem?_drop] at hi ⊢
        obtain ⟨A', c', e1, e2, e3⟩ := HV.out.2.2.1 (k + i) l hi
        exact ⟨A', c', e1, e2.up (by rw [HZ.out]; exact H3.out.2.1), e3.up (by rw [HZ.out]; exact H3.out.2.1)⟩) (fun u hu => HV.out.2.2.2.1 u (List.mem_of_mem_drop hu)) (k + 1) (by omega) (by omega) (by have h1 := H3.out.2.1.size; have h2 := HB.out; have h3 := HZ.out; omega) ?_; intro A4 c4 w4 hO4 hb4 hg4 hat4; have hz3 : Z ≤ w3.heap.size := (by { have h1 := H3.out.2.1.size; have h3 := HZ.out; omega }); have hf4 : Below Z w w4 := (H3.out.2.1.grown hg4 hz3 (H3.out.1.fresh H3.out.2.2)); have H4 := Lib.hid (And.intro hO4 (And.intro hf4 (show ∀ g', A4 = some ⟨g', 0, none⟩ → Z ≤ g' from fun g' e => (hat4 g' e).elim (fun h => H3.out.1.fresh H3.out.2.2 _ h) (fun h => by rw [h]; omega)))); clear hO4 hb4 hg4 hat4 hf4 hz3)))
    go_ret
    obtain ⟨vs4, ho4⟩ := H4.out.1.own
    obtain ⟨g4, c5, hv4, _, _⟩ := ho4.form (by omega)
    injection hv4 with hA4 _ hc4
    subst hA4 hc4
    refine ⟨g4, _, rfl, ?_, H4.out.2.2 g4 rfl, H4.out.2.1⟩
    have h := H4.out.1
    rw [List.nil_append, List.append_assoc] at h
    exact h
  case neg =>
    obtain ⟨d, hd⟩ : ∃ d, c - k = d + 1 := ⟨c - k - 1, by omega⟩
    go_wp2_with (first
      | (at_builtin; refine wpList_append_omx (B := B) rfl (.tmp 8) (.tmp 11) rfl _ 0 0 [] rfl H1.out ⟨g, 0, none⟩ k _ (ls.take k) (vs.take k) (by rw [List.length_take, HV.out.1]; omega) rfl (fun j u hu => by
        rw [add_off, Nat.zero_add]
        have hlt : j < k := by have := (List.getElem?_eq_some_iff.1 hu).1; rw [List.length_take] at this; omega
        rw [List.getElem?_take, if_pos hlt] at hu
        exact (HA1.out.cell (p := ⟨g, j, none⟩) (by rw [HZ.out]; exact HV.out.2.2.2.2.2.1 (by omega))).trans (HV.out.2.1 j u hu)) (by rw [List.length_take, HV.out.2.2.2.2.1]; omega) (fun i l hi => by
        have hlt : i < k := by have := (List.getElem?_eq_some_iff.1 hi).1; rw [List.length_take] at this; omega
        rw [List.getElem?_take, if_pos hlt] at hi ⊢
        exact HUP.out.1 i l hi) (fun u hu => HV.out.2.2.2.1 u (List.mem_of_mem_take hu)) k (Nat.zero_add k) (by omega) HUP.out.2.2 ?_; intro A2 c2 w2 hO2 hb2 hg2 hat2; have hf2 : Below Z w w2 := by { have h := HA1.out.grown hg2 (by rw [HUP.out.2.1, HZ.out]; omega) (fun i hi => by cases hi; exact Nat.le_refl _); rwa [HZ.out] at h }; have H2 := Lib.hid (And.intro hO2 (And.intro hf2 (show ∀ g', A2 = some ⟨g', 0, none⟩ → Z ≤ g' from fun g' e => (hat2 g' e).elim (fun h => by cases h; rw [HZ.out]; exact Nat.le_refl _) (fun h => by rw [h, HUP.out.2.1]; omega)))); clear hO2 hb2 hg2 hat2 hf2)
      | (at_builtin; refine wpList_append_omx (B := B) rfl (.tmp 13) (.tmp 15) rfl A2 k c2 _ rfl (H2.out.1.up (al1 w2 (.cells #[.slice P pl pc] 22))) ⟨w2.heap.size, 0, none⟩ 1 1 [p] [.slice P pl pc] rfl rfl (fun j u hu => by { rw [add_off, Nat.zero_add, (Box.new w2 #[.slice P pl pc] 22).cell j]; simpa using hu }) rfl (list1 ⟨P, pc, by rw [HPL.out]; rfl, (HV.out.2.2.2.2.2.2.1.up (by rw [HZ.out]; exact H2.out.2.1)).up (al1 w2 (.cells #[.slice P pl pc] 22)), (HV.out.2.2.2.2.2.2.2.up (by rw [HZ.out]; exact H2.out.2.1)).up (al1 w2 (.cells #[.slice P pl pc] 22))⟩) (by intro u hu; simp at hu; subst hu; rfl) (k + 1) rfl (by omega) (by have h1 := H2.out.2.1.size; have h2 := HB.out; have h3 := HZ.out; rw [World.size_alloc]; omega) ?_; intro A3 c3 w3 hO3 hb3 hg3 hat3; have hz2 : Z ≤ w2.heap.size := (by { have h1 := H2.out.2.1.size; have h3 := HZ.out; omega }); have hf3 : Below Z w w3 := ((H2.out.2.1.trans ((al1 w2 (.cells #[.slice P pl pc] 22)).mono hz2)).grown hg3 (by rw [World.size_alloc]; omega) (H2.out.1.fresh H2.out.2.2)); have H3 := Lib.hid (And.intro hO3 (And.intro hf3 (show ∀ g', A3 = some ⟨g', 0, none⟩ → Z ≤ g' from fun g' e => (hat3 g' e).elim (fun h => H2.out.1.fresh H2.out.2.2 _ h) (fun h => by rw [h, World.size_alloc]; omega)))); clear hO3 hb3 hg3 hat3 hf3 hz2)
      | (at_builtin; go_loud (refine wpList_append_omx (B := B) rfl (.tmp 17) (.tmp 20) rfl A3 (k + 1) c3 _ rfl H3.out.1 ⟨g, k, none⟩ (n - k) _ (ls.drop k) (vs.drop k) (by rw [List.length_drop, HV.out.1]) rfl (fun j u hu => by
        rw [add_off]
        have hlt : k + j < n := by have := (List.getElem?_eq_some_iff.1 hu).1; rw [List.length_drop, HV.out.1] at this; omega
        rw [List.getElem?_drop] at hu
        exact (H3.out.2.1.cell (p := ⟨g, k + j, none⟩) (HV.out.2.2.2.2.2.1 (by omega))).trans (HV.out.2.1 (k + j) u hu)) (by rw [List.length_drop, HV.out.2.2.2.2.1]) (fun i l hi => by
        rw [List.getElem?_drop] at hi ⊢
        obtain ⟨A', c', e1, e2, e3⟩ := HV.out.2.2.1 (k + i) l hi
        exact ⟨A', c', e1, e2.up (by rw [HZ.out]; exact H3.out.2.1), e3.up (by rw [HZ.out]; exact H3.out.2.1)⟩) (fun u hu => HV.out.2.2.2.1 u (List.mem_of_mem_drop hu)) (n + 1) (by omega) (by omega) (by have h1 := H3.out.2.1.size; have h2 := HB.out; have h3 := HZ.out; omega) ?_; intro A4 c4 w4 hO4 hb4 hg4 hat4; have hz3 : Z ≤ w3.heap.size := (by { have h1 := H3.out.2.1.size; have h3 := HZ.out; omega }); have hf4 : Below Z w w4 := (H3.out.2.1.grown hg4 hz3 (H3.out.1.fresh H3.out.2.2)); have H4 := Lib.hid (And.intro hO4 (And.intro hf4 (show ∀ g', A4 = some ⟨g', 0, none⟩ → Z ≤ g' from fun g' e => (hat4 g' e).elim (fun h => H3.out.1.fresh H3.out.2.2 _ h) (fun h => by rw [h]; omega)))); clear hO4 hb4 hg4 hat4 hf4 hz3)))
    go_ret
    obtain ⟨vs4, ho4⟩ := H4.out.1.own
    obtain ⟨g4, c5, hv4, _, _⟩ := ho4.form (by omega)
    injection hv4 with hA4 _ hc4
    subst hA4 hc4
    refine ⟨g4, _, rfl, ?_, H4.out.2.2 g4 rfl, H4.out.2.1⟩
    have h := H4.out.1
    rw [List.nil_append, List.append_assoc] at h
    exact h
end Go.Proofs.Ytobchecnfkocdaa
