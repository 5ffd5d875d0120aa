/- sorted. -/
import Derived.Test.YtobchecnfkocdaaCl
import Derived.Test.YtobchecnfkocdaaOl
import Derived.Test.YtobchecnfkocdaaNb
import Derived.Test.YtobchecnfkocdaaExM
import Derived.Test.YtobchecnfkocdaaSoI
namespace Go.Proofs.Ytobchecnfkocdaa
open Go.RowKit
set_option linter.unusedVariables false
set_option linter.unusedSimpArgs false

/-- Elements in a row of memory. -/
def RE (w : World) (g : Nat) (es : List (List Nat)) : Prop := g < w.heap.size ∧ ∀ (i : Nat) (p : List Nat), es[i]? = some p → w.rangeAt g (i * 256) (eof p).toList
theorem RE.up {w w' : World} {g : Nat} {es : List (List Nat)} (h : RE w g es) (hb : Below w.heap.size w w') : RE w' g es := ⟨Nat.lt_of_lt_of_le h.1 hb.size, fun i p hi => range_below (h.2 i p hi) hb⟩
/-- slices.SortFunc of a row of elements of the call's own. -/
def SortE : Prop := ∀ (B N g n c : Nat) (els : List (List Nat)) (w : World), w.ownsRow B 55 256 (.slice (some ⟨g, 0, none⟩) n c) n (flatE els) → els.length = n → (∀ p ∈ els, Ok N p) → N ≤ 256 → n ≤ 1000000 →
  Calls Try.prog 42 #[.slice (some ⟨g, 0, none⟩) n c, .func (.func 43) #[] #[]] w
    (fun e w' => e = .returned (.tuple #[]) ∧ w.grownBy w' (some g) ∧ ∃ es : List (List Nat), es.Perm els ∧ (es.Pairwise fun a b => ord (ints b) (ints a) ≠ -1) ∧ RE w' g es)
theorem own_some {B n c : Nat} {w : World} {A : Option Addr} {t : TypeId} {s : Nat} {xs : List Value} (h : w.ownsRow B t s (.slice A n c) n xs) (hn : 0 < n) : ∃ g, A = some ⟨g, 0, none⟩ ∧ g < w.heap.size ∧ B ≤ g ∧ w.heap[g]? ≠ none := by
  rcases h.2 with ⟨hv, h0⟩ | ⟨g, cap, cur, hv, hbg, hg, h1, h2, _⟩
  · omega
  · injection hv with hA hl hc
    exact ⟨g, hA, heap_lt hg, hbg, by rw [hg]; simp⟩
/-- What sorted hands back: the elements in their order. -/
def SrtP (B : Nat) (els : List (List Nat)) (W : World) (e : Ending) (W' : World) : Prop :=
  ∃ (A : Option Addr) (m c : Nat) (ls : List (List Nat)), e = .returned (.slice A m c) ∧ OL B W' A m c (ls.map ints) ∧ Srt (ls.map ints) ∧ (∀ p, p ∈ ls ↔ p ∈ els) ∧ Below B W W'

set_option maxHeartbeats 8000000 in
set_option maxRecDepth 100000 in
theorem sorted_any (hsort : SortE) (B N G : Nat) (gens els : List (List Nat)) (mb mc : Nat) (Ag : Option Addr) (cg : Nat) (Ae : Option Addr) (ce : Nat) (W : World) (h : GS B N W G gens els mb mc Ag cg Ae ce) (hN : N ≤ 256) (hnd : els.Nodup) (h0 : 0 < els.length) (hel : els.length ≤ 4096) :
    Calls Try.prog 36 #[.pointer (some ⟨G, 0, none⟩)] W (SrtP B els W) := by
  have HH := Lib.hid h
  obtain ⟨hb, hg, he, hap, hS, hBG, hBm, hg1, he1⟩ := h
  obtain ⟨g, hA, hgl, hBg, _⟩ := own_some he h0
  subst hA
  have hne : G ≠ g := fun e => box_own hb he (by decide) (by rw [← e]; rfl)
  have hcs := hsort B N g els.length ce els W he rfl he1 hN (by omega)
  have g2 := hb.cell 2
  simp only [List.getElem?_toArray, List.getElem?_cons_zero, List.getElem?_cons_succ] at g2
  have HC := Lib.hid hcs
  have HB := Lib.hid (And.intro hb (And.intro hne (And.intro hBG (And.intro hBg (And.intro hnd he1)))))
  obtain ⟨n, hn⟩ : ∃ n, els.length = n := ⟨_, rfl⟩
  have HN := Lib.hid hn
  have hsz : B ≤ W.heap.size := by have := hb.lt; omega
  have HSZ := Lib.hid hsz
  rw [hn] at HC g2 h0 hel
  clear hb hg he hap hS hBG hBm hg1 he1 hgl hBg hne hcs hnd hn hsz
  obtain ⟨i0, hi0, hz0, hz1, hz2⟩ := info_parts ri_info
  go_enter Try.func36, Try.ntmps36
  go_wp2_with fail
  refine HC.out.mono ?_
  rintro e V ⟨rfl, hgr, es, hp, hs, hre⟩
  have hbV := HB.out.1.grown hgr (fun e => by injection e with e; exact HB.out.2.1 e)
  have hBV : Below B W V := below_grown hgr HB.out.2.2.2.1 HSZ.out
  have hsn : es.length = n := by rw [hp.length_eq]; exact HN.out
  have hOkE : ∀ p ∈ es, Ok N p := fun p hp' => HB.out.2.2.2.2.2 p (hp.mem_iff.1 hp')
  have hS2 : Srt (es.map ints) := by
    unfold Srt
    rw [List.pairwise_map]
    have hnd2 : es.Nodup := hp.nodup_iff.2 HB.out.2.2.2.2.1
    refine (hs.and hnd2).imp fun {a b} hab => ?_
    rcases ord_values (ints a) (ints b) with h1 | h1 | h1
    · exact h1
    · exact absurd (ints_inj (ord_zero h1)) hab.2
    · have := ord_swap (ints a) (ints b)
      rw [h1] at this
      exact absurd this hab.1
  have K1 := Lib.hid (And.intro hbV (And.intro hBV (And.intro hre (And.intro hsn (And.intro hOkE (And.intro hS2 (fun p => hp.mem_iff (a := p))))))))
  have g2 := hbV.cell 2
  simp only [List.getElem?_toArray, List.getElem?_cons_zero, List.getElem?_cons_succ] at g2
  rw [HN.out] at g2
  clear hgr hp hs hre hbV hBV hsn hOkE hS2 HC
  have HI := Lib.hid (fun (w3 : World) (hgr : V.grownBy w3 none) => show w3.cell? ⟨G, 2, none⟩ = some (.slice (some ⟨g, 0, none⟩) n ce) from ((K1.out.1.below (grown_below hgr)).cell 2).trans (by simp only [List.getElem?_toArray, List.getElem?_cons_zero, List.getElem?_cons_succ]; rw [HN.out]))
  go_wp2_with (refine wpList_make_own _ rfl (.const (.int .i64 0)) (.tmp 15) 31 rfl V.heap.size 22 i0 (.slice none 0 0) 1 Try.underlying31 hi0 hz0 hz1 .i64 .i64 n n rfl rfl rfl (by rw [hz2]; omega) (le_maxLen (by omega)) (Nat.le_refl _) ?_; intro w3 hown hgr; have HW := Lib.hid (And.intro hown (grown_below hgr)); have g3 := HI.out w3 hgr; clear hown hgr)
  obtain ⟨BV, hBVe⟩ : ∃ BV, V.heap.size = BV := ⟨_, rfl⟩
  rw [hBVe] at HW ⊢
  have HBV := Lib.hid hBVe
  clear hBVe g2 g3 HI
  go_loopw [3, 22] (fun v i wr => ∃ (j c' : Nat) (A' : Option Addr), j ≤ n ∧ v = .slice A' j c' ∧ i = .int .i64 (j : Int) ∧ OL BV wr A' j c' ((es.take j).map ints) ∧ Below BV V wr) (fun _ i _ => n - (intOf i).toNat)
  case atStart => exact ⟨0, n, _, Nat.zero_le _, rfl, rfl, ⟨rfl, [], HW.out.1, fun i l h => by cases h⟩, HW.out.2⟩
  case round =>
    obtain ⟨j, c', A', hj, rfl, rfl, hol, hb⟩ := hrel
    have KR := Lib.hid (And.intro hol hb)
    clear hol hb HW
    by_cases hlt : j < n
    case neg =>
      have hdj : decide ((j : Int) < (n : Int)) = false := decide_eq_false (by omega)
      obtain rfl : j = n := by omega
      have hF : SrtP B els W (.returned (.slice A' j c')) wr := by
        have h1 := KR.out.1
        rw [List.take_of_length_le (by rw [K1.out.2.2.2.1]; exact Nat.le_refl _)] at h1
        obtain ⟨h0, vs, h1, h2⟩ := h1
        exact ⟨A', j, c', es, rfl, ⟨h0, vs, own_mono h1 (by have h5 := HBV.out; have h6 := K1.out.2.1.size; have h7 := HSZ.out; omega), h2⟩, K1.out.2.2.2.2.2.1, K1.out.2.2.2.2.2.2, K1.out.2.1.trans (KR.out.2.mono (by have h5 := HBV.out; have h6 := K1.out.2.1.size; have h7 := HSZ.out; omega))⟩
      have HF := Lib.hid hF
      clear hF
      go_wp2_with fail
      go_ret
      exact HF.out
    have hdj : decide ((j : Int) < (n : Int)) = true := decide_eq_true (by omega)
    obtain ⟨y, hy⟩ : ∃ y, es[j]? = some y := ⟨_, List.getElem?_eq_getElem (by rw [K1.out.2.2.2.1]; exact hlt)⟩
    have HY := Lib.hid hy
    have HTK := Lib.hid (show es.take (j + 1) = es.take j ++ [y] from take_next hy)
    have hrg := (K1.out.2.2.1.up (show Below V.heap.size V wr from by rw [HBV.out]; exact KR.out.2)).2 j y hy
    have HOY := Lib.hid (K1.out.2.2.2.2.1 y (List.mem_of_getElem? hy))
    obtain ⟨CY, hCY⟩ : ∃ CY, eof y = CY := ⟨_, rfl⟩
    rw [hCY] at hrg
    have HCY := Lib.hid hCY
    have HYL := Lib.hid (show CY.toList.length = 256 from by rw [← hCY]; exact eof_len y)
    have HRY := Lib.hid hrg
    have HYI := Lib.hid (show (Try.prog.info? 55).map (·.size) = some CY.size from hCY ▸ el_info _)
    have HYO := Lib.hid (show CY.all (·.oneCell') = true from by rw [← hCY]; exact ucs_one _)
    have HZC := Lib.hid (show (Try.zeroCells55).size = CY.size from by rw [zc_el, ← hCY]; exact (ucs_size _).trans (ucs_size _).symm)
    have HB8 := Lib.hid (Box.new wr Try.zeroCells55 55)
    have i1 : (0 : Int) ≤ (j : Int) := by omega
    have i2 : (j : Int) < (n : Int) := by omega
    clear hCY hrg hy
    go_upto_region 6 with (first
      | (refine wpList_load_el rfl (.tmp 24) rfl g (j * 256) (by first | rfl | simp) CY.toList HRY.out HYL.out ?_)
      | (refine wpList_store_row rfl 55 (.tmp 5) (.tmp 25) rfl wr.heap.size CY rfl rfl 55 Try.zeroCells55 HB8.out HYI.out HZC.out HYO.out ?_))
    have hW1 := below_fill' wr Try.zeroCells55 CY 55
    have hX1 := box_fill' wr Try.zeroCells55 CY 55
    obtain ⟨W1, hw1⟩ : ∃ W1, (wr.alloc (.cells Try.zeroCells55 55)).setRow wr.heap.size CY = W1 := ⟨_, rfl⟩
    rw [hw1] at hW1 hX1 ⊢
    have hBVr : BV ≤ wr.heap.size := by have h1 := KR.out.2.size; have h2 := HBV.out; omega
    have hBW := KR.out.2.trans (hW1.mono hBVr)
    have hG1 : Box W1 G #[.int .i64 (N : Int), .slice Ag gens.length cg, .slice (some ⟨g, 0, none⟩) els.length ce, .map (some mb)] 64 := K1.out.1.below (show Below V.heap.size V W1 from by rw [HBV.out]; exact hBW)
    have KW := Lib.hid (And.intro (KR.out.1.up hW1) (And.intro hBW (And.intro hX1 (And.intro hG1 (Nat.le_trans hBVr hW1.size)))))
    have HPL := Lib.hid HOY.out.1
    have HNB := Lib.hid (fun (V' : World) => numbers_any N y V' HOY.out.1 HOY.out.2 hN)
    rw [HCY.out] at HNB
    obtain ⟨b8, hB8⟩ : ∃ b, wr.heap.size = b := ⟨_, rfl⟩
    rw [hB8] at hX1 ⊢
    have HB8 := Lib.hid hB8
    have hry : W1.rangeAt b8 0 CY.toList := Box.range (by rw [Array.toArray_toList]; exact hX1)
    have HX1 := Lib.hid hX1
    have HDV := Lib.hid (show (fun w' => w'.cell? ⟨G, 0, none⟩ = some (.int .i64 (N : Int)) ∧ w'.rangeAt b8 0 CY.toList) W1.drew from ⟨hG1.cell 0, hry⟩)
    have HD1 := Lib.hid (fun W' (hb : Below W1.heap.size W1 W') => show (fun w' => w'.cell? ⟨G, 0, none⟩ = some (.int .i64 (N : Int)) ∧ w'.rangeAt b8 0 CY.toList) W' from ⟨(hG1.below hb).cell 0, range_below hry hb⟩)
    have HWD := Lib.hid (Below.refl W1.heap.size W1).drew
    clear hry hX1 hW1 hw1 hG1 hBW hBVr i1 i2 HRY HZC hB8 HYI HYO HOY
    try simp only [Act.put]
    refine wp_region_later 9 (fun w' => w'.cell? ⟨G, 0, none⟩ = some (.int .i64 (N : Int)) ∧ w'.rangeAt b8 0 CY.toList) (by kernel_rfl) ?_
    refine takeL (d := some 26) (i := 0) (v := ?v0) rfl rfl (by kernel_rfl) (by kernel_rfl) (by kernel_rfl) (fun _ _ _ h => h) rfl (by kernel_rfl) (Or.inl ⟨by rfl, ?z0⟩) HDV.out ?q0
    case z0 =>
      intro w hSw
      try dsimp only at hSw
      obtain ⟨d0, d1⟩ := hSw
      clear d1
      go_simp
      all_goals with_reducible rfl
    try simp only [Act.put, List.setIfInBounds_toArray, List.set_cons_zero, List.set_cons_succ, Array.toArray_toList]
    refine takeL (d := some 27) (i := 1) (v := .agg CY.toList.toArray) rfl rfl (by kernel_rfl) (by kernel_rfl) (by kernel_rfl) (fun _ _ _ h => h) rfl (by kernel_rfl) (Or.inl ⟨by rfl, ?z1⟩) HDV.out ?q1
    case z1 =>
      intro w hSw
      exact exec_el (x := .tmp 5) rfl (b := b8) (off := 0) rfl hSw.2 HYL.out
    try simp only [Act.put, List.setIfInBounds_toArray, List.set_cons_zero, List.set_cons_succ, Array.toArray_toList]
    refine takeL (d := some 28) (i := 2) (v := ?v2) rfl rfl (by kernel_rfl) (by kernel_rfl) (by kernel_rfl) (fun _ _ _ h => h) rfl (by kernel_rfl) (Or.inl ⟨by rfl, ?z2⟩) HDV.out ?q2
    case z2 =>
      intro w hSw
      try dsimp only at hSw
      obtain ⟨d0, d1⟩ := hSw
      clear d1
      go_simp
      all_goals with_reducible rfl
    try simp only [Act.put, List.setIfInBounds_toArray, List.set_cons_zero, List.set_cons_succ, Array.toArray_toList]
    refine takeL (d := some 29) (i := 3) (v := ?v3) rfl rfl (by kernel_rfl) (by kernel_rfl) (by kernel_rfl) (fun _ _ _ h => h) rfl (by kernel_rfl) (Or.inl ⟨by rfl, ?z3⟩) HDV.out ?q3
    case z3 =>
      intro w hSw
      try dsimp only at hSw
      obtain ⟨d0, d1⟩ := hSw
      clear d1
      go_simp
      all_goals with_reducible rfl
    try simp only [Act.put, List.setIfInBounds_toArray, List.set_cons_zero, List.set_cons_succ, Array.toArray_toList]
    refine takeL (d := some 30) (i := 4) (v := ?v4) rfl rfl (by kernel_rfl) (by kernel_rfl) (by kernel_rfl) (fun _ _ _ h => h) rfl (by kernel_rfl) (Or.inl ⟨by rfl, ?z4⟩) HDV.out ?q4
    case z4 =>
      intro w hSw
      try dsimp only at hSw
      obtain ⟨d0, d1⟩ := hSw
      clear d1
      go_simp
      all_goals with_reducible rfl
    try simp only [Act.put, List.setIfInBounds_toArray, List.set_cons_zero, List.set_cons_succ, Array.toArray_toList]
    refine takeL (d := some 31) (i := 5) (v := ?v5) rfl rfl (by kernel_rfl) (by kernel_rfl) (by kernel_rfl) (fun _ _ _ h => h) rfl (by kernel_rfl) (Or.inl ⟨by rfl, ?z5⟩) HDV.out ?q5
    case z5 =>
      intro w hSw
      try dsimp only at hSw
      obtain ⟨d0, d1⟩ := hSw
      clear d1
      go_simp
      all_goals with_reducible rfl
    try simp only [Act.put, List.setIfInBounds_toArray, List.set_cons_zero, List.set_cons_succ, Array.toArray_toList]
    refine oneL (i := 6) (by kernel_rfl) rfl (fun K' hK => ?_)
    rw [if_pos (by rfl)]
    go_simp
    refine (HNB.out _).mono ?_
    rintro e w5 ⟨A1, c1, rfl, hsi, htb, hb5⟩
    have H5 := Lib.hid (HWD.out.trans (hb5.mono HWD.out.size))
    have HSI := Lib.hid (And.intro hsi (show Tb w5 A1 from htb))
    refine hK.out _ _ (fun _ => HD1.out _ H5.out) ?_
    clear hK hb5 hsi htb
    refine oneL (i := 7) (by kernel_rfl) rfl (fun K' hK => ?_)
    go_simp
    have hba := (Below.refl w5.heap.size w5).alloc (Nat.le_refl _) (.cells #[.slice A1 N c1] 22)
    have H6 := Lib.hid (H5.out.trans (hba.mono H5.out.size))
    have HS6 := Lib.hid (And.intro (HSI.out.1.up hba) (HSI.out.2.up hba))
    refine hK.out _ _ (fun _ => HD1.out _ H6.out) ?_
    clear hK hba
    refine oneL (i := 8) (by kernel_rfl) rfl (fun K' hK => ?_)
    refine step_append_ol (B := BV) (by rfl) (.tmp 26) (.tmp 33) (by rfl) A' j c' _ (by rfl) (KW.out.1.up H6.out) w5.heap.size A1 (ints y) N c1 (by rw [ints_length]; exact HPL.out) (by rfl) (Box.new _ _ _) HS6.out.1 HS6.out.2 (by omega) (Nat.le_trans KW.out.2.2.2.2 H6.out.size) ?_
    intro g6 c6 w6 hO6 hb6 hk6
    have HDW : Hid ((fun w' => w'.cell? ⟨G, 0, none⟩ = some (.int .i64 (N : Int)) ∧ w'.rangeAt b8 0 CY.toList) w6) := ⟨(hk6 _ _ _ (by decide) (KW.out.2.2.2.1.below H6.out)).cell 0, Box.range (by rw [Array.toArray_toList]; exact hk6 _ _ _ (by decide) (HX1.out.below H6.out))⟩
    have FIN := Lib.hid (And.intro hO6 ((KW.out.2.1.trans (H6.out.mono KW.out.2.2.2.2)).trans hb6))
    refine hK.out _ _ (fun _ => HDW.out) ?_
    clear hK hO6 hb6 hk6
    refine oneL (i := 9) (by kernel_rfl) rfl (fun K' hK => ?_)
    go_simp
    refine hK.out _ _ (fun e => by simp at e) ?_
    clear hK
    refine doneL (by kernel_rfl) ?_ _
    clear HDW HDV HD1 HWD H5 H6 HS6 HSI
    go_wp2_with fail
    go_roundw
    case rel => exact ⟨j + 1, c6, some ⟨g6, 0, none⟩, by omega, rfl, by go_num, by rw [HTK.out, List.map_append]; exact FIN.out.1, FIN.out.2⟩
    case measure => simp [intOf]; omega
end Go.Proofs.Ytobchecnfkocdaa
