/- slices.SortFunc at pairs. -/
import Derived.Test.YtojijebmipgeeaaIc
namespace Go.Proofs.Ytojijebmipgeeaa
open Go.RowKit Go.Sort Go.Lib
set_option linter.unusedVariables false

theorem lt_lsp : ltOf cmpp = lsp := by
  funext x y
  unfold ltOf
  have h := lsp_cmpp x y
  cases hl : lsp x y <;> rw [hl] at h
  · have := of_decide_eq_true h
    exact decide_eq_false (by omega)
  · have := of_decide_eq_false h
    exact decide_eq_true (by omega)
theorem lsp_iff (x y : Int × Int) : lsp x y = true ↔ (x.1 < y.1 ∨ x.1 = y.1 ∧ x.2 < y.2) := by simp [lsp]
theorem lsp_not (x y : Int × Int) : lsp x y = false ↔ ¬ (x.1 < y.1 ∨ x.1 = y.1 ∧ x.2 < y.2) := by simp [lsp]
theorem swo_lsp : SWO (ltOf cmpp) := by
  rw [lt_lsp]
  exact {
    irrefl := fun x => by rw [lsp_not]; omega
    trans := fun x y z h1 h2 => by rw [lsp_iff] at *; omega
    ntrans := fun x y z h1 h2 => by rw [lsp_not] at *; omega }
theorem prc_flat {l : List (Int × Int)} {j : Nat} (hj : j < l.length * 2) : (prc l)[j]? = some (flatK enp 2 l.toArray)[j]! := by
  have hj2 : j < l.toArray.size * 2 := by simpa using hj
  rw [get_flatK _ _ _ _ hj2]
  obtain ⟨i, c, hc, rfl⟩ : ∃ i c, c < 2 ∧ j = i * 2 + c := ⟨j / 2, j % 2, by omega, by omega⟩
  have hi : i < l.length := by omega
  have hg : l[i]? = some l[i] := List.getElem?_eq_getElem hi
  obtain ⟨h0, h1⟩ := prc_at hg
  have e1 : (i * 2 + c) / 2 = i := by omega
  have e2 : (i * 2 + c) % 2 = c := by omega
  rw [e1, e2]
  have hb : l.toArray[i]! = l[i] := by simp [hi]
  rw [hb]
  rcases (show c = 0 ∨ c = 1 by omega) with rfl | rfl
  · exact h0
  · exact h1
theorem prc_from {W : World} {b : Nat} : ∀ {l : List (Int × Int)} {off : Nat}, (∀ i s, l[i]? = some s → W.cell? ⟨b, off + i * 2, none⟩ = some (.int .i64 s.1) ∧ W.cell? ⟨b, off + i * 2 + 1, none⟩ = some (.int .i64 s.2)) → ∀ j u, (prc l)[j]? = some u → W.cell? ⟨b, off + j, none⟩ = some u
  | [], off, h => fun j u hj => by cases hj
  | p :: l, off, h => by
    obtain ⟨h0, h1⟩ := h 0 p rfl
    have g2 := prc_from (W := W) (b := b) (l := l) (off := off + 2) (fun i s hi => by
      have := h (i + 1) s hi
      rw [show off + (i + 1) * 2 = off + 2 + i * 2 by omega] at this
      exact this)
    intro j u hj
    match j, hj with
    | 0, hj => cases hj; simpa using h0
    | 1, hj => cases hj; simpa using h1
    | j + 2, hj =>
      have := g2 j u hj
      rw [show off + (j + 2) = off + 2 + j by omega]
      exact this
theorem grownBy_pairs {w : World} {g n : Nat} {os : Array Obj} (d : Array (Int × Int)) : w.grownBy (grow (putRowK enp 2 (Sort.ahead w n) g 0 d) os) (some g) := by
  refine ⟨rfl, rfl, rfl, by simp [grow, putRowK, putRow, mapBlock, Sort.ahead], fun k hk hne => ?_⟩
  show ((w.heap.modify g _) ++ os)[k]? = _
  rw [Array.getElem?_append_left (by simpa using hk), Array.getElem?_modify, if_neg (fun e => hne (by rw [e]))]

def SortPost (g cap : Nat) (l : List (Int × Int)) (w : World) (e : Ending) (w' : World) : Prop := e = .returned (.tuple #[]) ∧ PP w' (some ⟨g, 0, none⟩) l cap ∧ w.grownBy w' (some g)
theorem sort_any (base g cap n : Nat) (l : List (Int × Int)) (w : World) (hn : l.length = n) (hl : n ≤ 1000000) (ho : w.ownsRow base 55 2 (.slice (some ⟨g, 0, none⟩) n cap) n (prc l)) :
    Calls Try.prog 38 #[.slice (some ⟨g, 0, none⟩) n cap, .func (.func 39) #[] #[]] w (SortPost g cap (srt l) w) := by
  have hlt := World.ownsRow.lt ho g rfl
  have hcap : n ≤ cap ∧ cap ≤ maxLen := by
    rcases ho.2 with ⟨hv, _⟩ | ⟨g', cap', cur, hv, _, _, h1, h2, _⟩
    · cases hv
    · cases hv; exact ⟨h1, h2⟩
  have hH : HoldsK enp 2 w g 0 l.toArray := fun j hj => by
    rw [size_flatK] at hj
    have hj2 : j < l.length * 2 := by simpa using hj
    rw [Nat.zero_add]
    refine ⟨?_, ho.frozenAt j⟩
    rw [ho.cellAt j (by rw [← hn]; exact hj2), prc_flat hj2]
    rfl
  have hsz : l.toArray.size = n := by simpa using hn
  have hcmp : CmpLays Try.prog 39 #[] enp 2 cmpp g 0 l.toArray.size w := fun m os dk _ x y => inOrder_any x y _
  have hcon := AnyQ.slices_SortFunc_total lays38 2 Try.isAgg55 Try.sizeOf55 enp enp_len enp_one cmpp swo_lsp 39 #[] g 0 cap l.toArray w (enters_of Try.func39 (by kernel_rfl) rfl) hcmp hH hlt.2 (by rw [hsz]; omega)
    (fun x y h1 h2 => by
      rw [lt_lsp] at h1 h2
      rw [lsp_not] at h1 h2
      obtain ⟨x1, x2⟩ := x
      obtain ⟨y1, y2⟩ := y
      simp only at h1 h2
      have e1 : x1 = y1 := by omega
      have e2 : x2 = y2 := by omega
      rw [e1, e2])
  rw [hsz] at hcon
  refine Calls.mono (show Calls Try.prog 38 _ _ _ from hcon) ?_
  rintro e w' ⟨rfl, m, os, rfl⟩
  have hsr : (l.toArray.toList.mergeSort fun x y => !(ltOf cmpp) y x) = srt l := by
    rw [lt_lsp]
    rfl
  rw [hsr]
  have hlen : (srt l).length = n := by
    unfold srt
    rw [List.length_mergeSort, hn]
  refine ⟨rfl, ⟨fun hp => ⟨g, 0, rfl, ?_, ?_⟩, by rw [hlen]; exact hcap.1, hcap.2, fun e => by cases e⟩, grownBy_pairs _⟩
  · exact Nat.lt_of_lt_of_le hlt.2 (grownBy_pairs (srt l).toArray).size
  · have hH2 : HoldsK enp 2 (sortWorldK enp 2 w g 0 m (srt l).toArray os) g 0 (srt l).toArray := by
      unfold sortWorldK
      refine holdsK_grow _ _ _ _ _ _ _ ?_ (holdsK_putRowK _ _ (Sort.ahead w m) g 0 l.toArray _ (holdsK_ahead _ _ w m g 0 _ hH) ?_)
      · show g < (putRowK enp 2 (Sort.ahead w m) g 0 _).heap.size
        simpa [putRowK, putRow, mapBlock, Sort.ahead] using hlt.2
      · simp [hlen, hn]
    refine prc_from fun i s hi => ?_
    have hil := (List.getElem?_eq_some_iff.1 hi).1
    have hs : (srt l).toArray[i]! = s := by
      have := (List.getElem?_eq_some_iff.1 hi).2
      simp [hil, this]
    have h0 := (hH2.cell (i := i) (c := 0) (by simpa using hil) (by omega)).1
    have h1 := (hH2.cell (i := i) (c := 1) (by simpa using hil) (by omega)).1
    rw [hs] at h0 h1
    exact ⟨h0, h1⟩
end Go.Proofs.Ytojijebmipgeeaa
