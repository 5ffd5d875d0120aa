/- Tokens that have been read. -/
import Derived.Test.YticepaljociefaaDoorRow
namespace Go.Proofs.YticepaljociefaaDoor
open Go.ChangeShapes Go.WideShapes Go.ChangeAt Go.RowKit Go.WideElems Go.Deep Go.Joins
set_option linter.unusedVariables false

theorem cells_tk : Tryd.prog.cellsOf 35 = 4 := by kernel_rfl
instance : Inhabited Tk := ⟨⟨0, [], 0, 0⟩⟩
section
variable {H : Type} {enc : TypeId × Value → H}
theorem elems_of {α : Type} [Inhabited α] {W : World} {t e : TypeId} {k : Nat} (hu : Tryd.prog.underlying t = some (.slice e)) (hC : Tryd.prog.cellsOf e = k) (hk : 0 < k) (At : World → Nat → Nat → α → Prop)
    (hel : ∀ (fuel : Nat) (cs : List Value) (x : DataW H × List MemPlace), cs.length = k → DataW.trod enc Tryd.prog W 0 (fun _ => true) true fuel e cs = some x → ∃ y : α, ∀ b off, (∀ j u, cs[j]? = some u → W.cell? ⟨b, off + j, none⟩ = some u) → At W b off y)
    {fuel : Nat} {v : Value} {x : DataW H × List MemPlace} (h : DataW.trod enc Tryd.prog W 0 (fun _ => true) true fuel t [v] = some x) :
    ∃ A l c, v = .slice A l.length c ∧ (0 < l.length → ∃ b off, A = some ⟨b, off, none⟩ ∧ b < W.heap.size ∧ ∀ i s, l[i]? = some s → At W b (off + i * k) s) ∧ l.length ≤ c ∧ c ≤ maxLen ∧ (A = none → l = [] ∧ c = 0) := by
  rcases DataW.trod_slice hu h with ⟨hcs, _⟩ | ⟨a, len, cap, elems, rest, n, _, hcs, _, _, hlc, hcm, hel2, hat, _⟩
  · simp only [List.cons.injEq, and_true] at hcs
    exact ⟨none, [], 0, hcs, fun h => absurd h (by simp), by simp, Nat.zero_le _, fun _ => ⟨rfl, rfl⟩⟩
  · simp only [List.cons.injEq, and_true] at hcs
    have hcell : ∀ i, i < len → ∃ (cs' : List Value) (x' : DataW H × List MemPlace), cs'.length = k ∧ (∀ j u, cs'[j]? = some u → W.cell? ((a.add (i * k)).add j) = some u) ∧ DataW.trod enc Tryd.prog W 0 (fun _ => true) true n e cs' = some x' := by
      intro i hi
      have hx := hat i hi
      rw [List.getElem?_eq_getElem (by omega), hC] at hx
      obtain ⟨cs', hc, ht⟩ := Option.bind_eq_some_iff.1 hx
      obtain ⟨_, h2, h3⟩ := World.cells?_some hc
      refine ⟨cs', _, h2, fun j u hu => ?_, ht⟩
      have hj : j < k := by
        have := (List.getElem?_eq_some_iff.1 hu).1
        omega
      rw [h3 j hj, hu]
    have hspot : 0 < len → a.spot = none ∧ a.block < W.heap.size := by
      intro hl
      obtain ⟨cs', x', h1, h2, _⟩ := hcell 0 hl
      have h0 := h2 0 _ (List.getElem?_eq_getElem (by omega))
      have e1 : (a.add (0 * k)).add 0 = a := by simp [Addr.add]
      rw [e1] at h0
      refine ⟨?_, World.block_lt_of_cell? W _ h0⟩
      unfold World.cell? at h0
      split at h0
      · split at h0
        · cases h0
        · rename_i hs
          simpa using hs
      · cases h0
    have hex : ∀ i, ∃ y : α, i < len → ∀ b off, a = ⟨b, off, none⟩ → At W b (off + i * k) y := by
      intro i
      by_cases hi : i < len
      · obtain ⟨cs', x', h1, h2, h3⟩ := hcell i hi
        obtain ⟨y, hy⟩ := hel _ _ _ h1 h3
        refine ⟨y, fun _ b off e => hy b _ fun j u hu => ?_⟩
        have := h2 j u hu
        rw [e, add_off, add_off] at this
        exact this
      · exact ⟨default, fun h => absurd h hi⟩
    obtain ⟨F, hF⟩ : ∃ F : Nat → α, ∀ i, i < len → ∀ b off, a = ⟨b, off, none⟩ → At W b (off + i * k) (F i) := ⟨fun i => Classical.choose (hex i), fun i => Classical.choose_spec (hex i)⟩
    refine ⟨some a, (List.range len).map F, cap, by simp [hcs], fun hl => ?_, by simpa using hlc, hcm, fun h => by cases h⟩
    simp only [List.length_map, List.length_range] at hl
    obtain ⟨hs1, hs2⟩ := hspot hl
    obtain ⟨b, off, spot⟩ := a
    simp only at hs1
    subst hs1
    refine ⟨b, off, rfl, hs2, fun i s hi => ?_⟩
    have hj : i < len := by
      have := (List.getElem?_eq_some_iff.1 hi).1
      simpa using this
    simp [hj] at hi
    rw [← hi]
    exact hF i hj b off rfl


def TkAt (w : World) (b off : Nat) (t : Tk) : Prop := ∀ (j : Nat) u, (tkc t)[j]? = some u → w.cell? ⟨b, off + j, none⟩ = some u
theorem tkcs_inv : ∀ (l : List Tk) (j : Nat) (u : Value), (tkcs l)[j]? = some u → ∃ i t r, l[i]? = some t ∧ (tkc t)[r]? = some u ∧ j = i * 4 + r
  | [], j, u, h => by simp [tkcs] at h
  | x :: l, j, u, h => by
    have h : ((tkc x) ++ tkcs l)[j]? = some u := h
    by_cases hj : j < 4
    · rw [List.getElem?_append_left (by show j < 4; exact hj)] at h
      exact ⟨0, x, j, rfl, h, by omega⟩
    · rw [List.getElem?_append_right (by show 4 ≤ j; omega)] at h
      have h : (tkcs l)[j - 4]? = some u := h
      obtain ⟨i, t, r, h1, h2, h3⟩ := tkcs_inv l (j - 4) u h
      exact ⟨i + 1, t, r, by simpa using h1, h2, by omega⟩
theorem toks_of {W : World} {fuel : Nat} {v : Value} {x : DataW H × List MemPlace} (h : DataW.trod enc Tryd.prog W 0 (fun _ => true) true fuel 23 [v] = some x) : ∃ A l c, v = .slice A l.length c ∧ TT W A l c := by
  obtain ⟨A, l, c, rfl, h1, h2, h3, h4⟩ := elems_of (α := Tk) Tryd.underlying23 cells_tk (by decide) TkAt (fun fuel cs x hl ht => by
    obtain ⟨xs, n, hn, _, hlen, hxl, hf⟩ := DataW.trod_struct Tryd.underlying35 ht
    match cs, hl with
    | [c0, c1, c2, c3], _ =>
      have hg : ∀ (i : Nat) (hi : i < 4), ∃ y, xs[i]? = some y := fun i hi => ⟨_, List.getElem?_eq_getElem (by rw [hxl]; exact hi)⟩
      obtain ⟨y0, g0⟩ := hg 0 (by omega)
      obtain ⟨y1, g1⟩ := hg 1 (by omega)
      obtain ⟨y2, g2⟩ := hg 2 (by omega)
      obtain ⟨y3, g3⟩ := hg 3 (by omega)
      have k3 : Tryd.prog.cellsOf 3 = 1 := by kernel_rfl
      have k4 : Tryd.prog.cellsOf 9 = 1 := by kernel_rfl
      have f0 : DataW.trod enc Tryd.prog W 0 (fun _ => true) true n 3 [c0] = some y0 := by have := (hf 0 _ rfl).trans g0; simpa [k3, k4] using this
      have f1 : DataW.trod enc Tryd.prog W 0 (fun _ => true) true n 9 [c1] = some y1 := by have := (hf 1 _ rfl).trans g1; simpa [k3, k4] using this
      have f2 : DataW.trod enc Tryd.prog W 0 (fun _ => true) true n 3 [c2] = some y2 := by have := (hf 2 _ rfl).trans g2; simpa [k3, k4] using this
      have f3 : DataW.trod enc Tryd.prog W 0 (fun _ => true) true n 3 [c3] = some y3 := by have := (hf 3 _ rfl).trans g3; simpa [k3, k4] using this
      obtain ⟨m0, e0, _, w0⟩ := DataW.trod_int Tryd.underlying3 f0
      obtain ⟨s1, e1, _, _⟩ := DataW.trod_string Tryd.underlying9 f1
      obtain ⟨m2, e2, _, w2⟩ := DataW.trod_int Tryd.underlying3 f2
      obtain ⟨m3, e3, _, w3⟩ := DataW.trod_int Tryd.underlying3 f3
      simp only [List.cons.injEq, and_true] at e0 e1 e2 e3
      subst e0 e1 e2 e3
      exact ⟨⟨m0, s1.data.toList, m2, m3⟩, fun b off hc j u hj => hc j u (by
        have e : bs s1.data.toList = s1 := ByteArray.ext (Array.toArray_toList)
        unfold tkc at hj
        simp only [e] at hj
        exact hj)⟩) h
  refine ⟨A, l, c, rfl, fun hp => ?_, h2, h3, h4⟩
  obtain ⟨b, off, e, hb, hs⟩ := h1 hp
  refine ⟨b, off, e, hb, fun j u hu => ?_⟩
  obtain ⟨i, t, r, g1, g2, g3⟩ := tkcs_inv l j u hu
  rw [g3, ← Nat.add_assoc]
  exact hs i t g1 r u g2
theorem toks_arg {W : World} {r : Reach} {base : Nat} {v : Value} {d : DataW H} {p : List MemPlace} (hv : Value.okWide Tryd.prog W r base 23 v) (h : DataW.Trod enc Tryd.prog W 0 (fun _ => true) true 23 v d p) :
    ∃ A l c, v = .slice A l.length c ∧ TT W A l c := by
  obtain ⟨a0, len0, cap0, rfl⟩ := okWide_slice Tryd.underlying23 hv
  obtain ⟨fuel, hf⟩ := h
  exact toks_of hf
end
end Go.Proofs.YticepaljociefaaDoor
