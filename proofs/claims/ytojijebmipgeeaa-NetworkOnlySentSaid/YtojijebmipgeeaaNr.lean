/- Links that are handed back; stores into boxes that hold only slices. -/
import Derived.Test.YtojijebmipgeeaaCk2
namespace Go.Proofs.Ytojijebmipgeeaa
open Go.RowKit
set_option linter.unusedVariables false

theorem nt_size (v0 v1 : Value) : (Try.prog.info? 25).map (·.size) = some (#[v0, v1] : Array Value).size := by
  have h := nt_info
  cases hi : Try.prog.info? 25 with
  | none => rw [hi] at h; cases h
  | some i =>
    rw [hi] at h
    simp only [Option.map_some, Option.some.injEq, Prod.mk.injEq] at h
    simp [h.2.1]
theorem pk_size (v0 v1 v2 : Value) : (Try.prog.info? 28).map (·.size) = some (#[v0, v1, v2] : Array Value).size := by
  have h := pk_info
  cases hi : Try.prog.info? 28 with
  | none => rw [hi] at h; cases h
  | some i =>
    rw [hi] at h
    simp only [Option.map_some, Option.some.injEq, Prod.mk.injEq] at h
    simp [h.2.1]
theorem results_row_tmp {P : Program} {fn : Func} {p u : Tmp} {ty : TypeId} (h : fn.results = #[.cell p ty, .tmp u]) (tmps : Array Value) (w : World) (g : Nat) (t : TypeId) (cs : Array Value) (fr : Nat × Nat) (d : TypeDesc)
    (hp : tmps.getD p undef = .pointer (some ⟨g, 0, none⟩)) (hg : w.heap[g]? = some (.cells cs t fr))
    (hu : P.underlying ty = some d) (hd : (match d with | .struct _ | .array _ _ => true | _ => false) = true) (hi : (P.info? ty).map (·.size) = some cs.size) :
    (results fn tmps).run P w = .ok (.tuple #[.agg cs, tmps.getD u undef]) w := by
  have hp' : tmps[p]?.getD undef = .pointer (some ⟨g, 0, none⟩) := by simpa using hp
  simp [results, h, hp', asAddr, run_loadVar_row w g t ty cs fr d hg hu hd hi]
theorem results_row_row_tmp {P : Program} {fn : Func} {p q u : Tmp} {ty tz : TypeId} (h : fn.results = #[.cell p ty, .cell q tz, .tmp u]) (tmps : Array Value) (w : World) (g g2 : Nat) (cs cs2 : Array Value) (d d2 : TypeDesc)
    (hp : tmps.getD p undef = .pointer (some ⟨g, 0, none⟩)) (hg : w.heap[g]? = some (.cells cs ty (0, 0))) (hq : tmps.getD q undef = .pointer (some ⟨g2, 0, none⟩)) (hg2 : w.heap[g2]? = some (.cells cs2 tz (0, 0)))
    (hu : P.underlying ty = some d) (hd : (match d with | .struct _ | .array _ _ => true | _ => false) = true) (hi : (P.info? ty).map (·.size) = some cs.size)
    (hu2 : P.underlying tz = some d2) (hd2 : (match d2 with | .struct _ | .array _ _ => true | _ => false) = true) (hi2 : (P.info? tz).map (·.size) = some cs2.size) :
    (results fn tmps).run P w = .ok (.tuple #[.agg cs, .agg cs2, tmps.getD u undef]) w := by
  have hp' : tmps[p]?.getD undef = .pointer (some ⟨g, 0, none⟩) := by simpa using hp
  have hq' : tmps[q]?.getD undef = .pointer (some ⟨g2, 0, none⟩) := by simpa using hq
  simp [results, h, hp', hq', asAddr, run_loadVar_row w g ty ty cs (0, 0) d hg hu hd hi, run_loadVar_row w g2 tz tz cs2 (0, 0) d2 hg2 hu2 hd2 hi2]
theorem nt_ret {fn : Func} {p : Tmp} (h : fn.results = #[.cell p 25]) {v0 v1 : Value} {tmps : Array Value} {w : World} {g : Nat} (hp : tmps.getD p undef = .pointer (some ⟨g, 0, none⟩)) (hb : Box w g #[v0, v1] 25) :
    (results fn tmps).run Try.prog w = .ok (.agg #[v0, v1]) w :=
  results_cell_row h tmps w g 25 #[v0, v1] (0, 0) _ hp hb Try.underlying25 rfl (nt_size _ _)
theorem nt_ret2 {fn : Func} {p u : Tmp} (h : fn.results = #[.cell p 25, .tmp u]) {v0 v1 : Value} {tmps : Array Value} {w : World} {g : Nat} (hp : tmps.getD p undef = .pointer (some ⟨g, 0, none⟩)) (hb : Box w g #[v0, v1] 25) :
    (results fn tmps).run Try.prog w = .ok (.tuple #[.agg #[v0, v1], tmps.getD u undef]) w :=
  results_row_tmp h tmps w g 25 #[v0, v1] (0, 0) _ hp hb Try.underlying25 rfl (nt_size _ _)
theorem nt_ret3 {fn : Func} {p q u : Tmp} (h : fn.results = #[.cell p 28, .cell q 25, .tmp u]) {v0 v1 p0 p1 p2 : Value} {tmps : Array Value} {w : World} {g g2 : Nat} (hp : tmps.getD p undef = .pointer (some ⟨g, 0, none⟩)) (hb : Box w g #[p0, p1, p2] 28)
    (hq : tmps.getD q undef = .pointer (some ⟨g2, 0, none⟩)) (hb2 : Box w g2 #[v0, v1] 25) :
    (results fn tmps).run Try.prog w = .ok (.tuple #[.agg #[p0, p1, p2], .agg #[v0, v1], tmps.getD u undef]) w :=
  results_row_row_tmp h tmps w g g2 _ _ _ _ hp hb hq hb2 Try.underlying28 rfl (pk_size _ _ _) Try.underlying25 rfl (nt_size _ _)

theorem box_other {w : World} {g b i : Nat} {t : TypeId} {cs : Array Value} {v : Value} (h : Box w g cs t) (hne : g ≠ b) : Box (w.setCell ⟨b, i, none⟩ v) g cs t := h.grown (set_grown_at w b i v) (by simpa using hne)
theorem box2 {w : World} {g : Nat} {t : TypeId} {a0 a1 : Value} (v0 v1 : Value) (h : Box w g #[a0, a1] t) : Box ((w.setCell ⟨g, 0, none⟩ v0).setCell ⟨g, 1, none⟩ v1) g #[v0, v1] t :=
  (h.set (i := 0) (v := v0)).set (i := 1) (v := v1)

/-- Only slices. -/
def OnlyS (cs : Array Value) : Prop := ∀ (i : Nat) v, cs[i]? = some v → ∃ A n c, v = Value.slice A n c
theorem onlyS2 (A B : Option Addr) (n m c k : Nat) : OnlyS #[.slice A n c, .slice B m k] := by
  intro i v h
  match i, h with
  | 0, h => cases h; exact ⟨_, _, _, rfl⟩
  | 1, h => cases h; exact ⟨_, _, _, rfl⟩
  | i + 2, h => simp at h
theorem OnlyS.set {cs : Array Value} (h : OnlyS cs) (i : Nat) (A : Option Addr) (n c : Nat) : OnlyS (cs.setIfInBounds i (.slice A n c)) := by
  intro j v hj
  rw [Array.getElem?_setIfInBounds] at hj
  split at hj
  · split at hj
    · cases hj; exact ⟨_, _, _, rfl⟩
    · cases hj
  · exact h j v hj
theorem no_int {w : World} {b b2 off : Nat} {cs : Array Value} {t : TypeId} {k : IntKind} {n : Int} (hx : Box w b cs t) (hs : OnlyS cs) (hc : w.cell? ⟨b2, off, none⟩ = some (.int k n)) : b2 ≠ b := by
  intro e
  subst e
  rw [hx.cell off] at hc
  obtain ⟨A, n, c, e⟩ := hs off _ hc
  cases e
theorem Sl.off {w : World} {A : Option Addr} {l : List UInt8} {c : Nat} (h : Sl w A l c) {b : Nat} {cs : Array Value} {t : TypeId} (hx : Box w b cs t) (hs : OnlyS cs) (i : Nat) (v : Value) : Sl (w.setCell ⟨b, i, none⟩ v) A l c := by
  by_cases hp : 0 < l.length
  · obtain ⟨b2, off, e, hlt, hc⟩ := h.1 hp
    refine h.keep (set_grown_at w b i v) (fun b3 off3 e3 => ?_)
    rw [e] at e3
    cases e3
    have := hc 0 l[0] (List.getElem?_eq_getElem hp)
    have := no_int hx hs this
    simpa using this
  · have : l = [] := List.eq_nil_of_length_eq_zero (by omega)
    subst this
    exact ⟨Bs.none_, h.2⟩
theorem PkF.off {w : World} {b : Nat} {cs : Array Value} {t : TypeId} (hx : Box w b cs t) (hs : OnlyS cs) (i : Nat) (v : Value) : ∀ {l : List Pk} {vs : List Value}, PkF w l vs → PkF (w.setCell ⟨b, i, none⟩ v) l vs
  | [], vs, h => h
  | p :: l, vs, ⟨A, c, vs', e, h1, h⟩ => ⟨A, c, vs', e, h1.off hx hs i v, PkF.off hx hs i v h⟩
theorem QQ.off {w : World} {A : Option Addr} {l : List Pk} {c : Nat} (h : QQ w A l c) {b : Nat} {cs : Array Value} {t : TypeId} (hx : Box w b cs t) (hs : OnlyS cs) (i : Nat) (v : Value) : QQ (w.setCell ⟨b, i, none⟩ v) A l c := by
  refine ⟨fun hp => ?_, h.2⟩
  obtain ⟨b2, off, D, d, e, hlt, h0, _⟩ := h.at_ (List.getElem?_eq_getElem hp)
  have hne := no_int hx hs h0
  obtain ⟨b3, off3, vs, e3, _, hf, hc⟩ := h.1 hp
  rw [e] at e3
  cases e3
  have hg := set_grown_at w b i v
  exact ⟨b2, off, vs, e, Nat.lt_of_lt_of_le hlt hg.size, hf.off hx hs i v, fun j u hj => hg.cell (hc j u hj) (by simpa using hne)⟩
theorem PP.off {w : World} {A : Option Addr} {l : List (Int × Int)} {c : Nat} (h : PP w A l c) {b : Nat} {cs : Array Value} {t : TypeId} (hx : Box w b cs t) (hs : OnlyS cs) (i : Nat) (v : Value) : PP (w.setCell ⟨b, i, none⟩ v) A l c := by
  refine ⟨fun hp => ?_, h.2⟩
  obtain ⟨b2, off, e, hlt, h0, _⟩ := h.at_ (List.getElem?_eq_getElem hp)
  have hne := no_int hx hs h0
  obtain ⟨b3, off3, e3, _, hc⟩ := h.1 hp
  rw [e] at e3
  cases e3
  have hg := set_grown_at w b i v
  exact ⟨b2, off, e, Nat.lt_of_lt_of_le hlt hg.size, fun j u hj => hg.cell (hc j u hj) (by simpa using hne)⟩
/-- A store of what lies there. -/
theorem set_same {w : World} {b i : Nat} {cs : Array Value} {t : TypeId} {v : Value} (h : Box w b cs t) (hv : cs[i]? = some v) : w.setCell ⟨b, i, none⟩ v = w := by
  have e : cs.setIfInBounds i v = cs := by
    apply Array.ext_getElem?
    intro j
    rw [Array.getElem?_setIfInBounds]
    split
    · rename_i e
      subst e
      split
      · exact hv.symm
      · rename_i hne
        rw [Array.getElem?_eq_none (by omega)] at hv
        cases hv
    · rfl
  have hh : (w.setCell ⟨b, i, none⟩ v).heap = w.heap := by
    apply Array.ext_getElem?
    intro j
    by_cases hj : j = b
    · subst hj
      have := h.set (i := i) (v := v)
      rw [e] at this
      exact this.trans (show w.heap[j]? = _ from h).symm
    · exact Below.heap_setCell _ _ _ _ hj
  unfold World.setCell at hh ⊢
  cases w
  simp_all
end Go.Proofs.Ytojijebmipgeeaa
