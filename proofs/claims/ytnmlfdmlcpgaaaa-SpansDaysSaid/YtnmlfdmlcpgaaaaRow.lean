/- From the reading of arguments to the values of the laws, and back. -/
import Derived.Test.YtnmlfdmlcpgaaaaRows
import Derived.Test.YtnmlfdmlcpgaaaaRowS
import Derived.Deep.Slices
import Derived.WalkKit
import Derived.ProofKit
import Derived.OpenShut
import Derived.Lib.SmallJoins
import Derived.Deep.Fields
import Derived.ReadAgain
namespace Go.Proofs.Ytnmlfdmlcpgaaaa
open Go.ChangeShapes Go.WideShapes Go.ChangeAt Go.RowKit Go.WideElems Go.Deep
set_option linter.unusedVariables false

theorem own_knob : ownKnob Try.prog.godebug = none := by kernel_rfl
theorem laid_out : laidOutB Try.prog = true := by kernel_rfl
theorem read_spans : Try.prog.readableRec 22 = true := by kernel_rfl
theorem read_span : Try.prog.readableRec 31 = true := by kernel_rfl
theorem read_int : Try.prog.readableRec 3 = true := by kernel_rfl
theorem types_size : 45 ≤ Try.prog.types.size := of_decide_eq_true (by kernel_rfl)
theorem cells_span : Try.prog.cellsOf 31 = 2 := by kernel_rfl

section
variable {H : Type} {enc : TypeId × Value → H}

theorem trodAll_stays {W W' : World} (hb : Below W.heap.size W W') : ∀ {ts : List TypeId} {vs : List Value} {ds : List (DataW H)} {ps : List MemPlace}, (∀ t ∈ ts, Try.prog.readableRec t = true ∧ t < Try.prog.types.size) →
    DataW.TrodAll enc Try.prog W 0 (fun _ => true) true ts vs ds ps → (∀ p ∈ ps, p.block < W.heap.size) → ∀ sp : Nat → Bool, (∀ p ∈ ps, sp p.block = true) → DataW.TrodAll enc Try.prog W' 0 sp true ts vs ds ps
  | [], [], [], _, _, h, _, _, _ => h
  | t :: ts, v :: vs, d :: ds, ps, hts, ⟨p, q, h1, h2, e⟩, hlt, sp, hsp => by
    subst e
    refine ⟨p, q, Trod_stays laid_out (hts t (by simp)).1 (hts t (by simp)).2 h1 (fun x hx => hb.same (hlt x (by simp [hx]))) (fun x hx => hsp x (by simp [hx])), ?_, rfl⟩
    exact trodAll_stays hb (fun u hu => hts u (by simp [hu])) h2 (fun x hx => hlt x (by simp [hx])) sp (fun x hx => hsp x (by simp [hx]))

/-- The row's last step: the law has answered true, and nothing old has turned. -/
theorem post_true {f : Func} {s : ChangeSpec} {W W' : World} {args : Array Value} {ds : List (DataW H)} {before : List MemPlace}
    (hW : DataW.Whole enc Try.prog f.params.toList s.vars false W args.toList ds [] before) (hA : DataW.TrodAll enc Try.prog W 0 (fun _ => true) true f.params.toList args.toList ds before)
    (hts : ∀ t ∈ f.params.toList, Try.prog.readableRec t = true ∧ t < Try.prog.types.size) (hb : Below W.heap.size W W')
    (hf : f.resultTypes = #[4]) (hv : s.vars = []) (hs : s.fn H ds = { results := [.lit (.bool true)], args := ds }) :
    s.post enc Try.prog f false true false false W args (.bool true) W' := by
  have hlt : ∀ p ∈ before, p.block < W.heap.size := fun p hp => hW.lt p hp
  have hold : ∀ p ∈ before, (fun b => decide (b < W.heap.size)) p.block = true := fun p hp => by simpa using hlt p hp
  refine ⟨ds, [], before, [], before, [], hW, ?_, ?_, ?_, ?_, fun h => by cases h⟩
  · rw [List.append_nil, hs, hf]
    exact trodAll_cons_mk (shut_bool Try.underlying4 _) trodAll_mk0
  · rw [List.append_nil, hs]
    exact trodAll_stays hb hts hA hlt _ hold
  · rw [List.append_nil, hs, hv]
    rfl
  · exact World.keptBut_mono (fun p hp => ⟨hp, .inr (.inl hp)⟩) (hb.frame (· ∈ before))

/-- A span that has been read. -/
theorem span_of {W : World} (fuel : Nat) (cs : List Value) (x : DataW H × List MemPlace) (h : DataW.trod enc Try.prog W 0 (fun _ => true) true fuel 31 cs = some x) :
    ∃ a b : Int, cs = [.int .i64 a, .int .i64 b] := by
  obtain ⟨xs, n, hn, _, hlen, hxl, hf⟩ := DataW.trod_struct Try.underlying31 h
  rw [cells_span] at hlen
  match cs, hlen with
  | [c0, c1], _ =>
    have hg : ∀ (i : Nat) (hi : i < 2), ∃ y, xs[i]? = some y := fun i hi => ⟨_, List.getElem?_eq_getElem (by rw [hxl]; exact hi)⟩
    obtain ⟨y0, g0⟩ := hg 0 (by omega)
    obtain ⟨y1, g1⟩ := hg 1 (by omega)
    have k3 : Try.prog.cellsOf 3 = 1 := by kernel_rfl
    have f0 : DataW.trod enc Try.prog W 0 (fun _ => true) true n 3 [c0] = some y0 := by have := (hf 0 _ rfl).trans g0; simpa [k3] using this
    have f1 : DataW.trod enc Try.prog W 0 (fun _ => true) true n 3 [c1] = some y1 := by have := (hf 1 _ rfl).trans g1; simpa [k3] using this
    obtain ⟨k, e0, _, w0⟩ := DataW.trod_int Try.underlying3 f0
    obtain ⟨m, e1, _, w1⟩ := DataW.trod_int Try.underlying3 f1
    simp only [List.cons.injEq, and_true] at e0 e1
    subst e0 e1
    exact ⟨k, m, rfl⟩
theorem span_arg {W : World} {r : Reach} {base : Nat} {v : Value} {d : DataW H} {p : List MemPlace} (hv : Value.okWide Try.prog W r base 31 v) (h : DataW.Trod enc Try.prog W 0 (fun _ => true) true 31 v d p) :
    ∃ a b : Int, v = .agg #[.int .i64 a, .int .i64 b] := by
  obtain ⟨cs, rfl, hsz⟩ := okWide_struct Try.underlying31 hv
  obtain ⟨fuel, hf⟩ := h
  obtain ⟨a, b, hcs⟩ := span_of fuel _ _ hf
  obtain ⟨l⟩ := cs
  simp only [Value.cells] at hcs
  subst hcs
  exact ⟨a, b, rfl⟩

/-- Spans that have been read. -/
theorem spans_arg {W : World} {r : Reach} {base : Nat} {v : Value} {d : DataW H} {p : List MemPlace} (hv : Value.okWide Try.prog W r base 22 v) (h : DataW.Trod enc Try.prog W 0 (fun _ => true) true 22 v d p) :
    ∃ A l c, v = .slice A l.length c ∧ Sl W A l c := by
  obtain ⟨a0, len0, cap0, rfl⟩ := okWide_slice Try.underlying22 hv
  obtain ⟨fuel, hf⟩ := h
  rcases DataW.trod_slice Try.underlying22 hf with ⟨hcs, _⟩ | ⟨a, len, cap, elems, rest, n, _, hcs, _, _, hlc, hcm, hel, hat, _⟩
  · simp only [Value.cells, List.cons.injEq, and_true] at hcs
    exact ⟨none, [], 0, hcs, fun h => absurd h (by simp), by simp, Nat.zero_le _⟩
  · simp only [Value.cells, List.cons.injEq, and_true] at hcs
    have hex : ∀ i, ∃ u : Int × Int, i < len → W.cell? (a.add (i * 2)) = some (.int .i64 u.1) ∧ W.cell? ((a.add (i * 2)).add 1) = some (.int .i64 u.2) := by
      intro i
      by_cases hi : i < len
      · have hx := hat i hi
        rw [List.getElem?_eq_getElem (by omega), cells_span] at hx
        obtain ⟨cs', hc, ht⟩ := Option.bind_eq_some_iff.1 hx
        obtain ⟨x, y, rfl⟩ := span_of n cs' _ ht
        obtain ⟨_, _, hcell⟩ := World.cells?_some hc
        refine ⟨(x, y), fun _ => ⟨?_, ?_⟩⟩
        · have := hcell 0 (by omega); simpa [Addr.add] using this
        · have := hcell 1 (by omega); simpa using this
      · exact ⟨(0, 0), fun h => absurd h hi⟩
    obtain ⟨F, hF⟩ : ∃ F : Nat → Int × Int, ∀ i, i < len → W.cell? (a.add (i * 2)) = some (.int .i64 (F i).1) ∧ W.cell? ((a.add (i * 2)).add 1) = some (.int .i64 (F i).2) := ⟨fun i => Classical.choose (hex i), fun i => Classical.choose_spec (hex i)⟩
    clear hex
    refine ⟨some a, (List.range len).map F, cap, by simp [hcs], fun hl => ?_, by simpa using hlc, hcm⟩
    simp only [List.length_map, List.length_range] at hl
    have h0 := (hF 0 hl).1
    have hspot : a.spot = none := by
      have : a.add (0 * 2) = a := by simp [Addr.add]
      rw [this] at h0
      unfold World.cell? at h0
      split at h0
      · split at h0
        · cases h0
        · rename_i hs
          simpa using hs
      · cases h0
    obtain ⟨b, off, spot⟩ := a
    simp only at hspot
    subst hspot
    refine ⟨b, off, rfl, ?_, fun j s hs => ?_⟩
    · have := World.block_lt_of_cell? W _ h0
      rw [add_off] at this
      exact this
    · have hj : j < len := by
        have := (List.getElem?_eq_some_iff.1 hs).1
        simpa using this
      obtain ⟨k1, k2⟩ := hF j hj
      rw [add_off] at k1 k2
      rw [add_off] at k2
      simp [hj] at hs
      rw [hs] at k1 k2
      exact ⟨k1, k2⟩
end
/-- The types of the laws' parameters. -/
def okTypes (ts : List TypeId) : Bool := ts.all fun t => t == 22 || t == 31 || t == 3
theorem types_ok {ts : List TypeId} (h : okTypes ts = true) : ∀ t ∈ ts, Try.prog.readableRec t = true ∧ t < Try.prog.types.size := by
  intro t ht
  have := List.all_eq_true.1 h t ht
  simp only [Bool.or_eq_true, beq_iff_eq] at this
  have hs := types_size
  rcases this with (h1 | h1) | h1
  · rw [h1]; exact ⟨read_spans, Nat.lt_of_lt_of_le (by decide) hs⟩
  · rw [h1]; exact ⟨read_span, Nat.lt_of_lt_of_le (by decide) hs⟩
  · rw [h1]; exact ⟨read_int, Nat.lt_of_lt_of_le (by decide) hs⟩
end Go.Proofs.Ytnmlfdmlcpgaaaa
