/- From the reading of arguments to the values of the laws, and back. -/
import Derived.Test.YtkihimafeonibaaRows
import Derived.Test.YtkihimafeonibaaVal
import Derived.Test.YtkihimafeonibaaTake
import Derived.Deep.Slices
import Derived.WalkKit
import Derived.ProofKit
import Derived.OpenShut
import Derived.Lib.SmallJoins
import Derived.Deep.Fields
import Derived.ReadAgain
namespace Go.Proofs.Ytkihimafeonibaa
open Go.ChangeShapes Go.WideShapes Go.ChangeAt Go.RowKit Go.WideElems Go.Deep
set_option linter.unusedVariables false

theorem own_knob : ownKnob Try.prog.godebug = none := by kernel_rfl
theorem laid_out : laidOutB Try.prog = true := by kernel_rfl
theorem read_val : Try.prog.readableRec 24 = true := by kernel_rfl
theorem read_bytes : Try.prog.readableRec 27 = true := by kernel_rfl
theorem read_vals : Try.prog.readableRec 22 = true := by kernel_rfl
theorem read_int : Try.prog.readableRec 3 = true := by kernel_rfl
theorem types_size : 80 ≤ Try.prog.types.size := of_decide_eq_true (by kernel_rfl)
theorem cells_val : Try.prog.cellsOf 24 = 4 := by kernel_rfl
theorem cells_u8 : Try.prog.cellsOf 5 = 1 := by kernel_rfl

section
variable {H : Type} {enc : TypeId × Value → H}

theorem trodAll_stays {W W' : World} (hb : Below W.heap.size W W') : ∀ {ts : List TypeId} {vs : List Value} {ds : List (DataW H)} {ps : List MemPlace}, (∀ t ∈ ts, Try.prog.readableRec t = true ∧ t < Try.prog.types.size) →
    DataW.TrodAll enc Try.prog W 0 (fun _ => true) true ts vs ds ps → (∀ p ∈ ps, p.block < W.heap.size) → ∀ sp : Nat → Bool, (∀ p ∈ ps, sp p.block = true) → DataW.TrodAll enc Try.prog W' 0 sp true ts vs ds ps
  | [], [], [], _, _, h, _, _, _ => h
  | t :: ts, v :: vs, d :: ds, ps, hts, ⟨p, q, h1, h2, e⟩, hlt, sp, hsp => by
    subst e
    refine ⟨p, q, Trod_stays laid_out (hts t (by simp)).1 (hts t (by simp)).2 h1 (fun x hx => hb.same (hlt x (by simp [hx]))) (fun x hx => hsp x (by simp [hx])), ?_, rfl⟩
    exact trodAll_stays hb (fun u hu => hts u (by simp [hu])) h2 (fun x hx => hlt x (by simp [hx])) sp (fun x hx => hsp x (by simp [hx]))

/-- The row's last step: the law has answered true, and nothing old has turned. -/
theorem post_true {f : Func} {s : ChangeSpec} {W W' : World} {args : Array Value} {ds : List (DataW H)} {before : List MemPlace}
    (hW : DataW.Whole enc Try.prog f.params.toList s.vars false W args.toList ds [] before) (hA : DataW.TrodAll enc Try.prog W 0 (fun _ => true) true f.params.toList args.toList ds before)
    (hts : ∀ t ∈ f.params.toList, Try.prog.readableRec t = true ∧ t < Try.prog.types.size) (hb : Below W.heap.size W W')
    (hf : f.resultTypes = #[4]) (hv : s.vars = []) (hs : s.fn H ds = { results := [.lit (.bool true)], args := ds }) :
    s.post enc Try.prog f false true false false W args (.bool true) W' := by
  have hlt : ∀ p ∈ before, p.block < W.heap.size := fun p hp => hW.lt p hp
  have hold : ∀ p ∈ before, (fun b => decide (b < W.heap.size)) p.block = true := fun p hp => by simpa using hlt p hp
  refine ⟨ds, [], before, [], before, [], hW, ?_, ?_, ?_, ?_, fun h => by cases h⟩
  · rw [List.append_nil, hs, hf]
    exact trodAll_cons_mk (shut_bool Try.underlying4 _) trodAll_mk0
  · rw [List.append_nil, hs]
    exact trodAll_stays hb hts hA hlt _ hold
  · rw [List.append_nil, hs, hv]
    rfl
  · exact World.keptBut_mono (fun p hp => ⟨hp, .inr (.inl hp)⟩) (hb.frame (· ∈ before))

theorem fit_of_wf {n : Int} (h : (Lit.int .i64 n).wf = true) : Fit n := by
  simp [Lit.wf, IntKind.min, IntKind.max, IntKind.signed, IntKind.bits] at h
  unfold Fit
  omega

theorem drop_take1 {cs : List Value} {i : Nat} {v : Value} (h : (cs.drop i).take 1 = [v]) : cs[i]? = some v := by
  have : ((cs.drop i).take 1)[0]? = some v := by rw [h]; rfl
  rw [List.getElem?_take, if_pos (by omega), List.getElem?_drop] at this
  simpa using this

/-- A slice of values that has been read. -/
theorem rds_of {W : World} {fuel : Nat} {cs : List Value} {x : DataW H × List MemPlace}
    (ih : ∀ n, n < fuel → ∀ (cs : List Value) (x : DataW H × List MemPlace), DataW.trod enc Try.prog W 0 (fun _ => true) true n 24 cs = some x → ∃ (c0 c1 c2 c3 : Value) (t : T), cs = [c0, c1, c2, c3] ∧ Rd W.heap.size W t (.agg #[c0, c1, c2, c3]))
    (h : DataW.trod enc Try.prog W 0 (fun _ => true) true fuel 22 cs = some x) :
    ∃ (a : Option Addr) (len cap : Nat) (f : Nat → T), cs = [.slice a len cap] ∧ len ≤ maxLen ∧ RdS W.heap.size W len f a := by
  rcases DataW.trod_slice Try.underlying22 h with ⟨rfl, rfl⟩ | ⟨a, len, cap, elems, rest, n, rfl, rfl, _, _, hlc, hcm, hel, hat, _⟩
  · exact ⟨none, 0, 0, fun _ => .nil, rfl, Nat.zero_le _, fun h => absurd h (by omega)⟩
  · have hex : ∀ i, ∃ t : T, i < len → ∃ c0 c1 c2 c3, W.cell? (a.add (i * 4)) = some c0 ∧ W.cell? ((a.add (i * 4)).add 1) = some c1 ∧ W.cell? ((a.add (i * 4)).add 2) = some c2 ∧ W.cell? ((a.add (i * 4)).add 3) = some c3 ∧ Rd W.heap.size W t (.agg #[c0, c1, c2, c3]) := by
      intro i
      by_cases hi : i < len
      · have hx := hat i hi
        rw [List.getElem?_eq_getElem (by omega), cells_val] at hx
        obtain ⟨cs', hc, ht⟩ := Option.bind_eq_some_iff.1 hx
        obtain ⟨c0, c1, c2, c3, t, rfl, hr⟩ := ih n (by omega) cs' _ ht
        obtain ⟨_, _, hcell⟩ := World.cells?_some hc
        refine ⟨t, fun _ => ⟨c0, c1, c2, c3, ?_, ?_, ?_, ?_, hr⟩⟩
        · have := hcell 0 (by omega); simpa [Addr.add] using this
        · have := hcell 1 (by omega); simpa using this
        · have := hcell 2 (by omega); simpa using this
        · have := hcell 3 (by omega); simpa using this
      · exact ⟨.nil, fun h => absurd h hi⟩
    refine ⟨some a, len, cap, fun i => Classical.choose (hex i), rfl, by omega, fun hl => ?_⟩
    have hspot : a.spot = none := by
      obtain ⟨c0, c1, c2, c3, e0, _⟩ := Classical.choose_spec (hex 0) hl
      have : a.add (0 * 4) = a := by simp [Addr.add]
      rw [this] at e0
      unfold World.cell? at e0
      split at e0
      · split at e0
        · cases e0
        · rename_i hs
          simpa using hs
      · cases e0
    obtain ⟨b, off, spot⟩ := a
    simp only at hspot
    subst hspot
    have hadd : ∀ i k : Nat, ((⟨b, off, none⟩ : Addr).add i).add k = ⟨b, off + i + k, none⟩ := fun i k => by rw [add_off, add_off]
    refine ⟨b, off, rfl, ?_, fun i hi => ?_⟩
    · obtain ⟨c0, c1, c2, c3, e0, _⟩ := Classical.choose_spec (hex 0) hl
      have := World.block_lt_of_cell? W _ e0
      rw [add_off] at this
      exact this
    · obtain ⟨c0, c1, c2, c3, e0, e1, e2, e3, hr⟩ := Classical.choose_spec (hex i) hi
      rw [add_off] at e0
      rw [hadd] at e1 e2 e3
      exact ⟨c0, c1, c2, c3, e0, e1, e2, e3, hr⟩

/-- A value that has been read. -/
theorem rd_of {W : World} : ∀ (fuel : Nat) (cs : List Value) (x : DataW H × List MemPlace), DataW.trod enc Try.prog W 0 (fun _ => true) true fuel 24 cs = some x →
    ∃ (c0 c1 c2 c3 : Value) (t : T), cs = [c0, c1, c2, c3] ∧ Rd W.heap.size W t (.agg #[c0, c1, c2, c3]) := by
  intro fuel
  induction fuel using Nat.strongRecOn with
  | ind fuel ih =>
    intro cs x h
    obtain ⟨xs, n, hn, _, hlen, hxl, hf⟩ := DataW.trod_struct Try.underlying24 h
    rw [cells_val] at hlen
    match cs, hlen with
    | [c0, c1, c2, c3], _ =>
      have hg : ∀ (i : Nat) (hi : i < 4), ∃ y, xs[i]? = some y := fun i hi => ⟨_, List.getElem?_eq_getElem (by rw [hxl]; exact hi)⟩
      obtain ⟨y0, g0⟩ := hg 0 (by omega)
      obtain ⟨y1, g1⟩ := hg 1 (by omega)
      obtain ⟨y2, g2⟩ := hg 2 (by omega)
      obtain ⟨y3, g3⟩ := hg 3 (by omega)
      have k3 : Try.prog.cellsOf 3 = 1 := by kernel_rfl
      have k9 : Try.prog.cellsOf 9 = 1 := by kernel_rfl
      have k22 : Try.prog.cellsOf 22 = 1 := by kernel_rfl
      have f0 : DataW.trod enc Try.prog W 0 (fun _ => true) true n 3 [c0] = some y0 := by have := (hf 0 _ rfl).trans g0; simpa [k3] using this
      have f1 : DataW.trod enc Try.prog W 0 (fun _ => true) true n 3 [c1] = some y1 := by have := (hf 1 _ rfl).trans g1; simpa [k3] using this
      have f2 : DataW.trod enc Try.prog W 0 (fun _ => true) true n 9 [c2] = some y2 := by have := (hf 2 _ rfl).trans g2; simpa [k9] using this
      have f3 : DataW.trod enc Try.prog W 0 (fun _ => true) true n 22 [c3] = some y3 := by have := (hf 3 _ rfl).trans g3; simpa [k22] using this
      obtain ⟨k, e0, _, w0⟩ := DataW.trod_int Try.underlying3 f0
      obtain ⟨m, e1, _, w1⟩ := DataW.trod_int Try.underlying3 f1
      obtain ⟨s, e2, _, w2⟩ := DataW.trod_string Try.underlying9 f2
      obtain ⟨a, len, cap, f, e3, w3, hr⟩ := rds_of (fun n' hn' => ih n' (by omega)) f3
      simp only [List.cons.injEq, and_true] at e0 e1 e2 e3
      subst e0 e1 e2 e3
      exact ⟨_, _, _, _, .mk k m s len f, rfl, a, cap, rfl, fit_of_wf w0, fit_of_wf w1, w2, w3, hr⟩

theorem rd_arg {W : World} {r : Reach} {base : Nat} {v : Value} {d : DataW H} {p : List MemPlace} (hv : Value.okWide Try.prog W r base 24 v) (h : DataW.Trod enc Try.prog W 0 (fun _ => true) true 24 v d p) :
    ∃ t, Rd W.heap.size W t v := by
  obtain ⟨cs, rfl, hsz⟩ := okWide_struct Try.underlying24 hv
  obtain ⟨fuel, hf⟩ := h
  obtain ⟨c0, c1, c2, c3, t, hcs, hr⟩ := rd_of fuel _ _ hf
  obtain ⟨l⟩ := cs
  simp only [Value.cells] at hcs
  subst hcs
  exact ⟨t, hr⟩

theorem rds_arg {W : World} {r : Reach} {base : Nat} {v : Value} {d : DataW H} {p : List MemPlace} (hv : Value.okWide Try.prog W r base 22 v) (h : DataW.Trod enc Try.prog W 0 (fun _ => true) true 22 v d p) :
    ∃ a len cap f, v = .slice a len cap ∧ len ≤ maxLen ∧ RdS W.heap.size W len f a := by
  obtain ⟨a, len, cap, rfl⟩ := okWide_slice Try.underlying22 hv
  obtain ⟨fuel, hf⟩ := h
  obtain ⟨a', len', cap', f, hcs, hl, hr⟩ := rds_of (fun n _ cs x h => rd_of n cs x h) hf
  simp only [Value.cells, List.cons.injEq, and_true] at hcs
  exact ⟨a', len', cap', f, hcs, hl, hr⟩

/-- Bytes that have been read. -/
theorem bytes_arg {W : World} {r : Reach} {base : Nat} {v : Value} {d : DataW H} {p : List MemPlace} (hv : Value.okWide Try.prog W r base 27 v) (h : DataW.Trod enc Try.prog W 0 (fun _ => true) true 27 v d p) :
    ∃ A l c, v = .slice A l.length c ∧ Bs W.heap.size W A l ∧ l.length ≤ c ∧ c ≤ maxLen := by
  obtain ⟨a0, len0, cap0, rfl⟩ := okWide_slice Try.underlying27 hv
  obtain ⟨fuel, hf⟩ := h
  rcases DataW.trod_slice Try.underlying27 hf with ⟨hcs, _⟩ | ⟨a, len, cap, elems, rest, n, _, hcs, _, _, hlc, hcm, hel, hat, _⟩
  · simp only [Value.cells, List.cons.injEq, and_true] at hcs
    exact ⟨none, [], 0, hcs, fun h => absurd h (by simp), by simp, Nat.zero_le _⟩
  · simp only [Value.cells, List.cons.injEq, and_true] at hcs
    have hex : ∀ i, ∃ u : UInt8, i < len → W.cell? (a.add i) = some (bv u) := by
      intro i
      by_cases hi : i < len
      · have hx := hat i hi
        rw [List.getElem?_eq_getElem (by omega), cells_u8, Nat.mul_one] at hx
        obtain ⟨cs', hc, ht⟩ := Option.bind_eq_some_iff.1 hx
        obtain ⟨m, rfl, _, hw⟩ := DataW.trod_int Try.underlying5 ht
        obtain ⟨_, _, hcell⟩ := World.cells?_some hc
        have h0 := hcell 0 (by omega)
        have hm : 0 ≤ m ∧ m ≤ 255 := by simpa [Lit.wf, IntKind.min, IntKind.max, IntKind.signed, IntKind.bits] using hw
        refine ⟨UInt8.ofNat m.toNat, fun _ => ?_⟩
        rw [bv_of _ (by omega), Int.toNat_of_nonneg hm.1]
        have e : (a.add i).add 0 = a.add i := by simp [Addr.add]
        rw [e] at h0
        exact h0
      · exact ⟨0, fun h => absurd h hi⟩
    obtain ⟨F, hF⟩ : ∃ F : Nat → UInt8, ∀ i, i < len → W.cell? (a.add i) = some (bv (F i)) := ⟨fun i => Classical.choose (hex i), fun i => Classical.choose_spec (hex i)⟩
    clear hex
    refine ⟨some a, (List.range len).map F, cap, by simp [hcs], fun hl => ?_, by simpa using hlc, hcm⟩
    simp only [List.length_map, List.length_range] at hl
    have h0 := hF 0 hl
    have hspot : a.spot = none := by
      have : a.add 0 = a := by simp [Addr.add]
      rw [this] at h0
      unfold World.cell? at h0
      split at h0
      · split at h0
        · cases h0
        · rename_i hs
          simpa using hs
      · cases h0
    obtain ⟨b, off, spot⟩ := a
    simp only at hspot
    subst hspot
    refine ⟨b, off, rfl, ?_, fun j u hu => ?_⟩
    · have := World.block_lt_of_cell? W _ h0
      rw [add_off] at this
      exact this
    · have hj : j < len := by
        have := (List.getElem?_eq_some_iff.1 hu).1
        simpa using this
      have hs := hF j hj
      rw [add_off] at hs
      simp [hj] at hu
      rw [hu] at hs
      exact hs
end
/-- The types of the laws' parameters. -/
def okTypes (ts : List TypeId) : Bool := ts.all fun t => t == 24 || t == 27 || t == 22 || t == 3
theorem types_ok {ts : List TypeId} (h : okTypes ts = true) : ∀ t ∈ ts, Try.prog.readableRec t = true ∧ t < Try.prog.types.size := by
  intro t ht
  have := List.all_eq_true.1 h t ht
  simp only [Bool.or_eq_true, beq_iff_eq] at this
  have hs := types_size
  rcases this with ((h1 | h1) | h1) | h1
  · rw [h1]; exact ⟨read_val, Nat.lt_of_lt_of_le (by decide) hs⟩
  · rw [h1]; exact ⟨read_bytes, Nat.lt_of_lt_of_le (by decide) hs⟩
  · rw [h1]; exact ⟨read_vals, Nat.lt_of_lt_of_le (by decide) hs⟩
  · rw [h1]; exact ⟨read_int, Nat.lt_of_lt_of_le (by decide) hs⟩
end Go.Proofs.Ytkihimafeonibaa
