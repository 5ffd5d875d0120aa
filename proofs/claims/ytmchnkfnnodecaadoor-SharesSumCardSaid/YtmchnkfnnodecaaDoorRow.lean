/- From the reading of arguments and of the table to the laws' premises, and back. -/
import Derived.Test.YtmchnkfnnodecaaDoorRows
import Derived.Test.YtmchnkfnnodecaaDoorSeen
import Derived.LaidMore
import Derived.OpenShut
import Derived.Stop.Joined
import Derived.ProofKit
import Derived.Deep.Slices
import Derived.Lib.SmallJoins
import Derived.Deep.Fields
import Derived.ReadAgain
namespace Go.Proofs.YtmchnkfnnodecaaDoor
open Go.ChangeShapes Go.WideShapes Go.ChangeAt Go.RowKit Go.WideElems Go.Deep
set_option linter.unusedVariables false

theorem own_knob : ownKnob Tryd.prog.godebug = none := by kernel_rfl
theorem laid_out : laidOutB Tryd.prog = true := by kernel_rfl
theorem read_bytes : Tryd.prog.readableRec 23 = true := by kernel_rfl
theorem read_int : Tryd.prog.readableRec 3 = true := by kernel_rfl
theorem read_u8 : Tryd.prog.readableRec 5 = true := by kernel_rfl
theorem types_size : 40 ≤ Tryd.prog.types.size := of_decide_eq_true (by kernel_rfl)
theorem cells_u8 : Tryd.prog.cellsOf 5 = 1 := by kernel_rfl

/-- The listed variable, as the rows list it. -/
def laidK : List (String × DataW Unit) := [("gridwright/field.remainders", Rows.laid_gridwright_field_remainders)]
theorem laid_rm : (Rows.laid_gridwright_field_remainders : DataW Unit) = .agg ((List.range 16).map fun i => .lit (.int .u8 (rm i : Int))) := by kernel_rfl

/-- What the tie gives the walks: the table. -/
theorem kt_of_laid {W : World} (h : laidMetH Tryd.prog laidK W) : KT W := by
  rw [MakeChecks.laidMetH_plain _ _ _ (by kernel_rfl)] at h
  obtain ⟨ps, ⟨g, t, cs, fuel, p, q, hg, ht, hv, hd, _, _⟩, _, _⟩ := h
  obtain rfl := Option.some.inj ((show Tryd.prog.globalNamed "gridwright/field.remainders" = some 0 by kernel_rfl).symm.trans hg)
  obtain rfl := Option.some.inj ((show (Tryd.prog.globals[0]?).map (·.type) = some 82 by kernel_rfl).symm.trans ht)
  obtain ⟨xs, m, _, ex, _, hl, hel⟩ := DataW.trod_array Tryd.underlying82 hd
  have e3 : (xs.map (·.1)) = (List.range 16).map fun i => (DataW.lit (.int .u8 (rm i : Int)) : DataW Unit) := by
    have := (Prod.mk.inj ex).1
    rw [laid_rm] at this
    exact (DataW.agg.inj this).symm
  have hcell : ∀ r, r < 16 → W.cell? ⟨0, r, none⟩ = some (.int .u8 (rm r : Int)) := by
    intro r hr
    have hE := hel r hr
    rw [cells_u8, Nat.mul_one, List.getElem?_eq_getElem (by omega)] at hE
    obtain ⟨z, e1, e2, _⟩ := DataW.trod_int Tryd.underlying5 hE
    have e4 : (xs.map (·.1))[r]? = ((List.range 16).map fun i => (DataW.lit (.int .u8 (rm i : Int)) : DataW Unit))[r]? := by rw [e3]
    rw [List.getElem?_map, List.getElem?_map, List.getElem?_eq_getElem (by omega : r < xs.length), e2, List.getElem?_range hr] at e4
    have hz : z = (rm r : Int) := by simpa using e4
    rw [World.var?_cell hg hv r, ← hz]
    have : cs.toList[r]? = some (.int .u8 z) := by
      have h0 : ((cs.toList.drop r).take 1)[0]? = some (.int .u8 z) := by rw [e1]; rfl
      simpa using h0
    simpa using this
  exact ⟨by have := World.block_lt_of_cell? W _ (hcell 0 (by omega)); exact this, hcell⟩

section
variable {H : Type} {enc : TypeId × Value → H}

theorem trodAll_stays {W W' : World} (hb : Below W.heap.size W W') : ∀ {ts : List TypeId} {vs : List Value} {ds : List (DataW H)} {ps : List MemPlace}, (∀ t ∈ ts, Tryd.prog.readableRec t = true ∧ t < Tryd.prog.types.size) →
    DataW.TrodAll enc Tryd.prog W 0 (fun _ => true) true ts vs ds ps → (∀ p ∈ ps, p.block < W.heap.size) → ∀ sp : Nat → Bool, (∀ p ∈ ps, sp p.block = true) → DataW.TrodAll enc Tryd.prog W' 0 sp true ts vs ds ps
  | [], [], [], _, _, h, _, _, _ => h
  | t :: ts, v :: vs, d :: ds, ps, hts, ⟨p, q, h1, h2, e⟩, hlt, sp, hsp => by
    subst e
    refine ⟨p, q, Trod_stays laid_out (hts t (by simp)).1 (hts t (by simp)).2 h1 (fun x hx => hb.same (hlt x (by simp [hx]))) (fun x hx => hsp x (by simp [hx])), ?_, rfl⟩
    exact trodAll_stays hb (fun u hu => hts u (by simp [hu])) h2 (fun x hx => hlt x (by simp [hx])) sp (fun x hx => hsp x (by simp [hx]))

/-- The row's last step: the law has answered true, and nothing old has turned. -/
theorem post_true {f : Func} {s : ChangeSpec} {W W' : World} {args : Array Value} {ds : List (DataW H)} {before : List MemPlace}
    (hW : DataW.Whole enc Tryd.prog f.params.toList s.vars false W args.toList ds [] before) (hA : DataW.TrodAll enc Tryd.prog W 0 (fun _ => true) true f.params.toList args.toList ds before)
    (hts : ∀ t ∈ f.params.toList, Tryd.prog.readableRec t = true ∧ t < Tryd.prog.types.size) (hb : Below W.heap.size W W')
    (hf : f.resultTypes = #[4]) (hv : s.vars = []) (hs : s.fn H ds = { results := [.lit (.bool true)], args := ds }) :
    s.post enc Tryd.prog f false true false false W args (.bool true) W' := by
  have hlt : ∀ p ∈ before, p.block < W.heap.size := fun p hp => hW.lt p hp
  have hold : ∀ p ∈ before, (fun b => decide (b < W.heap.size)) p.block = true := fun p hp => by simpa using hlt p hp
  refine ⟨ds, [], before, [], before, [], hW, ?_, ?_, ?_, ?_, fun h => by cases h⟩
  · rw [List.append_nil, hs, hf]
    exact trodAll_cons_mk (shut_bool Tryd.underlying4 _) trodAll_mk0
  · rw [List.append_nil, hs]
    exact trodAll_stays hb hts hA hlt _ hold
  · rw [List.append_nil, hs, hv]
    rfl
  · exact World.keptBut_mono (fun p hp => ⟨hp, .inr (.inl hp)⟩) (hb.frame (· ∈ before))

/-- Bytes that have been read. -/
theorem bytes_arg {W : World} {r : Reach} {base : Nat} {v : Value} {d : DataW H} {p : List MemPlace} (hv : Value.okWide Tryd.prog W r base 23 v) (h : DataW.Trod enc Tryd.prog W 0 (fun _ => true) true 23 v d p) :
    ∃ A l c, v = .slice A l.length c ∧ Sl W A l c := by
  obtain ⟨a0, len0, cap0, rfl⟩ := okWide_slice Tryd.underlying23 hv
  obtain ⟨fuel, hf⟩ := h
  rcases DataW.trod_slice Tryd.underlying23 hf with ⟨hcs, _⟩ | ⟨a, len, cap, elems, rest, n, _, hcs, _, _, hlc, hcm, hel, hat, _⟩
  · simp only [Value.cells, List.cons.injEq, and_true] at hcs
    exact ⟨none, [], 0, hcs, fun h => absurd h (by simp), by simp, Nat.zero_le _, fun _ => ⟨rfl, rfl⟩⟩
  · simp only [Value.cells, List.cons.injEq, and_true] at hcs
    have hex : ∀ i, ∃ u : UInt8, i < len → W.cell? (a.add i) = some (bv u) := by
      intro i
      by_cases hi : i < len
      · have hx := hat i hi
        rw [List.getElem?_eq_getElem (by omega), cells_u8, Nat.mul_one] at hx
        obtain ⟨cs', hc, ht⟩ := Option.bind_eq_some_iff.1 hx
        obtain ⟨m, rfl, _, hw⟩ := DataW.trod_int Tryd.underlying5 ht
        obtain ⟨_, _, hcell⟩ := World.cells?_some hc
        have h0 := hcell 0 (by omega)
        have hm : 0 ≤ m ∧ m ≤ 255 := by simpa [Lit.wf, IntKind.min, IntKind.max, IntKind.signed, IntKind.bits] using hw
        refine ⟨UInt8.ofNat m.toNat, fun _ => ?_⟩
        have hbv : bv (UInt8.ofNat m.toNat) = .int .u8 m := by
          unfold bv
          congr 1
          rw [UInt8.toNat_ofNat']
          omega
        rw [hbv]
        have e : (a.add i).add 0 = a.add i := by simp [Addr.add]
        rw [e] at h0
        exact h0
      · exact ⟨0, fun h => absurd h hi⟩
    obtain ⟨F, hF⟩ : ∃ F : Nat → UInt8, ∀ i, i < len → W.cell? (a.add i) = some (bv (F i)) := ⟨fun i => Classical.choose (hex i), fun i => Classical.choose_spec (hex i)⟩
    clear hex
    refine ⟨some a, (List.range len).map F, cap, by simp [hcs], fun hl => ?_, by simpa using hlc, hcm, fun h => by cases h⟩
    simp only [List.length_map, List.length_range] at hl
    have h0 := hF 0 hl
    have hspot : a.spot = none := by
      have : a.add 0 = a := by simp [Addr.add]
      rw [this] at h0
      unfold World.cell? at h0
      split at h0
      · split at h0
        · cases h0
        · rename_i hs
          simpa using hs
      · cases h0
    obtain ⟨b, off, spot⟩ := a
    simp only at hspot
    subst hspot
    have hadd : ∀ k : Nat, (⟨b, off, none⟩ : Addr).add k = ⟨b, off + k, none⟩ := fun k => by unfold Addr.add; split <;> simp_all
    refine ⟨b, off, rfl, ?_, fun j u hu => ?_⟩
    · have := World.block_lt_of_cell? W _ h0
      rw [hadd] at this
      exact this
    · have hj : j < len := by
        have := (List.getElem?_eq_some_iff.1 hu).1
        simpa using this
      have hs := hF j hj
      rw [hadd] at hs
      simp [hj] at hu
      rw [hu] at hs
      exact hs
end
/-- A byte that has been read. -/
theorem byte_wf {n : Int} (h : (Lit.int .u8 n).wf = true) : ∃ b : UInt8, Value.int .u8 n = bv b := by
  have hm : 0 ≤ n ∧ n ≤ 255 := by simpa [Lit.wf, IntKind.min, IntKind.max, IntKind.signed, IntKind.bits] using h
  refine ⟨UInt8.ofNat n.toNat, ?_⟩
  unfold bv
  congr 1
  rw [UInt8.toNat_ofNat']
  omega
/-- The types of the laws' parameters. -/
def okTypes (ts : List TypeId) : Bool := ts.all fun t => t == 23 || t == 5 || t == 3
theorem types_ok {ts : List TypeId} (h : okTypes ts = true) : ∀ t ∈ ts, Tryd.prog.readableRec t = true ∧ t < Tryd.prog.types.size := by
  intro t ht
  have := List.all_eq_true.1 h t ht
  simp only [Bool.or_eq_true, beq_iff_eq] at this
  have hs := types_size
  rcases this with (h1 | h1) | h1
  · rw [h1]; exact ⟨read_bytes, Nat.lt_of_lt_of_le (by decide) hs⟩
  · rw [h1]; exact ⟨read_u8, Nat.lt_of_lt_of_le (by decide) hs⟩
  · rw [h1]; exact ⟨read_int, Nat.lt_of_lt_of_le (by decide) hs⟩
end Go.Proofs.YtmchnkfnnodecaaDoor
