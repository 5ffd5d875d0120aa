/- From the reading of arguments and of the table to the laws' premises, and back. -/
import Derived.Test.YticepaljociefaaDoorRows
import Derived.Test.YticepaljociefaaDoorSane
import Derived.Lib.LaidTab
import Derived.SizedLaws
import Derived.LaidMore
import Derived.OpenShut
import Derived.Stop.Joined
import Derived.ProofKit
import Derived.Deep.Slices
import Derived.Lib.SmallJoins
import Derived.Deep.Fields
import Derived.ReadAgain
namespace Go.Proofs.YticepaljociefaaDoor
open Go.ChangeShapes Go.WideShapes Go.ChangeAt Go.RowKit Go.WideElems Go.Deep
set_option linter.unusedVariables false

theorem own_knob : ownKnob Tryd.prog.godebug = none := by kernel_rfl
theorem laid_out : laidOutB Tryd.prog = true := by kernel_rfl
theorem read_bytes : Tryd.prog.readableRec 39 = true := by kernel_rfl
theorem read_str : Tryd.prog.readableRec 9 = true := by kernel_rfl
theorem read_tks : Tryd.prog.readableRec 23 = true := by kernel_rfl
theorem read_u8 : Tryd.prog.readableRec 5 = true := by kernel_rfl
theorem types_size : 40 ≤ Tryd.prog.types.size := of_decide_eq_true (by kernel_rfl)
theorem cells_u8 : Tryd.prog.cellsOf 5 = 1 := by kernel_rfl

/-- The listed variables, as the rows list them. -/
def laidK : List (String × DataW Unit) := [("math/bits.deBruijn32tab", Rows.laid_math_bits_deBruijn32tab), ("math/bits.deBruijn64tab", Rows.laid_math_bits_deBruijn64tab), ("internal/strconv.uint64pow10", Rows.laid_internal_strconv_uint64pow10), ("gridwright/lex.classes", Rows.laid_gridwright_lex_classes)]
theorem laid_pow : (Rows.laid_internal_strconv_uint64pow10 : DataW Unit) = Lib.tabData .u64 Lib.pow10Tab := by kernel_rfl
theorem laid_cls : (Rows.laid_gridwright_lex_classes : DataW Unit) = Lib.tabData .u8 ((List.range 128).map fun i => (cl (UInt8.ofNat i) : Int)) := by kernel_rfl
/-- What the tie gives the walks: the tables. -/
theorem kp_of_laid {W : World} (h : laidMetH Tryd.prog laidK W) : KT W ∧ PT W := by
  rw [MakeChecks.laidMetH_plain _ _ _ (by kernel_rfl)] at h
  obtain ⟨ps, ⟨_, _, _, _, _, _, _, _, _, _, h2, _⟩, _, _⟩ := h
  obtain ⟨_, _, _, _, _, _, _, _, _, _, h3, _⟩ := h2
  obtain ⟨g3, t3, cs3, f3, p3, q3, hg3, ht3, hv3, hd3, h4, _⟩ := h3
  obtain ⟨g4, t4, cs4, f4, p4, q4, hg4, ht4, hv4, hd4, _, _⟩ := h4
  rw [laid_pow] at hd3
  rw [laid_cls] at hd4
  constructor
  · obtain rfl := Option.some.inj ((show Tryd.prog.globalNamed "gridwright/lex.classes" = some 0 by kernel_rfl).symm.trans hg4)
    obtain rfl := Option.some.inj ((show (Tryd.prog.globals[0]?).map (·.type) = some 69 by kernel_rfl).symm.trans ht4)
    have hcs := Lib.cells_of_tab Tryd.underlying69 Tryd.underlying57 (by kernel_rfl) (by kernel_rfl) hd4
    have hcell : ∀ r, r < 128 → W.cell? ⟨0, r, none⟩ = some (.int .u8 (cl (UInt8.ofNat r) : Int)) := by
      intro r hr
      rw [World.var?_cell hg4 hv4 r, ← Array.getElem?_toList, hcs]
      simp [hr]
    exact ⟨World.block_lt_of_cell? W _ (hcell 0 (by omega)), hcell⟩
  · have hty : (Tryd.prog.globalNamed "internal/strconv.uint64pow10").bind (fun g => (Tryd.prog.globals[g]?).map (·.type)) = some 83 := by kernel_rfl
    rw [hg3] at hty
    have hty2 : (Tryd.prog.globals[g3]?).map (·.type) = some 83 := hty
    obtain rfl := Option.some.inj (ht3.symm.trans hty2)
    have hcs := Lib.cells_of_tab Tryd.underlying83 Tryd.underlying76 (by kernel_rfl) (by kernel_rfl) hd3
    show W.var? Tryd.prog "internal/strconv.uint64pow10" = _
    rw [hv3, ← hcs]

section
variable {H : Type} {enc : TypeId × Value → H}

theorem trodAll_stays {W W' : World} (hb : Below W.heap.size W W') : ∀ {ts : List TypeId} {vs : List Value} {ds : List (DataW H)} {ps : List MemPlace}, (∀ t ∈ ts, Tryd.prog.readableRec t = true ∧ t < Tryd.prog.types.size) →
    DataW.TrodAll enc Tryd.prog W 0 (fun _ => true) true ts vs ds ps → (∀ p ∈ ps, p.block < W.heap.size) → ∀ sp : Nat → Bool, (∀ p ∈ ps, sp p.block = true) → DataW.TrodAll enc Tryd.prog W' 0 sp true ts vs ds ps
  | [], [], [], _, _, h, _, _, _ => h
  | t :: ts, v :: vs, d :: ds, ps, hts, ⟨p, q, h1, h2, e⟩, hlt, sp, hsp => by
    subst e
    refine ⟨p, q, Trod_stays laid_out (hts t (by simp)).1 (hts t (by simp)).2 h1 (fun x hx => hb.same (hlt x (by simp [hx]))) (fun x hx => hsp x (by simp [hx])), ?_, rfl⟩
    exact trodAll_stays hb (fun u hu => hts u (by simp [hu])) h2 (fun x hx => hlt x (by simp [hx])) sp (fun x hx => hsp x (by simp [hx]))

/-- The row's last step: the law has answered true, and nothing old has turned. -/
theorem post_true {f : Func} {s : ChangeSpec} {W W' : World} {args : Array Value} {ds : List (DataW H)} {before : List MemPlace}
    (hW : DataW.Whole enc Tryd.prog f.params.toList s.vars false W args.toList ds [] before) (hA : DataW.TrodAll enc Tryd.prog W 0 (fun _ => true) true f.params.toList args.toList ds before)
    (hts : ∀ t ∈ f.params.toList, Tryd.prog.readableRec t = true ∧ t < Tryd.prog.types.size) (hb : Below W.heap.size W W')
    (hf : f.resultTypes = #[4]) (hv : s.vars = []) (hs : s.fn H ds = { results := [.lit (.bool true)], args := ds }) :
    s.post enc Tryd.prog f false true false false W args (.bool true) W' := by
  have hlt : ∀ p ∈ before, p.block < W.heap.size := fun p hp => hW.lt p hp
  have hold : ∀ p ∈ before, (fun b => decide (b < W.heap.size)) p.block = true := fun p hp => by simpa using hlt p hp
  refine ⟨ds, [], before, [], before, [], hW, ?_, ?_, ?_, ?_, fun h => by cases h⟩
  · rw [List.append_nil, hs, hf]
    exact trodAll_cons_mk (shut_bool Tryd.underlying4 _) trodAll_mk0
  · rw [List.append_nil, hs]
    exact trodAll_stays hb hts hA hlt _ hold
  · rw [List.append_nil, hs, hv]
    rfl
  · exact World.keptBut_mono (fun p hp => ⟨hp, .inr (.inl hp)⟩) (hb.frame (· ∈ before))

/-- A string that has been read. -/
theorem str_arg {W : World} {r : Reach} {base : Nat} {v : Value} {d : DataW H} {p : List MemPlace} (hv : Value.okWide Tryd.prog W r base 9 v) (h : DataW.Trod enc Tryd.prog W 0 (fun _ => true) true 9 v d p) : ∃ l : List UInt8, v = .string (bs l) ∧ l.length ≤ 9223372036854775807 := by
  obtain ⟨s, rfl⟩ := okWide_string Tryd.underlying9 hv
  obtain ⟨fuel, hf⟩ := h
  obtain ⟨s', e, _, hs⟩ := DataW.trod_string Tryd.underlying9 hf
  simp only [Value.cells, List.cons.injEq, and_true] at e
  injection e with e
  subst e
  refine ⟨s.data.toList, congrArg Value.string (ByteArray.ext (Array.toArray_toList).symm), ?_⟩
  have : s.data.toList.length = s.size := Array.length_toList
  rw [this]
  unfold maxLen at hs
  exact hs
/-- A string that has been read, with its datum. -/
theorem str_dat {W : World} {r : Reach} {base : Nat} {v : Value} {d : DataW H} {p : List MemPlace} (hv : Value.okWide Tryd.prog W r base 9 v) (h : DataW.Trod enc Tryd.prog W 0 (fun _ => true) true 9 v d p) : ∃ l : List UInt8, v = .string (bs l) ∧ d = .lit (.string l) ∧ l.length ≤ 9223372036854775807 := by
  obtain ⟨s, rfl⟩ := okWide_string Tryd.underlying9 hv
  obtain ⟨fuel, hf⟩ := h
  obtain ⟨s', e, ex, hs⟩ := DataW.trod_string Tryd.underlying9 hf
  simp only [Value.cells, List.cons.injEq, and_true] at e
  injection e with e
  subst e
  refine ⟨s.data.toList, congrArg Value.string (ByteArray.ext (Array.toArray_toList).symm), (Prod.mk.inj ex).1, ?_⟩
  have : s.data.toList.length = s.size := Array.length_toList
  rw [this]
  unfold maxLen at hs
  exact hs
theorem str_sized {ts : List TypeId} {ds : List (DataW H)} (h : (DataW.weightsEach Tryd.prog ts ds).all (· ≤ reachBytes) = true) (j : Nat) {t : TypeId} {l : List UInt8} (ht : ts[j]? = some t) (hd : ds[j]? = some (.lit (.string l))) : l.length ≤ 140737488355328 := by
  have h1 := sized_string h ht hd
  have h2 := reachBytes_lt
  omega
end
def okTypes (ts : List TypeId) : Bool := ts.all fun t => t == 9 || t == 23 || t == 39
theorem types_ok {ts : List TypeId} (h : okTypes ts = true) : ∀ t ∈ ts, Tryd.prog.readableRec t = true ∧ t < Tryd.prog.types.size := by
  intro t ht
  have := List.all_eq_true.1 h t ht
  simp only [Bool.or_eq_true, beq_iff_eq] at this
  have hs := types_size
  rcases this with (h1 | h1) | h1
  · rw [h1]; exact ⟨read_str, Nat.lt_of_lt_of_le (by decide) hs⟩
  · rw [h1]; exact ⟨read_tks, Nat.lt_of_lt_of_le (by decide) hs⟩
  · rw [h1]; exact ⟨read_bytes, Nat.lt_of_lt_of_le (by decide) hs⟩
end Go.Proofs.YticepaljociefaaDoor
