/- From the reading of arguments and of the table to the laws' premises, and back. -/
import Derived.Test.YtjkojjimlebmjaaDoorRows
import Derived.Test.YtjkojjimlebmjaaDoorSeen
import Derived.Test.YtjkojjimlebmjaaDoorCollL
import Derived.LaidMore
import Derived.OpenShut
import Derived.Stop.Joined
import Derived.ProofKit
import Derived.Deep.Slices
import Derived.Lib.SmallJoins
import Derived.Deep.Fields
import Derived.ReadAgain
namespace Go.Proofs.YtjkojjimlebmjaaDoor
open Go.ChangeShapes Go.WideShapes Go.ChangeAt Go.RowKit Go.WideElems Go.Deep
set_option linter.unusedVariables false

theorem own_knob : ownKnob Tryd.prog.godebug = none := by kernel_rfl
theorem laid_out : laidOutB Tryd.prog = true := by kernel_rfl
theorem read_bytes : Tryd.prog.readableRec 23 = true := by kernel_rfl
theorem read_int : Tryd.prog.readableRec 3 = true := by kernel_rfl
theorem read_u8 : Tryd.prog.readableRec 5 = true := by kernel_rfl
theorem types_size : 80 ≤ Tryd.prog.types.size := of_decide_eq_true (by kernel_rfl)
theorem cells_share : Tryd.prog.cellsOf 36 = 5 := by kernel_rfl
theorem read_shares : Tryd.prog.readableRec 22 = true := by kernel_rfl
theorem cells_bytes : Tryd.prog.cellsOf 23 = 1 := by kernel_rfl
theorem read_rows : Tryd.prog.readableRec 41 = true := by kernel_rfl
theorem cells_u8 : Tryd.prog.cellsOf 5 = 1 := by kernel_rfl

/-- The listed variable, as the rows list it. -/
def laidK : List (String × DataW Unit) := [("gridwright/field.remainders", Rows.laid_gridwright_field_remainders)]
theorem laid_rm : (Rows.laid_gridwright_field_remainders : DataW Unit) = .agg ((List.range 16).map fun i => .lit (.int .u8 (rm i : Int))) := by kernel_rfl

/-- What the tie gives the walks: the table. -/
theorem kt_of_laid {W : World} (h : laidMetH Tryd.prog laidK W) : KT W := by
  rw [MakeChecks.laidMetH_plain _ _ _ (by kernel_rfl)] at h
  obtain ⟨ps, ⟨g, t, cs, fuel, p, q, hg, ht, hv, hd, _, _⟩, _, _⟩ := h
  obtain rfl := Option.some.inj ((show Tryd.prog.globalNamed "gridwright/field.remainders" = some 0 by kernel_rfl).symm.trans hg)
  obtain rfl := Option.some.inj ((show (Tryd.prog.globals[0]?).map (·.type) = some 77 by kernel_rfl).symm.trans ht)
  obtain ⟨xs, m, _, ex, _, hl, hel⟩ := DataW.trod_array Tryd.underlying77 hd
  have e3 : (xs.map (·.1)) = (List.range 16).map fun i => (DataW.lit (.int .u8 (rm i : Int)) : DataW Unit) := by
    have := (Prod.mk.inj ex).1
    rw [laid_rm] at this
    exact (DataW.agg.inj this).symm
  have hcell : ∀ r, r < 16 → W.cell? ⟨0, r, none⟩ = some (.int .u8 (rm r : Int)) := by
    intro r hr
    have hE := hel r hr
    rw [cells_u8, Nat.mul_one, List.getElem?_eq_getElem (by omega)] at hE
    obtain ⟨z, e1, e2, _⟩ := DataW.trod_int Tryd.underlying5 hE
    have e4 : (xs.map (·.1))[r]? = ((List.range 16).map fun i => (DataW.lit (.int .u8 (rm i : Int)) : DataW Unit))[r]? := by rw [e3]
    rw [List.getElem?_map, List.getElem?_map, List.getElem?_eq_getElem (by omega : r < xs.length), e2, List.getElem?_range hr] at e4
    have hz : z = (rm r : Int) := by simpa using e4
    rw [World.var?_cell hg hv r, ← hz]
    have : cs.toList[r]? = some (.int .u8 z) := by
      have h0 : ((cs.toList.drop r).take 1)[0]? = some (.int .u8 z) := by rw [e1]; rfl
      simpa using h0
    simpa using this
  exact ⟨by have := World.block_lt_of_cell? W _ (hcell 0 (by omega)); exact this, hcell⟩

section
variable {H : Type} {enc : TypeId × Value → H}

theorem trodAll_stays {W W' : World} (hb : Below W.heap.size W W') : ∀ {ts : List TypeId} {vs : List Value} {ds : List (DataW H)} {ps : List MemPlace}, (∀ t ∈ ts, Tryd.prog.readableRec t = true ∧ t < Tryd.prog.types.size) →
    DataW.TrodAll enc Tryd.prog W 0 (fun _ => true) true ts vs ds ps → (∀ p ∈ ps, p.block < W.heap.size) → ∀ sp : Nat → Bool, (∀ p ∈ ps, sp p.block = true) → DataW.TrodAll enc Tryd.prog W' 0 sp true ts vs ds ps
  | [], [], [], _, _, h, _, _, _ => h
  | t :: ts, v :: vs, d :: ds, ps, hts, ⟨p, q, h1, h2, e⟩, hlt, sp, hsp => by
    subst e
    refine ⟨p, q, Trod_stays laid_out (hts t (by simp)).1 (hts t (by simp)).2 h1 (fun x hx => hb.same (hlt x (by simp [hx]))) (fun x hx => hsp x (by simp [hx])), ?_, rfl⟩
    exact trodAll_stays hb (fun u hu => hts u (by simp [hu])) h2 (fun x hx => hlt x (by simp [hx])) sp (fun x hx => hsp x (by simp [hx]))

/-- The row's last step: the law has answered true, and nothing old has turned. -/
theorem post_true {f : Func} {s : ChangeSpec} {W W' : World} {args : Array Value} {ds : List (DataW H)} {before : List MemPlace}
    (hW : DataW.Whole enc Tryd.prog f.params.toList s.vars false W args.toList ds [] before) (hA : DataW.TrodAll enc Tryd.prog W 0 (fun _ => true) true f.params.toList args.toList ds before)
    (hts : ∀ t ∈ f.params.toList, Tryd.prog.readableRec t = true ∧ t < Tryd.prog.types.size) (hb : Below W.heap.size W W')
    (hf : f.resultTypes = #[4]) (hv : s.vars = []) (hs : s.fn H ds = { results := [.lit (.bool true)], args := ds }) :
    s.post enc Tryd.prog f false true false false W args (.bool true) W' := by
  have hlt : ∀ p ∈ before, p.block < W.heap.size := fun p hp => hW.lt p hp
  have hold : ∀ p ∈ before, (fun b => decide (b < W.heap.size)) p.block = true := fun p hp => by simpa using hlt p hp
  refine ⟨ds, [], before, [], before, [], hW, ?_, ?_, ?_, ?_, fun h => by cases h⟩
  · rw [List.append_nil, hs, hf]
    exact trodAll_cons_mk (shut_bool Tryd.underlying4 _) trodAll_mk0
  · rw [List.append_nil, hs]
    exact trodAll_stays hb hts hA hlt _ hold
  · rw [List.append_nil, hs, hv]
    rfl
  · exact World.keptBut_mono (fun p hp => ⟨hp, .inr (.inl hp)⟩) (hb.frame (· ∈ before))

/-- A slice that has been read, element by element. -/
theorem elems_of {α : Type} [Inhabited α] {W : World} {t e : TypeId} {k : Nat} (hu : Tryd.prog.underlying t = some (.slice e)) (hC : Tryd.prog.cellsOf e = k) (hk : 0 < k) (At : World → Nat → Nat → α → Prop)
    (hel : ∀ (fuel : Nat) (cs : List Value) (x : DataW H × List MemPlace), cs.length = k → DataW.trod enc Tryd.prog W 0 (fun _ => true) true fuel e cs = some x → ∃ y : α, ∀ b off, (∀ j u, cs[j]? = some u → W.cell? ⟨b, off + j, none⟩ = some u) → At W b off y)
    {fuel : Nat} {v : Value} {x : DataW H × List MemPlace} (h : DataW.trod enc Tryd.prog W 0 (fun _ => true) true fuel t [v] = some x) :
    ∃ A l c, v = .slice A l.length c ∧ (0 < l.length → ∃ b off, A = some ⟨b, off, none⟩ ∧ b < W.heap.size ∧ ∀ i s, l[i]? = some s → At W b (off + i * k) s) ∧ l.length ≤ c ∧ c ≤ maxLen ∧ (A = none → l = [] ∧ c = 0) := by
  rcases DataW.trod_slice hu h with ⟨hcs, _⟩ | ⟨a, len, cap, elems, rest, n, _, hcs, _, _, hlc, hcm, hel2, hat, _⟩
  · simp only [List.cons.injEq, and_true] at hcs
    exact ⟨none, [], 0, hcs, fun h => absurd h (by simp), by simp, Nat.zero_le _, fun _ => ⟨rfl, rfl⟩⟩
  · simp only [List.cons.injEq, and_true] at hcs
    have hcell : ∀ i, i < len → ∃ (cs' : List Value) (x' : DataW H × List MemPlace), cs'.length = k ∧ (∀ j u, cs'[j]? = some u → W.cell? ((a.add (i * k)).add j) = some u) ∧ DataW.trod enc Tryd.prog W 0 (fun _ => true) true n e cs' = some x' := by
      intro i hi
      have hx := hat i hi
      rw [List.getElem?_eq_getElem (by omega), hC] at hx
      obtain ⟨cs', hc, ht⟩ := Option.bind_eq_some_iff.1 hx
      obtain ⟨_, h2, h3⟩ := World.cells?_some hc
      refine ⟨cs', _, h2, fun j u hu => ?_, ht⟩
      have hj : j < k := by
        have := (List.getElem?_eq_some_iff.1 hu).1
        omega
      rw [h3 j hj, hu]
    have hspot : 0 < len → a.spot = none ∧ a.block < W.heap.size := by
      intro hl
      obtain ⟨cs', x', h1, h2, _⟩ := hcell 0 hl
      have h0 := h2 0 _ (List.getElem?_eq_getElem (by omega))
      have e1 : (a.add (0 * k)).add 0 = a := by simp [Addr.add]
      rw [e1] at h0
      refine ⟨?_, World.block_lt_of_cell? W _ h0⟩
      unfold World.cell? at h0
      split at h0
      · split at h0
        · cases h0
        · rename_i hs
          simpa using hs
      · cases h0
    have hex : ∀ i, ∃ y : α, i < len → ∀ b off, a = ⟨b, off, none⟩ → At W b (off + i * k) y := by
      intro i
      by_cases hi : i < len
      · obtain ⟨cs', x', h1, h2, h3⟩ := hcell i hi
        obtain ⟨y, hy⟩ := hel _ _ _ h1 h3
        refine ⟨y, fun _ b off e => hy b _ fun j u hu => ?_⟩
        have := h2 j u hu
        rw [e, add_off, add_off] at this
        exact this
      · exact ⟨default, fun h => absurd h hi⟩
    obtain ⟨F, hF⟩ : ∃ F : Nat → α, ∀ i, i < len → ∀ b off, a = ⟨b, off, none⟩ → At W b (off + i * k) (F i) := ⟨fun i => Classical.choose (hex i), fun i => Classical.choose_spec (hex i)⟩
    refine ⟨some a, (List.range len).map F, cap, by simp [hcs], fun hl => ?_, by simpa using hlc, hcm, fun h => by cases h⟩
    simp only [List.length_map, List.length_range] at hl
    obtain ⟨hs1, hs2⟩ := hspot hl
    obtain ⟨b, off, spot⟩ := a
    simp only at hs1
    subst hs1
    refine ⟨b, off, rfl, hs2, fun i s hi => ?_⟩
    have hj : i < len := by
      have := (List.getElem?_eq_some_iff.1 hi).1
      simpa using this
    simp [hj] at hi
    rw [← hi]
    exact hF i hj b off rfl

theorem bytes_of {W : World} {fuel : Nat} {v : Value} {x : DataW H × List MemPlace} (h : DataW.trod enc Tryd.prog W 0 (fun _ => true) true fuel 23 [v] = some x) : ∃ A l c, v = .slice A l.length c ∧ Sl W A l c := by
  obtain ⟨A, l, c, rfl, h1, h2, h3, h4⟩ := elems_of (α := UInt8) Tryd.underlying23 cells_u8 (by decide) (fun W b off y => W.cell? ⟨b, off, none⟩ = some (bv y)) (fun fuel cs x hl ht => by
    obtain ⟨m, rfl, _, hw⟩ := DataW.trod_int Tryd.underlying5 ht
    have hm : 0 ≤ m ∧ m ≤ 255 := by simpa [Lit.wf, IntKind.min, IntKind.max, IntKind.signed, IntKind.bits] using hw
    have hbv : bv (UInt8.ofNat m.toNat) = .int .u8 m := by
      unfold bv
      congr 1
      rw [UInt8.toNat_ofNat']
      omega
    exact ⟨UInt8.ofNat m.toNat, fun b off hc => by rw [hbv]; exact hc 0 _ rfl⟩) h
  refine ⟨A, l, c, rfl, fun hp => ?_, h2, h3, h4⟩
  obtain ⟨b, off, e, hb, hat⟩ := h1 hp
  exact ⟨b, off, e, hb, fun j u hu => by have := hat j u hu; rw [Nat.mul_one] at this; exact this⟩
theorem rows_of {W : World} {fuel : Nat} {v : Value} {x : DataW H × List MemPlace} (h : DataW.trod enc Tryd.prog W 0 (fun _ => true) true fuel 41 [v] = some x) : ∃ A l c, v = .slice A l.length c ∧ RR W A l c := by
  obtain ⟨A, l, c, rfl, h1, h2, h3, h4⟩ := elems_of (α := List UInt8) Tryd.underlying41 cells_bytes (by decide) RwAt (fun fuel cs x hl ht => by
    match cs, hl with
    | [v], _ =>
      obtain ⟨A, l, c, rfl, hs⟩ := bytes_of ht
      exact ⟨l, fun b off hc => ⟨A, c, hc 0 _ rfl, hs⟩⟩) h
  refine ⟨A, l, c, rfl, fun hp => ?_, h2, h3, h4⟩
  obtain ⟨b, off, e, hb, hat⟩ := h1 hp
  exact ⟨b, off, e, hb, fun j u hu => by have := hat j u hu; rw [Nat.mul_one] at this; exact this⟩
instance : Inhabited Shr := ⟨⟨0, 0, 0, 0, []⟩⟩
theorem shares_of {W : World} {fuel : Nat} {v : Value} {x : DataW H × List MemPlace} (h : DataW.trod enc Tryd.prog W 0 (fun _ => true) true fuel 22 [v] = some x) : ∃ A l c, v = .slice A l.length c ∧ SS W A l c := by
  obtain ⟨A, l, c, rfl, h1, h2, h3, h4⟩ := elems_of (α := Shr) Tryd.underlying22 cells_share (by decide) ShAt (fun fuel cs x hl ht => by
    obtain ⟨xs, n, hn, _, hlen, hxl, hf⟩ := DataW.trod_struct Tryd.underlying36 ht
    match cs, hl with
    | [c0, c1, c2, c3, c4], _ =>
      have hg : ∀ (i : Nat) (hi : i < 5), ∃ y, xs[i]? = some y := fun i hi => ⟨_, List.getElem?_eq_getElem (by rw [hxl]; exact hi)⟩
      obtain ⟨y0, g0⟩ := hg 0 (by omega)
      obtain ⟨y1, g1⟩ := hg 1 (by omega)
      obtain ⟨y2, g2⟩ := hg 2 (by omega)
      obtain ⟨y3, g3⟩ := hg 3 (by omega)
      obtain ⟨y4, g4⟩ := hg 4 (by omega)
      have k3 : Tryd.prog.cellsOf 3 = 1 := by kernel_rfl
      have f0 : DataW.trod enc Tryd.prog W 0 (fun _ => true) true n 3 [c0] = some y0 := by have := (hf 0 _ rfl).trans g0; simpa [k3] using this
      have f1 : DataW.trod enc Tryd.prog W 0 (fun _ => true) true n 3 [c1] = some y1 := by have := (hf 1 _ rfl).trans g1; simpa [k3] using this
      have f2 : DataW.trod enc Tryd.prog W 0 (fun _ => true) true n 3 [c2] = some y2 := by have := (hf 2 _ rfl).trans g2; simpa [k3] using this
      have f3 : DataW.trod enc Tryd.prog W 0 (fun _ => true) true n 3 [c3] = some y3 := by have := (hf 3 _ rfl).trans g3; simpa [k3] using this
      have f4 : DataW.trod enc Tryd.prog W 0 (fun _ => true) true n 23 [c4] = some y4 := by have := (hf 4 _ rfl).trans g4; simpa [cells_bytes, k3] using this
      obtain ⟨n0, e0, _⟩ := DataW.trod_int Tryd.underlying3 f0
      obtain ⟨n1, e1, _⟩ := DataW.trod_int Tryd.underlying3 f1
      obtain ⟨n2, e2, _⟩ := DataW.trod_int Tryd.underlying3 f2
      obtain ⟨n3, e3, _⟩ := DataW.trod_int Tryd.underlying3 f3
      simp only [List.cons.injEq, and_true] at e0 e1 e2 e3
      subst e0 e1 e2 e3
      obtain ⟨A, l, c, rfl, hs⟩ := bytes_of f4
      exact ⟨⟨n0, n1, n2, n3, l⟩, fun b off hc => ⟨A, c, hc 0 _ rfl, hc 1 _ rfl, hc 2 _ rfl, hc 3 _ rfl, hc 4 _ rfl, hs⟩⟩) h
  exact ⟨A, l, c, rfl, h1, h2, h3, h4⟩
/-- Bytes that have been read. -/
theorem bytes_arg {W : World} {r : Reach} {base : Nat} {v : Value} {d : DataW H} {p : List MemPlace} (hv : Value.okWide Tryd.prog W r base 23 v) (h : DataW.Trod enc Tryd.prog W 0 (fun _ => true) true 23 v d p) :
    ∃ A l c, v = .slice A l.length c ∧ Sl W A l c := by
  obtain ⟨a0, len0, cap0, rfl⟩ := okWide_slice Tryd.underlying23 hv
  obtain ⟨fuel, hf⟩ := h
  exact bytes_of hf
theorem shares_arg {W : World} {r : Reach} {base : Nat} {v : Value} {d : DataW H} {p : List MemPlace} (hv : Value.okWide Tryd.prog W r base 22 v) (h : DataW.Trod enc Tryd.prog W 0 (fun _ => true) true 22 v d p) :
    ∃ A l c, v = .slice A l.length c ∧ SS W A l c := by
  obtain ⟨a0, len0, cap0, rfl⟩ := okWide_slice Tryd.underlying22 hv
  obtain ⟨fuel, hf⟩ := h
  exact shares_of hf
theorem rows_arg {W : World} {r : Reach} {base : Nat} {v : Value} {d : DataW H} {p : List MemPlace} (hv : Value.okWide Tryd.prog W r base 41 v) (h : DataW.Trod enc Tryd.prog W 0 (fun _ => true) true 41 v d p) :
    ∃ A l c, v = .slice A l.length c ∧ RR W A l c := by
  obtain ⟨a0, len0, cap0, rfl⟩ := okWide_slice Tryd.underlying41 hv
  obtain ⟨fuel, hf⟩ := h
  exact rows_of hf
end
/-- A byte that has been read. -/
theorem byte_wf {n : Int} (h : (Lit.int .u8 n).wf = true) : ∃ b : UInt8, Value.int .u8 n = bv b := by
  have hm : 0 ≤ n ∧ n ≤ 255 := by simpa [Lit.wf, IntKind.min, IntKind.max, IntKind.signed, IntKind.bits] using h
  refine ⟨UInt8.ofNat n.toNat, ?_⟩
  unfold bv
  congr 1
  rw [UInt8.toNat_ofNat']
  omega
/-- The types of the laws' parameters. -/
def okTypes (ts : List TypeId) : Bool := ts.all fun t => t == 23 || t == 5 || t == 3 || t == 41 || t == 22
theorem types_ok {ts : List TypeId} (h : okTypes ts = true) : ∀ t ∈ ts, Tryd.prog.readableRec t = true ∧ t < Tryd.prog.types.size := by
  intro t ht
  have := List.all_eq_true.1 h t ht
  simp only [Bool.or_eq_true, beq_iff_eq] at this
  have hs := types_size
  rcases this with (((h1 | h1) | h1) | h1) | h1
  · rw [h1]; exact ⟨read_bytes, Nat.lt_of_lt_of_le (by decide) hs⟩
  · rw [h1]; exact ⟨read_u8, Nat.lt_of_lt_of_le (by decide) hs⟩
  · rw [h1]; exact ⟨read_int, Nat.lt_of_lt_of_le (by decide) hs⟩
  · rw [h1]; exact ⟨read_rows, Nat.lt_of_lt_of_le (by decide) hs⟩
  · rw [h1]; exact ⟨read_shares, Nat.lt_of_lt_of_le (by decide) hs⟩
end Go.Proofs.YtjkojjimlebmjaaDoor
