/- From the reading of arguments to the values of the laws, and back. -/
import Derived.Test.YtobchecnfkocdaaRows
import Derived.Test.YtobchecnfkocdaaRi
import Derived.Deep.Slices
import Derived.WalkKit
import Derived.ProofKit
import Derived.OpenShut
import Derived.Lib.SmallJoins
import Derived.Deep.Fields
import Derived.ReadAgain
namespace Go.Proofs.Ytobchecnfkocdaa
open Go.ChangeShapes Go.WideShapes Go.ChangeAt Go.RowKit Go.WideElems Go.Deep Go.Joins
set_option linter.unusedVariables false

theorem own_knob : ownKnob Try.prog.godebug = none := by kernel_rfl
theorem laid_out : laidOutB Try.prog = true := by kernel_rfl
theorem read_ints : Try.prog.readableRec 22 = true := by kernel_rfl
theorem read_rows : Try.prog.readableRec 31 = true := by kernel_rfl
theorem read_int : Try.prog.readableRec 3 = true := by kernel_rfl
theorem read_u8 : Try.prog.readableRec 5 = true := by kernel_rfl
theorem types_size : 32 ≤ Try.prog.types.size := of_decide_eq_true (by kernel_rfl)
theorem cells_int : Try.prog.cellsOf 3 = 1 := by kernel_rfl
theorem cells_ints : Try.prog.cellsOf 22 = 1 := by kernel_rfl

section
variable {H : Type} {enc : TypeId × Value → H}

theorem trodAll_stays {W W' : World} (hb : Below W.heap.size W W') : ∀ {ts : List TypeId} {vs : List Value} {ds : List (DataW H)} {ps : List MemPlace}, (∀ t ∈ ts, Try.prog.readableRec t = true ∧ t < Try.prog.types.size) →
    DataW.TrodAll enc Try.prog W 0 (fun _ => true) true ts vs ds ps → (∀ p ∈ ps, p.block < W.heap.size) → ∀ sp : Nat → Bool, (∀ p ∈ ps, sp p.block = true) → DataW.TrodAll enc Try.prog W' 0 sp true ts vs ds ps
  | [], [], [], _, _, h, _, _, _ => h
  | t :: ts, v :: vs, d :: ds, ps, hts, ⟨p, q, h1, h2, e⟩, hlt, sp, hsp => by
    subst e
    refine ⟨p, q, Trod_stays laid_out (hts t (by simp)).1 (hts t (by simp)).2 h1 (fun x hx => hb.same (hlt x (by simp [hx]))) (fun x hx => hsp x (by simp [hx])), ?_, rfl⟩
    exact trodAll_stays hb (fun u hu => hts u (by simp [hu])) h2 (fun x hx => hlt x (by simp [hx])) sp (fun x hx => hsp x (by simp [hx]))

/-- The row's last step: the law has answered true, and nothing old has turned. -/
theorem post_true {f : Func} {s : ChangeSpec} {W W' : World} {args : Array Value} {ds : List (DataW H)} {before : List MemPlace}
    (hW : DataW.Whole enc Try.prog f.params.toList s.vars false W args.toList ds [] before) (hA : DataW.TrodAll enc Try.prog W 0 (fun _ => true) true f.params.toList args.toList ds before)
    (hts : ∀ t ∈ f.params.toList, Try.prog.readableRec t = true ∧ t < Try.prog.types.size) (hb : Below W.heap.size W W')
    (hf : f.resultTypes = #[4]) (hv : s.vars = []) (hs : s.fn H ds = { results := [.lit (.bool true)], args := ds }) :
    s.post enc Try.prog f false true false false W args (.bool true) W' := by
  have hlt : ∀ p ∈ before, p.block < W.heap.size := fun p hp => hW.lt p hp
  have hold : ∀ p ∈ before, (fun b => decide (b < W.heap.size)) p.block = true := fun p hp => by simpa using hlt p hp
  refine ⟨ds, [], before, [], before, [], hW, ?_, ?_, ?_, ?_, fun h => by cases h⟩
  · rw [List.append_nil, hs, hf]
    exact trodAll_cons_mk (shut_bool Try.underlying4 _) trodAll_mk0
  · rw [List.append_nil, hs]
    exact trodAll_stays hb hts hA hlt _ hold
  · rw [List.append_nil, hs, hv]
    rfl
  · exact World.keptBut_mono (fun p hp => ⟨hp, .inr (.inl hp)⟩) (hb.frame (· ∈ before))

/-- A slice that has been read, element by element. -/
theorem elems_of {α : Type} [Inhabited α] {W : World} {t e : TypeId} {k : Nat} (hu : Try.prog.underlying t = some (.slice e)) (hC : Try.prog.cellsOf e = k) (hk : 0 < k) (At : World → Nat → Nat → α → Prop)
    (hel : ∀ (fuel : Nat) (cs : List Value) (x : DataW H × List MemPlace), cs.length = k → DataW.trod enc Try.prog W 0 (fun _ => true) true fuel e cs = some x → ∃ y : α, ∀ b off, (∀ j u, cs[j]? = some u → W.cell? ⟨b, off + j, none⟩ = some u) → At W b off y)
    {fuel : Nat} {v : Value} {x : DataW H × List MemPlace} (h : DataW.trod enc Try.prog W 0 (fun _ => true) true fuel t [v] = some x) :
    ∃ A l c, v = .slice A l.length c ∧ (0 < l.length → ∃ b off, A = some ⟨b, off, none⟩ ∧ b < W.heap.size ∧ ∀ i s, l[i]? = some s → At W b (off + i * k) s) ∧ l.length ≤ c ∧ c ≤ maxLen ∧ (A = none → l = [] ∧ c = 0) := by
  rcases DataW.trod_slice hu h with ⟨hcs, _⟩ | ⟨a, len, cap, elems, rest, n, _, hcs, _, _, hlc, hcm, hel2, hat, _⟩
  · simp only [List.cons.injEq, and_true] at hcs
    exact ⟨none, [], 0, hcs, fun h => absurd h (by simp), by simp, Nat.zero_le _, fun _ => ⟨rfl, rfl⟩⟩
  · simp only [List.cons.injEq, and_true] at hcs
    have hcell : ∀ i, i < len → ∃ (cs' : List Value) (x' : DataW H × List MemPlace), cs'.length = k ∧ (∀ j u, cs'[j]? = some u → W.cell? ((a.add (i * k)).add j) = some u) ∧ DataW.trod enc Try.prog W 0 (fun _ => true) true n e cs' = some x' := by
      intro i hi
      have hx := hat i hi
      rw [List.getElem?_eq_getElem (by omega), hC] at hx
      obtain ⟨cs', hc, ht⟩ := Option.bind_eq_some_iff.1 hx
      obtain ⟨_, h2, h3⟩ := World.cells?_some hc
      refine ⟨cs', _, h2, fun j u hu => ?_, ht⟩
      have hj : j < k := by
        have := (List.getElem?_eq_some_iff.1 hu).1
        omega
      rw [h3 j hj, hu]
    have hspot : 0 < len → a.spot = none ∧ a.block < W.heap.size := by
      intro hl
      obtain ⟨cs', x', h1, h2, _⟩ := hcell 0 hl
      have h0 := h2 0 _ (List.getElem?_eq_getElem (by omega))
      have e1 : (a.add (0 * k)).add 0 = a := by simp [Addr.add]
      rw [e1] at h0
      refine ⟨?_, World.block_lt_of_cell? W _ h0⟩
      unfold World.cell? at h0
      split at h0
      · split at h0
        · cases h0
        · rename_i hs
          simpa using hs
      · cases h0
    have hex : ∀ i, ∃ y : α, i < len → ∀ b off, a = ⟨b, off, none⟩ → At W b (off + i * k) y := by
      intro i
      by_cases hi : i < len
      · obtain ⟨cs', x', h1, h2, h3⟩ := hcell i hi
        obtain ⟨y, hy⟩ := hel _ _ _ h1 h3
        refine ⟨y, fun _ b off e => hy b _ fun j u hu => ?_⟩
        have := h2 j u hu
        rw [e, add_off, add_off] at this
        exact this
      · exact ⟨default, fun h => absurd h hi⟩
    obtain ⟨F, hF⟩ : ∃ F : Nat → α, ∀ i, i < len → ∀ b off, a = ⟨b, off, none⟩ → At W b (off + i * k) (F i) := ⟨fun i => Classical.choose (hex i), fun i => Classical.choose_spec (hex i)⟩
    refine ⟨some a, (List.range len).map F, cap, by simp [hcs], fun hl => ?_, by simpa using hlc, hcm, fun h => by cases h⟩
    simp only [List.length_map, List.length_range] at hl
    obtain ⟨hs1, hs2⟩ := hspot hl
    obtain ⟨b, off, spot⟩ := a
    simp only at hs1
    subst hs1
    refine ⟨b, off, rfl, hs2, fun i s hi => ?_⟩
    have hj : i < len := by
      have := (List.getElem?_eq_some_iff.1 hi).1
      simpa using this
    simp [hj] at hi
    rw [← hi]
    exact hF i hj b off rfl

/-- A list of numbers that has been read. -/
theorem ints_of {W : World} {fuel : Nat} {v : Value} {x : DataW H × List MemPlace} (h : DataW.trod enc Try.prog W 0 (fun _ => true) true fuel 22 [v] = some x) : ∃ (A : Option Addr) (l : List Int) (c : Nat), v = .slice A l.length c ∧ Si W A l c := by
  obtain ⟨A, l, c, rfl, h1, h2, h3, h4⟩ := elems_of (α := Int) Try.underlying22 cells_int (by decide) (fun W b off y => W.cell? ⟨b, off, none⟩ = some (.int .i64 y)) (fun fuel cs x hl ht => by
    obtain ⟨m, rfl, _, _⟩ := DataW.trod_int Try.underlying3 ht
    exact ⟨m, fun b off hc => hc 0 _ rfl⟩) h
  refine ⟨A, l, c, rfl, fun hp => ?_, by rw [List.length_map]; exact h2, h3, fun e => ?_⟩
  · rw [List.length_map] at hp
    obtain ⟨b, off, e, hb, hat⟩ := h1 hp
    refine ⟨b, off, e, hb, fun j u hu => ?_⟩
    rw [List.getElem?_map] at hu
    cases hx : l[j]? with
    | none => rw [hx] at hu; cases hu
    | some y =>
      rw [hx] at hu
      injection hu with hu
      subst hu
      have := hat j y hx
      rw [Nat.mul_one] at this
      exact this
  · obtain ⟨e1, e2⟩ := h4 e
    exact ⟨by rw [e1]; rfl, e2⟩
/-- A list of lists of numbers. -/
theorem rows_of {W : World} {fuel : Nat} {v : Value} {x : DataW H × List MemPlace} (h : DataW.trod enc Try.prog W 0 (fun _ => true) true fuel 31 [v] = some x) : ∃ (A : Option Addr) (l : List (List Int)) (c : Nat), v = .slice A l.length c ∧ RI W A l c := by
  obtain ⟨A, l, c, rfl, h1, h2, h3, h4⟩ := elems_of (α := List Int) Try.underlying31 cells_ints (by decide) (fun W b off y => ∃ A' c', W.cell? ⟨b, off, none⟩ = some (.slice A' y.length c') ∧ Si W A' y c') (fun fuel cs x hl ht => by
    obtain ⟨v, rfl⟩ : ∃ v, cs = [v] := by
      match cs, hl with
      | [v], _ => exact ⟨v, rfl⟩
    obtain ⟨A, l, c, rfl, hs⟩ := ints_of ht
    exact ⟨l, fun b off hc => ⟨A, c, hc 0 _ rfl, hs⟩⟩) h
  refine ⟨A, l, c, rfl, fun hp => ?_, h2, h3, h4⟩
  obtain ⟨b, off, e, hb, hat⟩ := h1 hp
  exact ⟨b, off, e, hb, fun i y hi => by have := hat i y hi; rw [Nat.mul_one] at this; exact this⟩
/-- A byte that has been read, as a number. -/
theorem byte_num {n : Int} (h : (Lit.int .u8 n).wf = true) : ∃ y : Nat, Value.int .u8 n = .int .u8 (y : Int) ∧ y < 256 := by
  have hm : 0 ≤ n ∧ n ≤ 255 := by simpa [Lit.wf, IntKind.min, IntKind.max, IntKind.signed, IntKind.bits] using h
  exact ⟨n.toNat, by congr 1; omega, by omega⟩
/-- Arguments. -/
theorem ints_arg {W : World} {r : Reach} {base : Nat} {v : Value} {d : DataW H} {p : List MemPlace} (hv : Value.okWide Try.prog W r base 22 v) (h : DataW.Trod enc Try.prog W 0 (fun _ => true) true 22 v d p) :
    ∃ (A : Option Addr) (l : List Int) (c : Nat), v = .slice A l.length c ∧ Si W A l c := by
  obtain ⟨a0, len0, cap0, rfl⟩ := okWide_slice Try.underlying22 hv
  obtain ⟨fuel, hf⟩ := h
  exact ints_of hf
theorem rows_arg {W : World} {r : Reach} {base : Nat} {v : Value} {d : DataW H} {p : List MemPlace} (hv : Value.okWide Try.prog W r base 31 v) (h : DataW.Trod enc Try.prog W 0 (fun _ => true) true 31 v d p) :
    ∃ (A : Option Addr) (l : List (List Int)) (c : Nat), v = .slice A l.length c ∧ RI W A l c := by
  obtain ⟨a0, len0, cap0, rfl⟩ := okWide_slice Try.underlying31 hv
  obtain ⟨fuel, hf⟩ := h
  exact rows_of hf
end
/-- The types of the laws' parameters. -/
def okTypes (ts : List TypeId) : Bool := ts.all fun t => t == 22 || t == 31 || t == 3 || t == 5
theorem types_ok {ts : List TypeId} (h : okTypes ts = true) : ∀ t ∈ ts, Try.prog.readableRec t = true ∧ t < Try.prog.types.size := by
  intro t ht
  have := (List.all_eq_true.1 h) t ht
  simp only [Bool.or_eq_true, beq_iff_eq] at this
  have hsz := types_size
  rcases this with ((rfl | rfl) | rfl) | rfl
  · exact ⟨read_ints, Nat.lt_of_lt_of_le (by decide) hsz⟩
  · exact ⟨read_rows, Nat.lt_of_lt_of_le (by decide) hsz⟩
  · exact ⟨read_int, Nat.lt_of_lt_of_le (by decide) hsz⟩
  · exact ⟨read_u8, Nat.lt_of_lt_of_le (by decide) hsz⟩
end Go.Proofs.Ytobchecnfkocdaa
