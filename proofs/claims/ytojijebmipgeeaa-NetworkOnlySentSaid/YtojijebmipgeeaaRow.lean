/- From the reading of arguments to the values of the laws, and back. -/
import Derived.Test.YtojijebmipgeeaaRows
import Derived.Test.YtojijebmipgeeaaNt
import Derived.Deep.Slices
import Derived.WalkKit
import Derived.ProofKit
import Derived.OpenShut
import Derived.Lib.SmallJoins
import Derived.Deep.Fields
import Derived.ReadAgain
namespace Go.Proofs.Ytojijebmipgeeaa
open Go.ChangeShapes Go.WideShapes Go.ChangeAt Go.RowKit Go.WideElems Go.Deep Go.Joins
set_option linter.unusedVariables false

theorem own_knob : ownKnob Try.prog.godebug = none := by kernel_rfl
theorem laid_out : laidOutB Try.prog = true := by kernel_rfl
theorem read_net : Try.prog.readableRec 25 = true := by kernel_rfl
theorem read_pk : Try.prog.readableRec 28 = true := by kernel_rfl
theorem read_pks : Try.prog.readableRec 22 = true := by kernel_rfl
theorem read_bytes : Try.prog.readableRec 26 = true := by kernel_rfl
theorem read_int : Try.prog.readableRec 3 = true := by kernel_rfl
theorem read_uint : Try.prog.readableRec 52 = true := by kernel_rfl
theorem read_bool : Try.prog.readableRec 4 = true := by kernel_rfl
theorem read_mvs : Try.prog.readableRec 45 = true := by kernel_rfl
theorem types_size : 58 ≤ Try.prog.types.size := of_decide_eq_true (by kernel_rfl)
theorem cells_u8 : Try.prog.cellsOf 5 = 1 := by kernel_rfl
theorem cells_pk : Try.prog.cellsOf 28 = 3 := by kernel_rfl
theorem cells_pr : Try.prog.cellsOf 55 = 2 := by kernel_rfl
theorem cells_mv : Try.prog.cellsOf 49 = 5 := by kernel_rfl

section
variable {H : Type} {enc : TypeId × Value → H}

theorem trodAll_stays {W W' : World} (hb : Below W.heap.size W W') : ∀ {ts : List TypeId} {vs : List Value} {ds : List (DataW H)} {ps : List MemPlace}, (∀ t ∈ ts, Try.prog.readableRec t = true ∧ t < Try.prog.types.size) →
    DataW.TrodAll enc Try.prog W 0 (fun _ => true) true ts vs ds ps → (∀ p ∈ ps, p.block < W.heap.size) → ∀ sp : Nat → Bool, (∀ p ∈ ps, sp p.block = true) → DataW.TrodAll enc Try.prog W' 0 sp true ts vs ds ps
  | [], [], [], _, _, h, _, _, _ => h
  | t :: ts, v :: vs, d :: ds, ps, hts, ⟨p, q, h1, h2, e⟩, hlt, sp, hsp => by
    subst e
    refine ⟨p, q, Trod_stays laid_out (hts t (by simp)).1 (hts t (by simp)).2 h1 (fun x hx => hb.same (hlt x (by simp [hx]))) (fun x hx => hsp x (by simp [hx])), ?_, rfl⟩
    exact trodAll_stays hb (fun u hu => hts u (by simp [hu])) h2 (fun x hx => hlt x (by simp [hx])) sp (fun x hx => hsp x (by simp [hx]))

/-- The row's last step: the law has answered true, and nothing old has turned. -/
theorem post_true {f : Func} {s : ChangeSpec} {W W' : World} {args : Array Value} {ds : List (DataW H)} {before : List MemPlace}
    (hW : DataW.Whole enc Try.prog f.params.toList s.vars false W args.toList ds [] before) (hA : DataW.TrodAll enc Try.prog W 0 (fun _ => true) true f.params.toList args.toList ds before)
    (hts : ∀ t ∈ f.params.toList, Try.prog.readableRec t = true ∧ t < Try.prog.types.size) (hb : Below W.heap.size W W')
    (hf : f.resultTypes = #[4]) (hv : s.vars = []) (hs : s.fn H ds = { results := [.lit (.bool true)], args := ds }) :
    s.post enc Try.prog f false true false false W args (.bool true) W' := by
  have hlt : ∀ p ∈ before, p.block < W.heap.size := fun p hp => hW.lt p hp
  have hold : ∀ p ∈ before, (fun b => decide (b < W.heap.size)) p.block = true := fun p hp => by simpa using hlt p hp
  refine ⟨ds, [], before, [], before, [], hW, ?_, ?_, ?_, ?_, fun h => by cases h⟩
  · rw [List.append_nil, hs, hf]
    exact trodAll_cons_mk (shut_bool Try.underlying4 _) trodAll_mk0
  · rw [List.append_nil, hs]
    exact trodAll_stays hb hts hA hlt _ hold
  · rw [List.append_nil, hs, hv]
    rfl
  · exact World.keptBut_mono (fun p hp => ⟨hp, .inr (.inl hp)⟩) (hb.frame (· ∈ before))

/-- A slice that has been read, element by element. -/
theorem elems_of {α : Type} [Inhabited α] {W : World} {t e : TypeId} {k : Nat} (hu : Try.prog.underlying t = some (.slice e)) (hC : Try.prog.cellsOf e = k) (hk : 0 < k) (At : World → Nat → Nat → α → Prop)
    (hel : ∀ (fuel : Nat) (cs : List Value) (x : DataW H × List MemPlace), cs.length = k → DataW.trod enc Try.prog W 0 (fun _ => true) true fuel e cs = some x → ∃ y : α, ∀ b off, (∀ j u, cs[j]? = some u → W.cell? ⟨b, off + j, none⟩ = some u) → At W b off y)
    {fuel : Nat} {v : Value} {x : DataW H × List MemPlace} (h : DataW.trod enc Try.prog W 0 (fun _ => true) true fuel t [v] = some x) :
    ∃ A l c, v = .slice A l.length c ∧ (0 < l.length → ∃ b off, A = some ⟨b, off, none⟩ ∧ b < W.heap.size ∧ ∀ i s, l[i]? = some s → At W b (off + i * k) s) ∧ l.length ≤ c ∧ c ≤ maxLen ∧ (A = none → l = [] ∧ c = 0) := by
  rcases DataW.trod_slice hu h with ⟨hcs, _⟩ | ⟨a, len, cap, elems, rest, n, _, hcs, _, _, hlc, hcm, hel2, hat, _⟩
  · simp only [List.cons.injEq, and_true] at hcs
    exact ⟨none, [], 0, hcs, fun h => absurd h (by simp), by simp, Nat.zero_le _, fun _ => ⟨rfl, rfl⟩⟩
  · simp only [List.cons.injEq, and_true] at hcs
    have hcell : ∀ i, i < len → ∃ (cs' : List Value) (x' : DataW H × List MemPlace), cs'.length = k ∧ (∀ j u, cs'[j]? = some u → W.cell? ((a.add (i * k)).add j) = some u) ∧ DataW.trod enc Try.prog W 0 (fun _ => true) true n e cs' = some x' := by
      intro i hi
      have hx := hat i hi
      rw [List.getElem?_eq_getElem (by omega), hC] at hx
      obtain ⟨cs', hc, ht⟩ := Option.bind_eq_some_iff.1 hx
      obtain ⟨_, h2, h3⟩ := World.cells?_some hc
      refine ⟨cs', _, h2, fun j u hu => ?_, ht⟩
      have hj : j < k := by
        have := (List.getElem?_eq_some_iff.1 hu).1
        omega
      rw [h3 j hj, hu]
    have hspot : 0 < len → a.spot = none ∧ a.block < W.heap.size := by
      intro hl
      obtain ⟨cs', x', h1, h2, _⟩ := hcell 0 hl
      have h0 := h2 0 _ (List.getElem?_eq_getElem (by omega))
      have e1 : (a.add (0 * k)).add 0 = a := by simp [Addr.add]
      rw [e1] at h0
      refine ⟨?_, World.block_lt_of_cell? W _ h0⟩
      unfold World.cell? at h0
      split at h0
      · split at h0
        · cases h0
        · rename_i hs
          simpa using hs
      · cases h0
    have hex : ∀ i, ∃ y : α, i < len → ∀ b off, a = ⟨b, off, none⟩ → At W b (off + i * k) y := by
      intro i
      by_cases hi : i < len
      · obtain ⟨cs', x', h1, h2, h3⟩ := hcell i hi
        obtain ⟨y, hy⟩ := hel _ _ _ h1 h3
        refine ⟨y, fun _ b off e => hy b _ fun j u hu => ?_⟩
        have := h2 j u hu
        rw [e, add_off, add_off] at this
        exact this
      · exact ⟨default, fun h => absurd h hi⟩
    obtain ⟨F, hF⟩ : ∃ F : Nat → α, ∀ i, i < len → ∀ b off, a = ⟨b, off, none⟩ → At W b (off + i * k) (F i) := ⟨fun i => Classical.choose (hex i), fun i => Classical.choose_spec (hex i)⟩
    refine ⟨some a, (List.range len).map F, cap, by simp [hcs], fun hl => ?_, by simpa using hlc, hcm, fun h => by cases h⟩
    simp only [List.length_map, List.length_range] at hl
    obtain ⟨hs1, hs2⟩ := hspot hl
    obtain ⟨b, off, spot⟩ := a
    simp only at hs1
    subst hs1
    refine ⟨b, off, rfl, hs2, fun i s hi => ?_⟩
    have hj : i < len := by
      have := (List.getElem?_eq_some_iff.1 hi).1
      simpa using this
    simp [hj] at hi
    rw [← hi]
    exact hF i hj b off rfl

theorem bytes_of {W : World} {fuel : Nat} {v : Value} {x : DataW H × List MemPlace} (h : DataW.trod enc Try.prog W 0 (fun _ => true) true fuel 26 [v] = some x) : ∃ A l c, v = .slice A l.length c ∧ Sl W A l c := by
  obtain ⟨A, l, c, rfl, h1, h2, h3, h4⟩ := elems_of (α := UInt8) Try.underlying26 cells_u8 (by decide) (fun W b off y => W.cell? ⟨b, off, none⟩ = some (bv y)) (fun fuel cs x hl ht => by
    obtain ⟨m, rfl, _, hw⟩ := DataW.trod_int Try.underlying5 ht
    have hm : 0 ≤ m ∧ m ≤ 255 := by simpa [Lit.wf, IntKind.min, IntKind.max, IntKind.signed, IntKind.bits] using hw
    have hbv : bv (UInt8.ofNat m.toNat) = .int .u8 m := by
      unfold bv
      congr 1
      rw [UInt8.toNat_ofNat']
      omega
    exact ⟨UInt8.ofNat m.toNat, fun b off hc => by rw [hbv]; exact hc 0 _ rfl⟩) h
  refine ⟨A, l, c, rfl, fun hp => ?_, h2, h3, h4⟩
  obtain ⟨b, off, e, hb, hat⟩ := h1 hp
  exact ⟨b, off, e, hb, fun j u hu => by have := hat j u hu; rw [Nat.mul_one] at this; exact this⟩
/-- A byte that has been read. -/
theorem byte_wf {n : Int} (h : (Lit.int .u8 n).wf = true) : ∃ b : UInt8, Value.int .u8 n = bv b := by
  have hm : 0 ≤ n ∧ n ≤ 255 := by simpa [Lit.wf, IntKind.min, IntKind.max, IntKind.signed, IntKind.bits] using h
  refine ⟨UInt8.ofNat n.toNat, ?_⟩
  unfold bv
  congr 1
  rw [UInt8.toNat_ofNat']
  omega

/-- A packet lies at this place. -/
def PkAt (W : World) (b off : Nat) (p : Pk) : Prop := ∃ A c, W.cell? ⟨b, off, none⟩ = some (.int .i64 p.fr) ∧ W.cell? ⟨b, off + 1, none⟩ = some (.int .i64 p.to) ∧ W.cell? ⟨b, off + 2, none⟩ = some (.slice A p.da.length c) ∧ Sl W A p.da c
theorem pkF_of {W : World} {b : Nat} : ∀ {l : List Pk} {off : Nat}, (∀ i s, l[i]? = some s → PkAt W b (off + i * 3) s) → ∃ vs, PkF W l vs ∧ ∀ j u, vs[j]? = some u → W.cell? ⟨b, off + j, none⟩ = some u
  | [], off, h => ⟨[], rfl, fun j u hj => by cases hj⟩
  | p :: l, off, h => by
    obtain ⟨A, c, h0, h1, h2, h3⟩ := h 0 p rfl
    obtain ⟨vs, g1, g2⟩ := pkF_of (l := l) (off := off + 3) (fun i s hi => by
      have := h (i + 1) s hi
      rw [show off + (i + 1) * 3 = off + 3 + i * 3 by omega] at this
      exact this)
    refine ⟨_, ⟨A, c, vs, rfl, h3, g1⟩, fun j u hj => ?_⟩
    match j, hj with
    | 0, hj => cases hj; simpa using h0
    | 1, hj => cases hj; simpa using h1
    | 2, hj => cases hj; simpa using h2
    | j + 3, hj =>
      have := g2 j u hj
      rw [show off + (j + 3) = off + 3 + j by omega]
      exact this
theorem prc_of {W : World} {b : Nat} : ∀ {l : List (Int × Int)} {off : Nat}, (∀ i s, l[i]? = some s → W.cell? ⟨b, off + i * 2, none⟩ = some (.int .i64 s.1) ∧ W.cell? ⟨b, off + i * 2 + 1, none⟩ = some (.int .i64 s.2)) → ∀ j u, (prc l)[j]? = some u → W.cell? ⟨b, off + j, none⟩ = some u
  | [], off, h => fun j u hj => by cases hj
  | p :: l, off, h => by
    obtain ⟨h0, h1⟩ := h 0 p rfl
    have g2 := prc_of (W := W) (b := b) (l := l) (off := off + 2) (fun i s hi => by
      have := h (i + 1) s hi
      rw [show off + (i + 1) * 2 = off + 2 + i * 2 by omega] at this
      exact this)
    intro j u hj
    match j, hj with
    | 0, hj => cases hj; simpa using h0
    | 1, hj => cases hj; simpa using h1
    | j + 2, hj =>
      have := g2 j u hj
      rw [show off + (j + 2) = off + 2 + j by omega]
      exact this
theorem packet_of {W : World} {fuel : Nat} {cs : List Value} {x : DataW H × List MemPlace} (hl : cs.length = 3) (h : DataW.trod enc Try.prog W 0 (fun _ => true) true fuel 28 cs = some x) : ∃ (p : Pk) (D : Option Addr) (d : Nat), cs = [.int .i64 p.fr, .int .i64 p.to, .slice D p.da.length d] ∧ Sl W D p.da d := by
  obtain ⟨xs, n, hn, _, hlen, hxl, hf⟩ := DataW.trod_struct Try.underlying28 h
  match cs, hl with
  | [c0, c1, c2], _ =>
    have hg : ∀ (i : Nat) (hi : i < 3), ∃ y, xs[i]? = some y := fun i hi => ⟨_, List.getElem?_eq_getElem (by rw [hxl]; exact hi)⟩
    obtain ⟨y0, g0⟩ := hg 0 (by omega)
    obtain ⟨y1, g1⟩ := hg 1 (by omega)
    obtain ⟨y2, g2⟩ := hg 2 (by omega)
    have k3 : Try.prog.cellsOf 3 = 1 := by kernel_rfl
    have cells_bytes : Try.prog.cellsOf 26 = 1 := by kernel_rfl
    have f0 : DataW.trod enc Try.prog W 0 (fun _ => true) true n 3 [c0] = some y0 := by have := (hf 0 _ rfl).trans g0; simpa [k3] using this
    have f1 : DataW.trod enc Try.prog W 0 (fun _ => true) true n 3 [c1] = some y1 := by have := (hf 1 _ rfl).trans g1; simpa [k3] using this
    have f2 : DataW.trod enc Try.prog W 0 (fun _ => true) true n 26 [c2] = some y2 := by have := (hf 2 _ rfl).trans g2; simpa [k3, cells_bytes] using this
    obtain ⟨m0, e0, _, _⟩ := DataW.trod_int Try.underlying3 f0
    obtain ⟨m1, e1, _, _⟩ := DataW.trod_int Try.underlying3 f1
    simp only [List.cons.injEq, and_true] at e0 e1
    subst e0 e1
    obtain ⟨D, l, d, rfl, hs⟩ := bytes_of f2
    exact ⟨⟨m0, m1, l⟩, D, d, rfl, hs⟩
theorem packets_of {W : World} {fuel : Nat} {v : Value} {x : DataW H × List MemPlace} (h : DataW.trod enc Try.prog W 0 (fun _ => true) true fuel 22 [v] = some x) : ∃ A l c, v = .slice A l.length c ∧ QQ W A l c := by
  obtain ⟨A, l, c, rfl, h1, h2, h3, h4⟩ := elems_of (α := Pk) Try.underlying22 cells_pk (by decide) PkAt (fun fuel cs x hl ht => by
    obtain ⟨p, D, d, rfl, hs⟩ := packet_of hl ht
    exact ⟨p, fun b off hc => ⟨D, d, hc 0 _ rfl, hc 1 _ rfl, hc 2 _ rfl, hs⟩⟩) h
  refine ⟨A, l, c, rfl, fun hp => ?_, h2, h3, h4⟩
  obtain ⟨b, off, e, hb, hat⟩ := h1 hp
  obtain ⟨vs, g1, g2⟩ := pkF_of hat
  exact ⟨b, off, vs, e, hb, g1, g2⟩
theorem pair_of {W : World} {fuel : Nat} {cs : List Value} {x : DataW H × List MemPlace} (hl : cs.length = 2) (h : DataW.trod enc Try.prog W 0 (fun _ => true) true fuel 55 cs = some x) : ∃ y : Int × Int, cs = [.int .i64 y.1, .int .i64 y.2] := by
  obtain ⟨xs, m, _, _, hlen, hxl, hel⟩ := DataW.trod_array Try.underlying55 h
  match cs, hl with
  | [c0, c1], _ =>
    have hg : ∀ (i : Nat) (hi : i < 2), ∃ y, xs[i]? = some y := fun i hi => ⟨_, List.getElem?_eq_getElem (by rw [hxl]; exact hi)⟩
    obtain ⟨y0, g0⟩ := hg 0 (by omega)
    obtain ⟨y1, g1⟩ := hg 1 (by omega)
    have k3 : Try.prog.cellsOf 3 = 1 := by kernel_rfl
    have f0 : DataW.trod enc Try.prog W 0 (fun _ => true) true m 3 [c0] = some y0 := by have := (hel 0 (by omega)).trans g0; simpa [k3] using this
    have f1 : DataW.trod enc Try.prog W 0 (fun _ => true) true m 3 [c1] = some y1 := by have := (hel 1 (by omega)).trans g1; simpa [k3] using this
    obtain ⟨m0, e0, _, _⟩ := DataW.trod_int Try.underlying3 f0
    obtain ⟨m1, e1, _, _⟩ := DataW.trod_int Try.underlying3 f1
    simp only [List.cons.injEq, and_true] at e0 e1
    subst e0 e1
    exact ⟨(m0, m1), rfl⟩
theorem pairs_of {W : World} {fuel : Nat} {v : Value} {x : DataW H × List MemPlace} (h : DataW.trod enc Try.prog W 0 (fun _ => true) true fuel 23 [v] = some x) : ∃ A l c, v = .slice A l.length c ∧ PP W A l c := by
  obtain ⟨A, l, c, rfl, h1, h2, h3, h4⟩ := elems_of (α := Int × Int) Try.underlying23 cells_pr (by decide) (fun W b off y => W.cell? ⟨b, off, none⟩ = some (.int .i64 y.1) ∧ W.cell? ⟨b, off + 1, none⟩ = some (.int .i64 y.2)) (fun fuel cs x hl ht => by
    obtain ⟨y, rfl⟩ := pair_of hl ht
    exact ⟨y, fun b off hc => ⟨hc 0 _ rfl, hc 1 _ rfl⟩⟩) h
  refine ⟨A, l, c, rfl, fun hp => ?_, h2, h3, h4⟩
  obtain ⟨b, off, e, hb, hat⟩ := h1 hp
  exact ⟨b, off, e, hb, prc_of hat⟩
/-- An unsigned number that has been read. -/
theorem uint_wf {n : Int} (h : (Lit.int .u64 n).wf = true) : ∃ a : Nat, Value.int .u64 n = .int .u64 (a : Int) ∧ a ≤ 18446744073709551615 := by
  have hm : 0 ≤ n ∧ n ≤ 18446744073709551615 := by simpa [Lit.wf, IntKind.min, IntKind.max, IntKind.signed, IntKind.bits] using h
  exact ⟨n.toNat, by congr 1; omega, by omega⟩
/-- Arguments. -/
theorem bytes_arg {W : World} {r : Reach} {base : Nat} {v : Value} {d : DataW H} {p : List MemPlace} (hv : Value.okWide Try.prog W r base 26 v) (h : DataW.Trod enc Try.prog W 0 (fun _ => true) true 26 v d p) :
    ∃ A l c, v = .slice A l.length c ∧ Sl W A l c := by
  obtain ⟨a0, len0, cap0, rfl⟩ := okWide_slice Try.underlying26 hv
  obtain ⟨fuel, hf⟩ := h
  exact bytes_of hf
theorem packets_arg {W : World} {r : Reach} {base : Nat} {v : Value} {d : DataW H} {p : List MemPlace} (hv : Value.okWide Try.prog W r base 22 v) (h : DataW.Trod enc Try.prog W 0 (fun _ => true) true 22 v d p) :
    ∃ A l c, v = .slice A l.length c ∧ QQ W A l c := by
  obtain ⟨a0, len0, cap0, rfl⟩ := okWide_slice Try.underlying22 hv
  obtain ⟨fuel, hf⟩ := h
  exact packets_of hf
theorem net_arg {W : World} {r : Reach} {base : Nat} {v : Value} {dd : DataW H} {p : List MemPlace} (hv : Value.okWide Try.prog W r base 25 v) (h : DataW.Trod enc Try.prog W 0 (fun _ => true) true 25 v dd p) :
    ∃ (n : Nt) (A : Option Addr) (c : Nat) (B : Option Addr) (k : Nat), v = ntv n A c B k ∧ NtIn W n A c B k := by
  obtain ⟨v0, v1, y0, y1, n, rfl, _, _, h0, h1⟩ := open_agg2 Try.underlying25 (by kernel_rfl) (by kernel_rfl) hv h
  obtain ⟨A, l, c, rfl, hR⟩ := packets_of h0
  obtain ⟨B, l2, k, rfl, hW⟩ := pairs_of h1
  exact ⟨⟨l, l2⟩, A, c, B, k, rfl, hR, hW⟩
theorem packet_arg {W : World} {r : Reach} {base : Nat} {v : Value} {dd : DataW H} {p : List MemPlace} (hv : Value.okWide Try.prog W r base 28 v) (h : DataW.Trod enc Try.prog W 0 (fun _ => true) true 28 v dd p) :
    ∃ (p : Pk) (D : Option Addr) (d : Nat), v = pkv p D d ∧ Sl W D p.da d := by
  obtain ⟨v0, v1, v2, y0, y1, y2, n, rfl, _, _, h0, h1, h2⟩ := open_agg3 Try.underlying28 (by kernel_rfl) (by kernel_rfl) hv h
  obtain ⟨m0, e0, _, _⟩ := DataW.trod_int Try.underlying3 h0
  obtain ⟨m1, e1, _, _⟩ := DataW.trod_int Try.underlying3 h1
  simp only [List.cons.injEq, and_true] at e0 e1
  subst e0 e1
  obtain ⟨D, l, d, rfl, hs⟩ := bytes_of h2
  exact ⟨⟨m0, m1, l⟩, D, d, rfl, hs⟩
end
/-- The types of the laws' parameters. -/
def okTypes (ts : List TypeId) : Bool := ts.all fun t => t == 25 || t == 28 || t == 22 || t == 26 || t == 3 || t == 52 || t == 4 || t == 45
theorem types_ok {ts : List TypeId} (h : okTypes ts = true) : ∀ t ∈ ts, Try.prog.readableRec t = true ∧ t < Try.prog.types.size := by
  intro t ht
  have := (List.all_eq_true.1 h) t ht
  simp only [Bool.or_eq_true, beq_iff_eq] at this
  have hs := types_size
  rcases this with ((((((h1 | h1) | h1) | h1) | h1) | h1) | h1) | h1
  · rw [h1]; exact ⟨read_net, Nat.lt_of_lt_of_le (by decide) hs⟩
  · rw [h1]; exact ⟨read_pk, Nat.lt_of_lt_of_le (by decide) hs⟩
  · rw [h1]; exact ⟨read_pks, Nat.lt_of_lt_of_le (by decide) hs⟩
  · rw [h1]; exact ⟨read_bytes, Nat.lt_of_lt_of_le (by decide) hs⟩
  · rw [h1]; exact ⟨read_int, Nat.lt_of_lt_of_le (by decide) hs⟩
  · rw [h1]; exact ⟨read_uint, Nat.lt_of_lt_of_le (by decide) hs⟩
  · rw [h1]; exact ⟨read_bool, Nat.lt_of_lt_of_le (by decide) hs⟩
  · rw [h1]; exact ⟨read_mvs, Nat.lt_of_lt_of_le (by decide) hs⟩
end Go.Proofs.Ytojijebmipgeeaa
