import Derived.Test.YtkihimafeonibaaSink
import Derived.Test.YtkihimafeonibaaNumeral
import Derived.Deep.RegionHeld3
import Derived.Deep.RegionWith
import Derived.StillTailTactics
namespace Go.Proofs.Ytkihimafeonibaa
open Go.RowKit
set_option linter.unusedVariables false

/-- The first n of the lists g 0, g 1 .., one after the other. -/
def catTo (g : Nat → List UInt8) : Nat → List UInt8
  | 0 => []
  | j + 1 => catTo g j ++ g j
/-- The encoding of a well-formed value. -/
def enc : T → List UInt8
  | .nil => [0]
  | .mk k n s len f => if k = 1 then 1 :: num (uns n) else if k = 2 then 2 :: (num s.size ++ s.data.toList) else 3 :: (num len ++ catTo (fun i => enc (f i)) len)

/-- A writer. -/
def wr1 (K g : Nat) : Value := .func (.func K) #[] #[.pointer (some ⟨g, 0, none⟩)]

/-- Block b is a box. -/
def Box (w : World) (b : Nat) (cs : Array Value) (t : TypeId) : Prop := w.heap[b]? = some (.cells cs t (0, 0))
theorem Box.cell {w : World} {b : Nat} {cs : Array Value} {t : TypeId} (h : Box w b cs t) (i : Nat) : w.cell? ⟨b, i, none⟩ = cs[i]? := cell_of_row w b i cs t _ h
theorem Box.below {w w' : World} {b : Nat} {cs : Array Value} {t : TypeId} (h : Box w b cs t) (hb : Below w.heap.size w w') : Box w' b cs t := (hb.block b (heap_lt h)).trans h
theorem Box.fr {B g : Nat} {w w' : World} {b : Nat} {cs : Array Value} {t : TypeId} (h : Box w b cs t) (hf : Fr B g w w') (hb : b ≠ g) (ht : t ≠ 5) : Box w' b cs t := hf.other b cs t _ hb ht h
theorem Box.new (w : World) (cs : Array Value) (t : TypeId) : Box (w.alloc (.cells cs t)) w.heap.size cs t := heap_alloc_new w _
theorem Box.alloc {w : World} {b : Nat} {cs : Array Value} {t : TypeId} (h : Box w b cs t) (o : Obj) : Box (w.alloc o) b cs t := h.below ((Below.refl w.heap.size w).alloc (Nat.le_refl _) o)
theorem Box.lt {w : World} {b : Nat} {cs : Array Value} {t : TypeId} (h : Box w b cs t) : b < w.heap.size := heap_lt h

/-- Behind two boxes, the first of one cell. -/
theorem box14 {w wr : World} {c0 d0 d1 d2 d3 : Value} {t u : TypeId} (hb : Below (w.heap.size + 2) ((w.alloc (.cells #[c0] t)).alloc (.cells #[d0, d1, d2, d3] u)) wr) :
    wr.cell? ⟨w.heap.size, 0, none⟩ = some c0 ∧
    wr.cell? ⟨w.heap.size + 1, 0, none⟩ = some d0 ∧ wr.cell? ⟨w.heap.size + 1, 1, none⟩ = some d1 ∧ wr.cell? ⟨w.heap.size + 1, 2, none⟩ = some d2 ∧ wr.cell? ⟨w.heap.size + 1, 3, none⟩ = some d3 ∧ w.heap.size + 1 < wr.heap.size := by
  have hs := hb.size
  simp at hs
  refine ⟨?_, ?_, ?_, ?_, ?_, by omega⟩ <;> (rw [hb.cell (by simp)]; simp [go_sem])

/-- What a cell holds, behind a call that turns nothing old. -/
theorem cell_kept {w w' : World} {p : Addr} {u : Value} (hb : Below w.heap.size w w') (h : w.cell? p = some u) : w'.cell? p = some u :=
  (hb.cell (World.block_lt_of_cell? w p h)).trans h

set_option maxHeartbeats 400000 in
set_option maxRecDepth 100000 in
theorem writeInt_any {K g B : Nat} {S : List UInt8 → World → Prop} (hK : Sink K g B S) (acc : List UInt8) (k n : Int) (s : ByteArray) (a : Option Addr) (len cap : Nat) (w : World)
    (hS : S acc w) (hn : Fit n) (hl : acc.length ≤ 90000000) (hB : B ≤ w.heap.size) :
    Calls Try.prog 39 #[.agg #[wr1 K g], .agg #[.int .i64 k, .int .i64 n, .string s, .slice a len cap]] w fun e w' =>
      e = .returned (.tuple #[]) ∧ S (acc ++ num (uns n)) w' ∧ Fr B g w w' := by
  have hb := ((Below.refl w.heap.size w).alloc (Nat.le_refl _) (.cells #[wr1 K g] 49)).alloc (by simp) (.cells #[.int .i64 k, .int .i64 n, .string s, .slice a len cap] 24)
  have hS1 := hK.keep acc _ _ hS hb
  have he := hK.enters
  have hgw := hK.lt _ _ hS
  have hnl := num_length (uns n)
  have hul := uns_lt n hn
  have HK := Lib.hid hK
  have HU := Lib.hid hul
  clear hK hul
  have q0 := (Box.new w #[wr1 K g] 49).alloc (.cells #[.int .i64 k, .int .i64 n, .string s, .slice a len cap] 24)
  have q1 := Box.new (w.alloc (.cells #[wr1 K g] 49)) #[.int .i64 k, .int .i64 n, .string s, .slice a len cap] 24
  rw [World.size_alloc] at q1
  unfold wr1 at *
  unfold Fit at hn
  go_enter Try.func39, Try.ntmps39
  go_wp2_with fail
  generalize (w.alloc (.cells #[.func (.func K) #[] #[.pointer (some ⟨g, 0, none⟩)]] 49)).alloc (.cells #[.int .i64 k, .int .i64 n, .string s, .slice a len cap] 24) = W2 at *
  have c0 : W2.cell? ⟨w.heap.size, 0, none⟩ = some (.func (.func K) #[] #[.pointer (some ⟨g, 0, none⟩)]) := q0.cell 0
  have c1 : W2.cell? ⟨w.heap.size + 1, 1, none⟩ = some (.int .i64 n) := q1.cell 1
  have hz := hb.drew.size
  have q0d : Box W2.drew _ _ _ := q0
  have q1d : Box W2.drew _ _ _ := q1
  have hSd := HK.out.drew _ _ hS1
  have hbd := hb.drew
  have hlen : acc.length + (ByteArray.mk (num (uns n)).toArray).size ≤ 100000000 := by show acc.length + (num (uns n)).length ≤ _; omega
  have ne48 : 49 ≠ 5 := by decide
  have ne24 : 24 ≠ 5 := by decide
  go_region_held3 (fun w' => w'.cell? ⟨w.heap.size, 0, none⟩ = some (.func (.func K) #[] #[.pointer (some ⟨g, 0, none⟩)]) ∧ w'.cell? ⟨w.heap.size + 1, 1, none⟩ = some (.int .i64 n)) (first | exact ⟨p0.cell 0, p1.cell 1⟩ | go_keep)
    (first
      | (go_at_call 53; refine (unsigned_any n _ hn).mono ?_; rintro e w' ⟨rfl, rfl⟩)
      | (go_at_call 52; refine (numeral_any (uns n) _ HU.out).mono ?_; rintro e w3 ⟨rfl, hb3⟩; have hS3 := HK.out.keep acc _ _ hSd hb3; have p0 := q0d.below hb3; have p1 := q1d.below hb3; have hbw3 := hbd.trans (hb3.mono hz); have hz3 := hb3.size; have hB3 : B ≤ w3.heap.size := Nat.le_trans hB (Nat.le_trans hz hz3); have g0 : w.heap.size ≠ g := Nat.ne_of_gt hgw; have g1 : w.heap.size + 1 ≠ g := Nat.ne_of_gt (Nat.lt_succ_of_lt hgw))
      | (refine (HK.out.put acc ⟨(num (uns n)).toArray⟩ _ hS3 hlen hB3).mono ?_; rintro e w4 ⟨rfl, hS4, hF4⟩; have p0 := p0.fr hF4 g0 ne48; have p1 := p1.fr hF4 g1 ne24)
      | fail)
  go_wp2_with fail
  go_end0
  exact ⟨rfl, hS4, (Fr.of_below hbw3 hB).trans hF4⟩
end Go.Proofs.Ytkihimafeonibaa
