/- Memory: boxes, rows of bytes, what a call leaves as it was. (Nothing here speaks of one package.) -/
import Derived.Test.YtobchecnfkocdaaProg
import Derived.WalkKit
import Derived.WalkSpells
import Derived.WalkLawsBesides
import Derived.Outline
import Derived.Lib.Hide
import Derived.Lib.AppendStr
import Derived.Laws.Rows
import Derived.Deep.AppendLies
namespace Go.Proofs.Ytobchecnfkocdaa
open Go.RowKit
set_option linter.unusedVariables false

def Fit (n : Int) : Prop := -9223372036854775808 ≤ n ∧ n ≤ 9223372036854775807
theorem ret_int {k : IntKind} {a b : Int} (h : a = b) : Ending.returned (.int k a) = .returned (.int k b) := by rw [h]
theorem ret_bool {a b : Bool} (h : a = b) : Ending.returned (.bool a) = .returned (.bool b) := by rw [h]
theorem le_maxLen {n : Nat} (h : n ≤ 9223372036854775807) : n ≤ maxLen := by
  unfold maxLen
  omega
theorem add_off (b off n : Nat) : (⟨b, off, none⟩ : Addr).add n = ⟨b, off + n, none⟩ := by
  unfold Addr.add
  split <;> simp_all
theorem heap_lt {w : World} {k : Nat} {o : Obj} (h : w.heap[k]? = some o) : k < w.heap.size := by
  rcases Nat.lt_or_ge k w.heap.size with h1 | h1
  · exact h1
  · rw [Array.getElem?_eq_none h1] at h
    cases h
theorem grown_trans {a b c : World} {r : Option Nat} (h : a.grownBy b r) (k : b.grownBy c r) : a.grownBy c r :=
  ⟨k.os.trans h.os, k.tape.trans h.tape, k.output.trans h.output, Nat.le_trans h.size k.size, fun i hi hne => (k.block i (Nat.lt_of_lt_of_le hi h.size) hne).trans (h.block i hi hne)⟩
theorem grown_drew (w : World) (r : Option Nat) : w.grownBy w.drew r := ⟨rfl, rfl, rfl, Nat.le_refl _, fun _ _ _ => rfl⟩
theorem grown_own {a b c : World} {r own : Option Nat} (h : a.grownBy b r) (k : b.grownBy c own) (ho : ∀ i, own = some i → a.heap.size ≤ i) : a.grownBy c r :=
  ⟨k.os.trans h.os, k.tape.trans h.tape, k.output.trans h.output, Nat.le_trans h.size k.size, fun i hi hne => (k.block i (Nat.lt_of_lt_of_le hi h.size) (fun e => by have := ho i e.symm; omega)).trans (h.block i hi hne)⟩
theorem below_row {w w' : World} (h : Below w.heap.size w w') (row : Option Nat) : w.grownBy w' row := ⟨h.os, h.tape, h.output, h.size, fun k hk _ => h.block k hk⟩
theorem grown_below {w w' : World} (h : w.grownBy w' none) : Below w.heap.size w w' := ⟨h.os, h.tape, h.output, h.size, fun k hk => h.block k hk (by simp)⟩
theorem below_grown {B : Nat} {w w' : World} {rd : Nat} (h : w.grownBy w' (some rd)) (hB : B ≤ rd) (hz : B ≤ w.heap.size) : Below B w w' :=
  ⟨h.os, h.tape, h.output, h.size, fun k hk => h.block k (by omega) (fun e => by injection e with e; omega)⟩
theorem set_grown_at (w : World) (rd i : Nat) (v : Value) : w.grownBy (w.setCell ⟨rd, i, none⟩ v) (some rd) :=
  ⟨rfl, rfl, rfl, by simp [World.setCell], fun k _ hk => Below.heap_setCell _ _ _ _ (fun e => hk (by rw [e]))⟩
theorem setRow_grown (w : World) (g : Nat) (cs : Array Value) : w.grownBy (w.setRow g cs) (some g) :=
  ⟨rfl, rfl, rfl, by simp, fun k _ hk => setRow_other w g k cs (fun e => hk (by rw [e]))⟩
/-- A call behind another one. -/
theorem bthen {a b c : World} (h : Below a.heap.size a b) (k : Below b.heap.size b c) : Below a.heap.size a c := h.trans (k.mono h.size)

/-- Block b is a variable with these cells. -/
def Box (w : World) (b : Nat) (cs : Array Value) (t : TypeId) : Prop := w.heap[b]? = some (.cells cs t (0, 0))
theorem Box.cell {w : World} {b : Nat} {cs : Array Value} {t : TypeId} (h : Box w b cs t) (i : Nat) : w.cell? ⟨b, i, none⟩ = cs[i]? := cell_of_row w b i cs t _ h
theorem Box.below {w w' : World} {b : Nat} {cs : Array Value} {t : TypeId} (h : Box w b cs t) (hb : Below w.heap.size w w') : Box w' b cs t := (hb.block b (heap_lt h)).trans h
theorem Box.new (w : World) (cs : Array Value) (t : TypeId) : Box (w.alloc (.cells cs t)) w.heap.size cs t := heap_alloc_new w _
theorem Box.alloc {w : World} {b : Nat} {cs : Array Value} {t : TypeId} (h : Box w b cs t) (o : Obj) : Box (w.alloc o) b cs t := h.below ((Below.refl w.heap.size w).alloc (Nat.le_refl _) o)
theorem Box.lt {w : World} {b : Nat} {cs : Array Value} {t : TypeId} (h : Box w b cs t) : b < w.heap.size := heap_lt h
theorem Box.grown {w w' : World} {b : Nat} {row : Option Nat} {cs : Array Value} {t : TypeId} (h : Box w b cs t) (hg : w.grownBy w' row) (hne : some b ≠ row) : Box w' b cs t :=
  (hg.block b (heap_lt h) hne).trans h
theorem Box.frozen {w : World} {b : Nat} {cs : Array Value} {t : TypeId} (h : Box w b cs t) (i : Nat) : w.frozen? ⟨b, i, none⟩ = false := by
  simp [World.frozen?, show w.heap[b]? = _ from h]
theorem Box.set {w : World} {b i : Nat} {cs : Array Value} {t : TypeId} {v : Value} (h : Box w b cs t) : Box (w.setCell ⟨b, i, none⟩ v) b (cs.setIfInBounds i v) t := heap_setCell_same w b i cs t v h
theorem Box.setRow {w : World} {b : Nat} {cs cs' : Array Value} {t : TypeId} (h : Box w b cs t) : Box (w.setRow b cs') b cs' t := setRow_heap w b cs cs' t _ h
theorem Box.drew {w : World} {b : Nat} {cs : Array Value} {t : TypeId} (h : Box w b cs t) : Box w.drew b cs t := h

/-- A byte as a cell. -/
def bv (b : UInt8) : Value := .int .u8 (b.toNat : Int)
theorem bv_of (n : Nat) (h : n < 256) : bv (UInt8.ofNat n) = .int .u8 (n : Int) := by
  unfold bv
  rw [UInt8.toNat_ofNat_of_lt' (by simpa [UInt8.size] using h)]
theorem bv_one : ∀ (l : List UInt8), ∀ u ∈ l.map bv, u.oneCell' = true := by
  intro l u hu
  obtain ⟨b, _, rfl⟩ := List.mem_map.1 hu
  rfl
theorem strCells_bv (s : ByteArray) : Lib.strCells s = s.data.toList.map bv := rfl

/-- The world holds the bytes l from address A on, in a block below h. -/
def Bs (h : Nat) (w : World) (A : Option Addr) (l : List UInt8) : Prop :=
  0 < l.length → ∃ b off, A = some ⟨b, off, none⟩ ∧ b < h ∧ ∀ j u, l[j]? = some u → w.cell? ⟨b, off + j, none⟩ = some (bv u)
theorem Bs.keep {h : Nat} {w w' : World} {A : Option Addr} {l : List UInt8} {row : Option Nat} (hb : Bs h w A l) (hg : w.grownBy w' row) (hr : ∀ b off, A = some ⟨b, off, none⟩ → some b ≠ row) : Bs h w' A l := by
  intro hl
  obtain ⟨b, off, rfl, hne, hc⟩ := hb hl
  exact ⟨b, off, rfl, hne, fun j u hu => hg.cell (hc j u hu) (hr b off rfl)⟩
theorem Bs.more {h h' : Nat} {w : World} {A : Option Addr} {l : List UInt8} (hb : Bs h w A l) (hh : h ≤ h') : Bs h' w A l := by
  intro hl
  obtain ⟨b, off, rfl, hne, hc⟩ := hb hl
  exact ⟨b, off, rfl, by omega, hc⟩
theorem Bs.below {h : Nat} {w w' : World} {A : Option Addr} {l : List UInt8} (hb : Bs h w A l) (hh : h ≤ w.heap.size) (hg : Below w.heap.size w w') : Bs h w' A l := by
  intro hl
  obtain ⟨b, off, rfl, hne, hc⟩ := hb hl
  exact ⟨b, off, rfl, hne, fun j u hu => (hg.cell (p := ⟨b, off + j, none⟩) (by show b < _; omega)).trans (hc j u hu)⟩
theorem Bs.up {w w' : World} {A : Option Addr} {l : List UInt8} (hb : Bs w.heap.size w A l) (hg : Below w.heap.size w w') : Bs w'.heap.size w' A l := (hb.below (Nat.le_refl _) hg).more hg.size
theorem Bs.drew {h : Nat} {w : World} {A : Option Addr} {l : List UInt8} (hb : Bs h w A l) : Bs h w.drew A l := hb
theorem Bs.drop {h : Nat} {w : World} {A : Option Addr} {l : List UInt8} {n : Nat} (hb : Bs h w A l) : Bs h w (A.map (fun x => x.add n)) (l.drop n) := by
  intro hl
  rw [List.length_drop] at hl
  obtain ⟨b, off, rfl, hne, hc⟩ := hb (by omega)
  refine ⟨b, off + n, by simp [add_off], hne, fun j u hu => ?_⟩
  rw [List.getElem?_drop] at hu
  have := hc _ u hu
  rw [show off + n + j = off + (n + j) by omega]
  exact this
theorem Bs.none_ {h : Nat} {w : World} {A : Option Addr} : Bs h w A [] := fun hl => absurd hl (by simp)
theorem Bs.take {h : Nat} {w : World} {A : Option Addr} {l : List UInt8} {n : Nat} (hb : Bs h w A l) : Bs h w A (l.take n) := by
  intro hl
  rw [List.length_take] at hl
  obtain ⟨b, off, rfl, hne, hc⟩ := hb (by omega)
  refine ⟨b, off, rfl, hne, fun j u hu => ?_⟩
  rw [List.getElem?_take] at hu
  split at hu
  · exact hc j u hu
  · cases hu
/-- A box of bytes, read as bytes. -/
theorem Bs.of_box {w : World} {g : Nat} {l : List UInt8} {t : TypeId} (h : Box w g (l.map bv).toArray t) : Bs w.heap.size w (some ⟨g, 0, none⟩) l := fun _ =>
  ⟨g, 0, rfl, h.lt, fun j u hu => by rw [Nat.zero_add, h.cell j]; simp [hu]⟩

theorem own_below {w w' : World} {B n : Nat} {v : Value} {e : TypeId} {size : Nat} {xs : List Value} (h : w.ownsRow B e size v n xs) (hb : Below w.heap.size w w') : w'.ownsRow B e size v n xs :=
  h.kept (row := none) ⟨hb.os, hb.tape, hb.output, hb.size, fun k hk _ => hb.block k hk⟩ (by cases hv : v.ownBlock <;> simp)
theorem own_form {w : World} {B n : Nat} {v : Value} {e : TypeId} {size : Nat} {xs : List Value} (h : w.ownsRow B e size v n xs) : ∃ A c, v = .slice A n c := by
  rcases h.2 with ⟨rfl, rfl⟩ | ⟨g, cap, cur, rfl, _⟩
  · exact ⟨_, _, rfl⟩
  · exact ⟨_, _, rfl⟩
/-- A row of the call's own, as bytes that came in. -/
theorem Bs.of_own {w : World} {B c : Nat} {A : Option Addr} {l : List UInt8} (h : w.ownsRow B 5 1 (.slice A l.length c) l.length (l.map bv)) : Bs w.heap.size w A l ∧ l.length ≤ c ∧ c ≤ maxLen := by
  rcases h.2 with ⟨hv, hn⟩ | ⟨g, cap, cur, hv, hbg, hg, h1, h2, _⟩
  · injection hv with hA hl hc
    exact ⟨fun hp => absurd hp (by omega), by omega, by omega⟩
  · injection hv with hA hl hc
    subst hA hc
    refine ⟨fun hp => ⟨g, 0, rfl, heap_lt hg, fun j u hu => ?_⟩, h1, h2⟩
    have := h.cells (g := g) rfl j (bv u) (by simp [hu])
    rw [add_off] at this
    exact this

theorem u8_info : (Try.prog.info? 5).map (fun i => (i.zero, i.size, i.bytes)) = some (some (.int .u8 0), 1, 1) := by kernel_rfl

/-- []byte(s). -/
theorem conv_str (w : World) (s : ByteArray) (hs : s.size ≤ maxLen) : ∃ c w', (convert 9 69 (.string s)).run Try.prog w = .ok (.slice (some ⟨w.heap.size, 0, none⟩) s.size c) w' ∧ Below w.heap.size w w' ∧
    Bs w'.heap.size w' (some ⟨w.heap.size, 0, none⟩) s.data.toList ∧ s.size ≤ c ∧ c ≤ maxLen := by
  refine ⟨_, _, run_bytes_of_string w _ _ _ s Try.underlying9 Try.underlying69 Try.underlying5, ?_, ?_, ?_, ?_⟩
  · exact ((Below.refl w.heap.size w).drew).alloc (Nat.le_refl _) _
  · intro hp
    refine ⟨w.heap.size, 0, rfl, by simp, fun j u hu => ?_⟩
    have hc := World.cell?_alloc_mark w.drew (bytesRow s (grownCap w s.size 0 5)) 5 ((bytesRow s (grownCap w s.size 0 5)).size, (bytesRow s (grownCap w s.size 0 5)).size + 1) j
    rw [Nat.zero_add]
    refine hc.trans ?_
    have hj : j < s.data.size := by
      have := (List.getElem?_eq_some_iff.1 hu).1
      simpa using this
    unfold bytesRow
    rw [Array.getElem?_append_left (by simpa using hj), Array.getElem?_map]
    have : s.data[j]? = some u := by simpa using hu
    rw [this]
    rfl
  · exact grownCap_ge w s.size 0 _
  · exact grownCap_le_maxLen w s.size 0 _ hs
end Go.Proofs.Ytobchecnfkocdaa
