/- Where encodings go: a row of bytes behind a captured variable (Encode), or a count of bytes (Size). -/
import Derived.Test.YtkihimafeonibaaSmall
namespace Go.Proofs.Ytkihimafeonibaa
open Go.RowKit
set_option linter.unusedVariables false

/-- Nothing below B has turned, and of the rest no block but g and rows of bytes. -/
structure Fr (B g : Nat) (w w' : World) : Prop where
  below : Below B w w'
  other : ∀ (k : Nat) (c : Array Value) (t : TypeId) (z : Nat × Nat), k ≠ g → t ≠ 5 → w.heap[k]? = some (.cells c t z) → w'.heap[k]? = some (.cells c t z)

theorem heap_lt {w : World} {k : Nat} {o : Obj} (h : w.heap[k]? = some o) : k < w.heap.size := by
  rcases Nat.lt_or_ge k w.heap.size with h1 | h1
  · exact h1
  · rw [Array.getElem?_eq_none h1] at h
    cases h
theorem Fr.refl (B g : Nat) (w : World) : Fr B g w w := ⟨Below.refl _ _, fun _ _ _ _ _ _ h => h⟩
theorem Fr.trans {B g : Nat} {a b c : World} (h : Fr B g a b) (k : Fr B g b c) : Fr B g a c :=
  ⟨h.below.trans k.below, fun i cs t z h1 h2 h3 => k.other i cs t z h1 h2 (h.other i cs t z h1 h2 h3)⟩
theorem Fr.of_below {B g : Nat} {w w' : World} (h : Below w.heap.size w w') (hB : B ≤ w.heap.size) : Fr B g w w' :=
  ⟨h.mono hB, fun k c t z _ _ hk => (h.block k (heap_lt hk)).trans hk⟩
theorem Fr.alloc {B g : Nat} {a w : World} (h : Fr B g a w) (hB : B ≤ w.heap.size) (o : Obj) : Fr B g a (w.alloc o) :=
  h.trans (Fr.of_below ((Below.refl _ _).alloc (Nat.le_refl _) o) hB)
theorem Fr.drew {B g : Nat} {a w : World} (h : Fr B g a w) : Fr B g a w.drew := h.trans ⟨(Below.refl B w).drew, fun _ _ _ _ _ _ h => h⟩
theorem Fr.size {B g : Nat} {w w' : World} (h : Fr B g w w') : w.heap.size ≤ w'.heap.size := h.below.size

/-- What is written goes so: acc has been written in the world w. -/
structure Sink (K g B : Nat) (S : List UInt8 → World → Prop) : Prop where
  keep : ∀ (acc : List UInt8) (w w' : World), S acc w → Below w.heap.size w w' → S acc w'
  lt : ∀ (acc : List UInt8) (w : World), S acc w → g < w.heap.size
  drew : ∀ (acc : List UInt8) (w : World), S acc w → S acc w.drew
  put : ∀ (acc : List UInt8) (s : ByteArray) (w : World), S acc w → acc.length + s.size ≤ 100000000 → B ≤ w.heap.size →
    Calls Try.prog K #[.string s, .pointer (some ⟨g, 0, none⟩)] w fun e w' => e = .returned (.tuple #[]) ∧ S (acc ++ s.data.toList) w' ∧ Fr B g w w'
  enters : ∀ (args : Array Value) (w : World), (callFunc K args).run Try.prog w = .ok (.enter K args) w

def RowSink (B g : Nat) (acc : List UInt8) (w : World) : Prop :=
  ∃ v, w.heap[g]? = some (.cells #[v] 27 (0, 0)) ∧ w.ownsRow B 5 1 v acc.length (acc.map bv)
def CountSink (g : Nat) (acc : List UInt8) (w : World) : Prop := w.heap[g]? = some (.cells #[.int .i64 (acc.length : Int)] 3 (0, 0))

theorem own_below {w w' : World} {B n : Nat} {v : Value} {xs : List Value} (h : w.ownsRow B 5 1 v n xs) (hb : Below w.heap.size w w') : w'.ownsRow B 5 1 v n xs :=
  h.kept (row := none) ⟨hb.os, hb.tape, hb.output, hb.size, fun k hk _ => hb.block k hk⟩ (by cases hv : v.ownBlock <;> simp)

theorem own_form {w : World} {B n : Nat} {v : Value} {e : TypeId} {size : Nat} {xs : List Value} (h : w.ownsRow B e size v n xs) : ∃ A c, v = .slice A n c := by
  rcases h.2 with ⟨rfl, rfl⟩ | ⟨g, cap, cur, rfl, _⟩
  · exact ⟨_, _, rfl⟩
  · exact ⟨_, _, rfl⟩
theorem own_other {w : World} {B n g : Nat} {v : Value} {e t : TypeId} {size : Nat} {xs : List Value} {cs : Array Value} {z : Nat × Nat} (h : w.ownsRow B e size v n xs) (hg : w.heap[g]? = some (.cells cs t z)) (hne : e ≠ t) : some g ≠ v.ownBlock := by
  rcases h.2 with ⟨rfl, _⟩ | ⟨g', cap, cur, rfl, _, hh, _⟩
  · simp [Value.ownBlock]
  · intro he
    simp [Value.ownBlock] at he
    subst he
    rw [hh] at hg
    injection hg with hg
    injection hg with _ ht
    exact hne ht
theorem strCells_bv (s : ByteArray) : Lib.strCells s = s.data.toList.map bv := rfl

set_option maxRecDepth 100000 in
theorem encPut_any (B g : Nat) (hg : B ≤ g) (acc : List UInt8) (s : ByteArray) (w : World) (hS : RowSink B g acc w) (hl : acc.length + s.size ≤ 100000000) (hB : B ≤ w.heap.size) :
    Calls Try.prog 26 #[.string s, .pointer (some ⟨g, 0, none⟩)] w fun e w' => e = .returned (.tuple #[]) ∧ RowSink B g (acc ++ s.data.toList) w' ∧ Fr B g w w' := by
  obtain ⟨v, hv, hown⟩ := hS
  obtain ⟨i0, hi0, hz0, hz1, hz2⟩ := info_parts u8_info
  have hc : w.cell? ⟨g, 0, none⟩ = some v := by rw [cell_of_row w g 0 _ _ _ hv]; rfl
  have hf : w.frozen? ⟨g, 0, none⟩ = false := by simp [World.frozen?, hv]
  have hlt := heap_lt hv
  have hne := own_other hown hv (by decide)
  have step : ∀ (v1 : Value) (w1 : World), w.grownBy w1 v.ownBlock → w1.cell? ⟨g, 0, none⟩ = some v ∧ w1.frozen? ⟨g, 0, none⟩ = false ∧ w1.heap[g]? = some (.cells #[v] 27 (0, 0)) := by
    intro v1 w1 h
    have hb := h.block g hlt hne
    exact ⟨(World.cell?_of_block (a := ⟨g, 0, none⟩) hb).trans hc, (World.frozen?_of_block (a := ⟨g, 0, none⟩) hb).trans hf, hb.trans hv⟩
  have fin : ∀ (v1 : Value) (w1 : World), w1.ownsRow B 5 1 v1 (acc.length + s.size) (acc.map bv ++ Lib.strCells s) → w.grownBy w1 v.ownBlock → w1.heap[g]? = some (.cells #[v] 27 (0, 0)) →
      RowSink B g (acc ++ s.data.toList) (w1.setCell ⟨g, 0, none⟩ v1) ∧ Fr B g w (w1.setCell ⟨g, 0, none⟩ v1) := by
    intro v1 w1 ho h hv1
    have hset : (w1.setCell ⟨g, 0, none⟩ v1).heap[g]? = some (.cells #[v1] 27 (0, 0)) := by
      simp [World.setCell, Array.getElem?_modify, hv1]
    have hoth : ∀ k, k ≠ g → (w1.setCell ⟨g, 0, none⟩ v1).heap[k]? = w1.heap[k]? := fun k hk => Below.heap_setCell _ _ _ _ hk
    have hne1 := own_other ho hv1 (by decide)
    have hol := hown.lt
    refine ⟨⟨v1, hset, ?_⟩, ?_, ?_⟩
    · have e1 : (acc ++ s.data.toList).length = acc.length + s.size := by rw [List.length_append]; rfl
      rw [e1, List.map_append, ← strCells_bv]
      refine ho.kept (row := some g) ⟨rfl, rfl, rfl, by simp [World.setCell], fun k _ hk => hoth k (fun e => hk (by rw [e]))⟩ (.inr hne1.symm)
    · exact ((Below.refl B w).grown h hB (fun k hk => (hol k hk).1)).setCell hg v1
    · intro k c t z hk ht hh
      rw [hoth k hk]
      have hk2 := own_other hown hh (fun e => ht e.symm)
      exact (h.block k (heap_lt hh) hk2).trans hh
  have HST := Lib.hid step
  have HFIN := Lib.hid fin
  clear step fin hv hne
  go_enter Try.func26, Try.ntmps26
  go_wp2_with (at_builtin; refine Lib.wpList_append_own_string _ rfl (.tmp 3) (.tmp 4) 27 9 rfl B 5 i0 Try.underlying27 Try.underlying9 hi0 hz0 hz1 hz2 v acc.length (acc.map bv) rfl hown s rfl (le_maxLen (by omega)) (by omega) hB ?_; intro v1 w1 hown1 hg1 _; have hq := HFIN.out v1 w1 hown1 hg1 (HST.out v1 w1 hg1).2.2; have hc1 := (HST.out v1 w1 hg1).1; have hf1 := (HST.out v1 w1 hg1).2.1; have HQ := Lib.hid hq; clear hq hc hf; obtain ⟨A1, k1, hv1⟩ := own_form hown1; clear hown1 hg1; subst hv1)
  go_end0
  exact ⟨rfl, HQ.out⟩

set_option maxRecDepth 100000 in
theorem sizePut_any (B g : Nat) (hg : B ≤ g) (acc : List UInt8) (s : ByteArray) (w : World) (hS : CountSink g acc w) (hl : acc.length + s.size ≤ 100000000) (hB : B ≤ w.heap.size) :
    Calls Try.prog 29 #[.string s, .pointer (some ⟨g, 0, none⟩)] w fun e w' => e = .returned (.tuple #[]) ∧ CountSink g (acc ++ s.data.toList) w' ∧ Fr B g w w' := by
  unfold CountSink at hS
  have hc : w.cell? ⟨g, 0, none⟩ = some (.int .i64 (acc.length : Int)) := by rw [cell_of_row w g 0 _ _ _ hS]; rfl
  have hf : w.frozen? ⟨g, 0, none⟩ = false := by simp [World.frozen?, hS]
  have fin : CountSink g (acc ++ s.data.toList) (w.setCell ⟨g, 0, none⟩ (.int .i64 ((acc.length : Int) + (s.size : Int)))) ∧ Fr B g w (w.setCell ⟨g, 0, none⟩ (.int .i64 ((acc.length : Int) + (s.size : Int)))) := by
    refine ⟨?_, (Below.refl B w).setCell hg _, fun k c t z hk ht hh => (Below.heap_setCell _ _ _ _ hk).trans hh⟩
    unfold CountSink
    have e1 : (((acc ++ s.data.toList).length : Nat) : Int) = (acc.length : Int) + (s.size : Int) := by rw [List.length_append, Int.natCast_add]; rfl
    rw [e1]
    simp [World.setCell, Array.getElem?_modify, hS]
  have HFIN := Lib.hid fin
  clear fin hS
  go_enter Try.func29, Try.ntmps29
  go_wp2_with fail
  go_end0
  exact ⟨rfl, HFIN.out⟩

theorem below_row {w w' : World} (h : Below w.heap.size w w') (row : Option Nat) : w.grownBy w' row := ⟨h.os, h.tape, h.output, h.size, fun k hk _ => h.block k hk⟩
theorem encSink (B g : Nat) (hg : B ≤ g) : Sink 26 g B (RowSink B g) where
  keep := fun acc w w' ⟨v, hv, ho⟩ hb => ⟨v, (hb.block g (heap_lt hv)).trans hv, own_below ho hb⟩
  lt := fun acc w ⟨v, hv, ho⟩ => heap_lt hv
  drew := fun acc w h => h
  put := fun acc s w hS hl hB => encPut_any B g hg acc s w hS hl hB
  enters := fun args w => by kernel_rfl
theorem sizeSink (B g : Nat) (hg : B ≤ g) : Sink 29 g B (CountSink g) where
  keep := fun acc w w' hv hb => (hb.block g (heap_lt hv)).trans hv
  lt := fun acc w hv => heap_lt hv
  drew := fun acc w h => h
  put := fun acc s w hS hl hB => sizePut_any B g hg acc s w hS hl hB
  enters := fun args w => by kernel_rfl
end Go.Proofs.Ytkihimafeonibaa
