/- The reader of encodings: its state, take, next. -/
import Derived.Test.YtkihimafeonibaaSmall
import Derived.Test.YtkihimafeonibaaSink
import Derived.WalkLawsBesides
namespace Go.Proofs.Ytkihimafeonibaa
open Go.RowKit
set_option linter.unusedVariables false

/-- The world holds the bytes l, in a block below h. -/
def Bs (h : Nat) (w : World) (A : Option Addr) (l : List UInt8) : Prop :=
  0 < l.length → ∃ b off, A = some ⟨b, off, none⟩ ∧ b < h ∧ ∀ j u, l[j]? = some u → w.cell? ⟨b, off + j, none⟩ = some (bv u)
/-- The reader in block h has the bytes l left. -/
def RS (h : Nat) (w : World) (l : List UInt8) : Prop :=
  ∃ A c, w.heap[h]? = some (.cells #[.slice A l.length c] 54 (0, 0)) ∧ l.length ≤ c ∧ c ≤ maxLen ∧ Bs h w A l

theorem Bs.keep {h : Nat} {w w' : World} {A : Option Addr} {l : List UInt8} (hb : Bs h w A l) (hg : w.grownBy w' (some h)) : Bs h w' A l := by
  intro hl
  obtain ⟨b, off, rfl, hne, hc⟩ := hb hl
  refine ⟨b, off, rfl, hne, fun j u hu => ?_⟩
  exact hg.cell (hc j u hu) (fun e => absurd (by injection e) (Nat.ne_of_lt hne))
theorem RS.lt {h : Nat} {w : World} {l : List UInt8} (hr : RS h w l) : h < w.heap.size := by
  obtain ⟨A, c, hh, _⟩ := hr
  exact heap_lt hh
theorem RS.keep {h : Nat} {w w' : World} {l : List UInt8} (hr : RS h w l) (hk : ∀ k, k ≤ h → w'.heap[k]? = w.heap[k]?) : RS h w' l := by
  obtain ⟨A, c, hh, h1, h2, hB⟩ := hr
  refine ⟨A, c, (hk h (Nat.le_refl _)).trans hh, h1, h2, fun hl => ?_⟩
  obtain ⟨b, off, rfl, hlt, hc⟩ := hB hl
  exact ⟨b, off, rfl, hlt, fun j u hu => (World.cell?_of_block (a := ⟨b, off + j, none⟩) (hk b (Nat.le_of_lt hlt))).trans (hc j u hu)⟩

theorem add_off (b off n : Nat) : (⟨b, off, none⟩ : Addr).add n = ⟨b, off + n, none⟩ := by
  unfold Addr.add
  split <;> simp_all
theorem Bs.drop {h : Nat} {w : World} {A : Option Addr} {l : List UInt8} {n : Nat} (hb : Bs h w A l) : Bs h w (A.map (fun x => x.add n)) (l.drop n) := by
  intro hl
  rw [List.length_drop] at hl
  obtain ⟨b, off, rfl, hne, hc⟩ := hb (by omega)
  refine ⟨b, off + n, by simp [add_off], hne, fun j u hu => ?_⟩
  rw [List.getElem?_drop] at hu
  have := hc _ u hu
  rw [show off + n + j = off + (n + j) by omega]
  exact this
theorem Bs.none_ {h : Nat} {w : World} {A : Option Addr} : Bs h w A [] := fun hl => absurd hl (by simp)
theorem Bs.take {h : Nat} {w : World} {A : Option Addr} {l : List UInt8} {n : Nat} (hb : Bs h w A l) : Bs h w A (l.take n) := by
  intro hl
  rw [List.length_take] at hl
  obtain ⟨b, off, rfl, hne, hc⟩ := hb (by omega)
  refine ⟨b, off, rfl, hne, fun j u hu => ?_⟩
  rw [List.getElem?_take] at hu
  split at hu
  · exact hc j u hu
  · cases hu

/-- What the reader panics with. -/
def bad : List PanicEntry := [{ v := .iface 28 (.int .i64 10), recovered := false }]
def Bad (h : Nat) (w : World) (e : Ending) (w' : World) : Prop := e = .panicked bad ∧ w.grownBy w' (some h)
def Took (h n : Nat) (l : List UInt8) (w : World) (e : Ending) (w' : World) : Prop :=
  ∃ A c, e = .returned (.slice A n c) ∧ Bs h w' A (l.take n) ∧ RS h w' (l.drop n) ∧ w.grownBy w' (some h)

theorem set_grown (w : World) (rd : Nat) (v : Value) : w.grownBy (w.setCell ⟨rd, 0, none⟩ v) (some rd) :=
  ⟨rfl, rfl, rfl, by simp [World.setCell], fun k _ hk => Below.heap_setCell _ _ _ _ (fun e => hk (by rw [e]))⟩
/-- Behind a store into the reader. -/
theorem RS.set {rd : Nat} {w : World} {v0 : Value} {A : Option Addr} {c : Nat} {l : List UInt8} (hh : w.heap[rd]? = some (.cells #[v0] 54 (0, 0))) (h1 : l.length ≤ c) (h2 : c ≤ maxLen) (hB : Bs rd w A l) :
    RS rd (w.setCell ⟨rd, 0, none⟩ (.slice A l.length c)) l :=
  ⟨A, c, by simp [World.setCell, Array.getElem?_modify, hh], h1, h2, hB.keep (set_grown w rd _)⟩

set_option maxRecDepth 100000 in
theorem take_bad (rd n : Nat) (l : List UInt8) (w : World) (hR : RS rd w l) (hn : l.length < n) (h64 : (n : Int) ≤ 18446744073709551615) :
    Calls Try.prog 48 #[.pointer (some ⟨rd, 0, none⟩), .int .u64 n] w (Bad rd w) := by
  obtain ⟨A, c, hh, h1, h2, hB⟩ := hR
  have hc : w.cell? ⟨rd, 0, none⟩ = some (.slice A l.length c) := by rw [cell_of_row w rd 0 _ _ _ hh]; rfl
  unfold maxLen at h2
  clear hh hB
  go_enter Try.func48, Try.ntmps48
  go_wp2_with fail
  exact ⟨rfl, rfl, World.grownBy.refl w _⟩

set_option maxRecDepth 100000 in
theorem take_good (rd n : Nat) (l : List UInt8) (w : World) (hR : RS rd w l) (hn : n ≤ l.length) :
    Calls Try.prog 48 #[.pointer (some ⟨rd, 0, none⟩), .int .u64 n] w (Took rd n l w) := by
  obtain ⟨A, c, hh, h1, h2, hB⟩ := hR
  have hc : w.cell? ⟨rd, 0, none⟩ = some (.slice A l.length c) := by rw [cell_of_row w rd 0 _ _ _ hh]; rfl
  have hf : w.frozen? ⟨rd, 0, none⟩ = false := by simp [World.frozen?, hh]
  by_cases e : l.length = n
  · have hx : l.drop n = [] := List.drop_eq_nil_of_le (by omega)
    have fin : Took rd n l w (.returned (.slice A n n)) (w.setCell ⟨rd, 0, none⟩ (.slice A 0 0)) :=
      ⟨A, n, rfl, hB.take.keep (set_grown w rd _), by rw [hx]; exact RS.set (l := []) hh (Nat.le_refl _) (Nat.zero_le _) Bs.none_, set_grown w rd _⟩
    have HF := Lib.hid fin
    unfold maxLen at h2
    clear hh hB fin hx
    go_enter Try.func48, Try.ntmps48
    go_wp2_with fail
    go_ret
    exact HF.out
  · have hx : (l.drop n).length = l.length - n := List.length_drop
    have fin : Took rd n l w (.returned (.slice A n n)) (w.setCell ⟨rd, 0, none⟩ (.slice (Option.map (fun x => x.add n) A) (l.length - n) (l.length - n))) :=
      ⟨A, n, rfl, hB.take.keep (set_grown w rd _), by rw [← hx]; exact RS.set hh (Nat.le_refl _) (by rw [hx]; omega) hB.drop, set_grown w rd _⟩
    have HF := Lib.hid fin
    unfold maxLen at h2
    clear hh hB fin hx
    go_enter Try.func48, Try.ntmps48
    go_wp2_with fail
    go_ret
    exact HF.out

/-- What next hands back where there is a byte. -/
def Nexted (rd : Nat) (b : UInt8) (l : List UInt8) (w : World) (e : Ending) (w' : World) : Prop :=
  e = .returned (bv b) ∧ RS rd w' l ∧ w.grownBy w' (some rd)

theorem next_bad (rd : Nat) (w : World) (hR : RS rd w []) :
    Calls Try.prog 45 #[.pointer (some ⟨rd, 0, none⟩)] w (Bad rd w) := by
  have hc := Lib.hid (take_bad rd 1 [] w hR (by simp) (by omega))
  clear hR
  go_enter Try.func45, Try.ntmps45
  go_wp2_with fail
  refine hc.out.mono ?_
  rintro e w1 ⟨rfl, hg⟩
  go_wp2_with fail
  exact ⟨rfl, rfl, hg⟩

theorem next_good (rd : Nat) (b : UInt8) (l : List UInt8) (w : World) (hR : RS rd w (b :: l)) :
    Calls Try.prog 45 #[.pointer (some ⟨rd, 0, none⟩)] w (Nexted rd b l w) := by
  have hc := Lib.hid (take_good rd 1 (b :: l) w hR (by simp))
  clear hR
  go_enter Try.func45, Try.ntmps45
  go_wp2_with fail
  refine hc.out.mono ?_
  rintro e w1 ⟨A, c, rfl, hB, hR, hg⟩
  obtain ⟨bb, off, rfl, hne, hcell⟩ := hB (by simp)
  have h0 : w1.cell? ⟨bb, off, none⟩ = some (.int .u8 (b.toNat : Int)) := hcell 0 b (by simp)
  clear hcell
  go_wp2_with fail
  go_ret
  exact ⟨rfl, hR, hg⟩
end Go.Proofs.Ytkihimafeonibaa
