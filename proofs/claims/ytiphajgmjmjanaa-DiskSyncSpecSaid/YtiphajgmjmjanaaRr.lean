/- Rows of bytes, writes and disks in memory. -/
import Derived.Test.YtiphajgmjmjanaaLit
import Derived.Test.YtiphajgmjmjanaaPl
namespace Go.Proofs.Ytiphajgmjmjanaa
open Go.RowKit
set_option linter.unusedVariables false

theorem Sl.keep {w w' : World} {A : Option Addr} {l : List UInt8} {c : Nat} {row : Option Nat} (h : Sl w A l c) (hg : w.grownBy w' row) (hr : ∀ b off, A = some ⟨b, off, none⟩ → some b ≠ row) : Sl w' A l c :=
  ⟨(h.1.keep hg hr).more hg.size, h.2⟩

/-- A row of bytes lies at this place. -/
def RwAt (w : World) (b off : Nat) (l : List UInt8) : Prop := ∃ A c, w.cell? ⟨b, off, none⟩ = some (.slice A l.length c) ∧ Sl w A l c
theorem RwAt.up {w w' : World} {b off : Nat} {l : List UInt8} (h : RwAt w b off l) (hb : b < w.heap.size) (k : Below w.heap.size w w') : RwAt w' b off l := by
  obtain ⟨A, c, h1, h2⟩ := h
  exact ⟨A, c, (k.cell (p := ⟨b, off, none⟩) hb).trans h1, h2.up k⟩
/-- A slice of rows of bytes. -/
def RR (w : World) (A : Option Addr) (l : List (List UInt8)) (c : Nat) : Prop := (0 < l.length → ∃ b off, A = some ⟨b, off, none⟩ ∧ b < w.heap.size ∧ ∀ i s, l[i]? = some s → RwAt w b (off + i) s) ∧ l.length ≤ c ∧ c ≤ maxLen ∧ (A = none → l = [] ∧ c = 0)
theorem RR.up {w w' : World} {A : Option Addr} {l : List (List UInt8)} {c : Nat} (h : RR w A l c) (k : Below w.heap.size w w') : RR w' A l c := by
  refine ⟨fun hp => ?_, h.2⟩
  obtain ⟨b, off, e, hb, hs⟩ := h.1 hp
  exact ⟨b, off, e, Nat.lt_of_lt_of_le hb k.size, fun i s hi => (hs i s hi).up hb k⟩
theorem RR.nil (w : World) : RR w none [] 0 := ⟨fun h => absurd h (by simp), by simp, by unfold maxLen; omega, fun _ => ⟨rfl, rfl⟩⟩
theorem rw_info : (Try.prog.info? 35).map (fun i => (i.zero, i.size, i.bytes)) = some (some (.slice none 0 0), 1, 24) := by kernel_rfl

/-- A write lies at this place. -/
def WrAt (w : World) (b off : Nat) (a : Int × List UInt8) : Prop := ∃ A c, w.cell? ⟨b, off, none⟩ = some (.int .i64 a.1) ∧ w.cell? ⟨b, off + 1, none⟩ = some (.slice A a.2.length c) ∧ Sl w A a.2 c
theorem WrAt.up {w w' : World} {b off : Nat} {a : Int × List UInt8} (h : WrAt w b off a) (hb : b < w.heap.size) (k : Below w.heap.size w w') : WrAt w' b off a := by
  obtain ⟨A, c, h1, h2, h3⟩ := h
  exact ⟨A, c, (k.cell (p := ⟨b, off, none⟩) hb).trans h1, (k.cell (p := ⟨b, off + 1, none⟩) hb).trans h2, h3.up k⟩
/-- A slice of writes. -/
def WW (w : World) (A : Option Addr) (l : List (Int × List UInt8)) (c : Nat) : Prop := (0 < l.length → ∃ b off, A = some ⟨b, off, none⟩ ∧ b < w.heap.size ∧ ∀ i s, l[i]? = some s → WrAt w b (off + i * 2) s) ∧ l.length ≤ c ∧ c ≤ maxLen ∧ (A = none → l = [] ∧ c = 0)
theorem WW.up {w w' : World} {A : Option Addr} {l : List (Int × List UInt8)} {c : Nat} (h : WW w A l c) (k : Below w.heap.size w w') : WW w' A l c := by
  refine ⟨fun hp => ?_, h.2⟩
  obtain ⟨b, off, e, hb, hs⟩ := h.1 hp
  exact ⟨b, off, e, Nat.lt_of_lt_of_le hb k.size, fun i s hi => (hs i s hi).up hb k⟩
theorem WW.nil (w : World) : WW w none [] 0 := ⟨fun h => absurd h (by simp), by simp, by unfold maxLen; omega, fun _ => ⟨rfl, rfl⟩⟩
theorem wr_info : (Try.prog.info? 54).map (fun i => (i.zero, i.size, i.bytes)) = some (some (.agg #[.int .i64 0, .slice none 0 0]), 2, 32) := by kernel_rfl

/-- The cells of a disk. -/
def dkc (d : Dk) (A : Option Addr) (c : Nat) (B : Option Addr) (k : Nat) : Array Value := #[.slice A d.secs.length c, .slice B d.pend.length k, .int .i64 d.left, .bool d.stop]
def dkv (d : Dk) (A : Option Addr) (c : Nat) (B : Option Addr) (k : Nat) : Value := .agg (dkc d A c B k)
/-- What a disk's slices hold. -/
def DkIn (w : World) (d : Dk) (A : Option Addr) (c : Nat) (B : Option Addr) (k : Nat) : Prop := RR w A d.secs c ∧ WW w B d.pend k
theorem DkIn.up {w w' : World} {d : Dk} {A B : Option Addr} {c k : Nat} (h : DkIn w d A c B k) (hb : Below w.heap.size w w') : DkIn w' d A c B k := ⟨h.1.up hb, h.2.up hb⟩
theorem dk_info : (Try.prog.info? 25).map (fun i => (i.zero, i.size, i.bytes)) = some (some (.agg #[.slice none 0 0, .slice none 0 0, .int .i64 0, .bool false]), 4, 64) := by kernel_rfl
theorem DkIn.zero (w : World) : DkIn w dk0 none 0 none 0 := ⟨RR.nil w, WW.nil w⟩

/-- A call hands back a disk and an error. -/
def DkPost (d : Dk) (er : Int) (w : World) (e : Ending) (w' : World) : Prop := ∃ A c B k, e = .returned (.tuple #[dkv d A c B k, .int .i64 er]) ∧ DkIn w' d A c B k ∧ Below w.heap.size w w'
def DkOnly (d : Dk) (w : World) (e : Ending) (w' : World) : Prop := ∃ A c B k, e = .returned (dkv d A c B k) ∧ DkIn w' d A c B k ∧ Below w.heap.size w w'
/-- A call hands back bytes and an error. -/
def RdPost (l : List UInt8) (er : Int) (w : World) (e : Ending) (w' : World) : Prop := ∃ A c, e = .returned (.tuple #[.slice A l.length c, .int .i64 er]) ∧ Sl w' A l c ∧ Below w.heap.size w w'
end Go.Proofs.Ytiphajgmjmjanaa
