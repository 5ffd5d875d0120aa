/- Strings of bytes; classes, beginnings, names, numbers. -/
import Derived.Test.YticepaljociefaaDoorPl
import Derived.IntWalk
import Derived.LoopTactic
import Derived.Deep.QuietTactic
namespace Go.Proofs.YticepaljociefaaDoor
open Go.RowKit
set_option linter.unusedVariables false

/-- A string of bytes. -/
def bs (l : List UInt8) : ByteArray := ⟨l.toArray⟩
theorem bs_size (l : List UInt8) : (bs l).size = l.length := by simp [bs, ByteArray.size]
theorem bs_get (l : List UInt8) (i : Nat) (h : i < (bs l).size) : (bs l)[i]'h = l[i]'(by rw [bs_size] at h; exact h) := by
  show (bs l).data[i]'_ = _
  simp [bs]
theorem bs_from (l : List UInt8) (i : Nat) : (bs l).extract i l.length = bs (l.drop i) := by
  apply ByteArray.ext
  rw [ByteArray.data_extract]
  simp [bs, List.take_of_length_le]
theorem bs_to (l : List UInt8) (i : Nat) : (bs l).extract 0 i = bs (l.take i) := by
  apply ByteArray.ext
  rw [ByteArray.data_extract]
  simp [bs]
theorem bs_inj {a b : List UInt8} : bs a = bs b ↔ a = b := by
  constructor
  · intro h
    have := congrArg (fun x : ByteArray => x.data.toList) h
    simpa [bs] using this
  · intro h; rw [h]
theorem bs_empty : bs [] = ⟨#[]⟩ := rfl
theorem bs_toList (l : List UInt8) : (bs l).toList = l := ByteArray.toList_mk l
theorem bs_idx {l : List UInt8} {i : Nat} {b : UInt8} (h : l[i]? = some b) (t : TypeId) (ht : Tryd.prog.underlying t = some .string) (w : World) : (Instr.index t (.string (bs l)) (.int .i64 (i : Int))).run Tryd.prog w = .ok (bv b) w := by
  obtain ⟨hi, hb⟩ := List.getElem?_eq_some_iff.1 h
  rw [run_index_string _ _ _ _ _ ht, dif_pos ⟨by omega, by rw [bs_size]; omega⟩]
  simp only [Int.toNat_natCast, bs_get, hb]
  rfl
theorem bs_cut {l : List UInt8} {i : Nat} (h : i ≤ l.length) (t : TypeId) (ht : Tryd.prog.underlying t = some .string) (w : World) : (Instr.slice t (.string (bs l)) (some (.int .i64 (i : Int))) none none).run Tryd.prog w = .ok (.string (bs (l.drop i))) w := by
  rw [run_slice_string_from_if (h := ht), if_pos ⟨by omega, by rw [bs_size]; omega⟩, bs_size, Int.toNat_natCast, bs_from]
theorem bs_upto {l : List UInt8} {i : Nat} (h : i ≤ l.length) (t : TypeId) (ht : Tryd.prog.underlying t = some .string) (w : World) : (Instr.slice t (.string (bs l)) none (some (.int .i64 (i : Int))) none).run Tryd.prog w = .ok (.string (bs (l.take i))) w := by
  rw [run_slice_string_to_if (h := ht), if_pos ⟨by omega, by rw [bs_size]; omega⟩, Int.toNat_natCast, bs_to]
theorem bs_len (l : List UInt8) (t ty : TypeId) (ht : Tryd.prog.underlying t = some .string) (w : World) : (Builtin.len_ #[t] ty #[.string (bs l)]).run Tryd.prog w = .ok (.int .i64 (l.length : Int)) w := by
  rw [run_len_string (h := ht), bs_size]
  rfl

/-- The table of classes lies in block 0. -/
def KT (w : World) : Prop := 0 < w.heap.size ∧ ∀ r, r < 128 → w.cell? ⟨0, r, none⟩ = some (.int .u8 (cl (UInt8.ofNat r) : Int))
theorem KT.below {w w' : World} (h : KT w) (hb : Below w.heap.size w w') : KT w' := ⟨Nat.lt_of_lt_of_le h.1 hb.size, fun r hr => (hb.cell (p := ⟨0, r, none⟩) h.1).trans (h.2 r hr)⟩

/-- A byte with a value, the world as it was. -/
def QInt (k : IntKind) (n : Int) (w : World) (e : Ending) (w' : World) : Prop := e = .returned (.int k n) ∧ w' = w
def QBool (b : Bool) (w : World) (e : Ending) (w' : World) : Prop := e = .returned (.bool b) ∧ w' = w
def QStr (l : List UInt8) (w : World) (e : Ending) (w' : World) : Prop := e = .returned (.string (bs l)) ∧ w' = w

theorem classOf_any (b : UInt8) (w : World) (hK : KT w) : Calls Tryd.prog 47 #[bv b] w (QInt .u8 (cl b) w) := by
  unfold QInt bv
  by_cases h : b.toNat < 128
  · have hc := hK.2 b.toNat h
    rw [UInt8.ofNat_toNat] at hc
    obtain ⟨n, hn⟩ : ∃ n, b.toNat = n := ⟨_, rfl⟩
    obtain ⟨c, hcl⟩ : ∃ c, cl b = c := ⟨_, rfl⟩
    rw [hn] at h hc ⊢
    rw [hcl] at hc ⊢
    have h0 : (n : Int) < 128 := by omega
    have hd : decide ((n : Int) < 128) = true := decide_eq_true h0
    clear hK hn hcl
    go_enter Tryd.func47, Tryd.ntmps47
    go_wp2_with fail
    go_ret
    exact ⟨rfl, rfl⟩
  · rw [cl_big b (by omega)]
    have hl := b.toNat_lt
    obtain ⟨n, hn⟩ : ∃ n, b.toNat = n := ⟨_, rfl⟩
    rw [hn] at h hl ⊢
    have hd : decide ((n : Int) < 128) = false := decide_eq_false (by omega)
    have hd2 : ¬ (n : Int) < 128 := by omega
    clear hK hn
    go_enter Tryd.func47, Tryd.ntmps47
    go_wp2_with fail
    go_ret
    exact ⟨rfl, rfl⟩
end Go.Proofs.YticepaljociefaaDoor
