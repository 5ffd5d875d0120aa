/- bytes.Compare; the order of elements. -/
import Derived.Test.YtobchecnfkocdaaGs
import Derived.Test.YtobchecnfkocdaaPgC
import Derived.Lib.Bytealg
import Derived.Lib.BytesEntry
import Derived.Laws.Externs
import Derived.Sort.Row
import Derived.Sort.Grow
namespace Go.Proofs.Ytobchecnfkocdaa
open Go.RowKit
set_option linter.unusedVariables false
set_option linter.unusedSimpArgs false

def nums (x : List UInt8) : List Int := x.map fun u => (u.toNat : Int)
theorem bytes_nums (x : List UInt8) : Lib.bytesOf (nums x) = x := by
  unfold Lib.bytesOf nums
  rw [List.map_map]
  refine (List.map_congr_left fun u _ => ?_).trans (List.map_id x)
  simp
theorem run_lb (x : List UInt8) (b o : Nat) (w : World) (h : ∀ j u, x[j]? = some u → w.cell? ⟨b, o + j, none⟩ = some (bv u)) : (Extern.Bytes.loadBytes ⟨b, o, none⟩ x.length .empty).run Try.prog w = .ok ⟨x.toArray⟩ w := by
  have e := Lib.run_loadBytesX (P := Try.prog) w (nums x) ⟨b, o, none⟩ .empty (fun j z hz => by
    unfold nums at hz
    rw [List.getElem?_map] at hz
    cases hx : x[j]? with
    | none => rw [hx] at hz; cases hz
    | some u =>
      rw [hx] at hz
      injection hz with hz
      subst hz
      rw [add_off]
      exact h j u hx)
  rw [bytes_nums] at e
  unfold nums at e
  rw [List.length_map] at e
  rw [e]
  congr 1
  apply ByteArray.ext
  show (#[] : Array UInt8) ++ x.toArray = x.toArray
  simp
theorem run_compare (x y : List UInt8) (b1 o1 c1 b2 o2 c2 : Nat) (w : World) (h1 : ∀ j u, x[j]? = some u → w.cell? ⟨b1, o1 + j, none⟩ = some (bv u)) (h2 : ∀ j u, y[j]? = some u → w.cell? ⟨b2, o2 + j, none⟩ = some (bv u)) :
    (Extern.BytealgCompare.compare #[.slice (some ⟨b1, o1, none⟩) x.length c1, .slice (some ⟨b2, o2, none⟩) y.length c2]).run Try.prog w = .ok (.int .i64 (Lib.compareBytes x y)) w := by
  change Sem.run Try.prog (do pure (goInt (Extern.BytealgCompare.cmp (← Extern.Bytes.loadBytes ⟨b1, o1, none⟩ x.length .empty) (← Extern.Bytes.loadBytes ⟨b2, o2, none⟩ y.length .empty)))) w = _
  have e1 := run_lb x b1 o1 w h1
  have e2 := run_lb y b2 o2 w h2
  simp only [Sem.run_bind, Sem.run_pure, e1, e2, Result.andThen]
  rw [Lib.cmp_eq]
  rfl
set_option maxHeartbeats 1000000 in
set_option maxRecDepth 100000 in
theorem bcompare_any (x y : List UInt8) (b1 o1 c1 b2 o2 c2 n1 n2 : Nat) (w : World) (hn1 : x.length = n1) (hn2 : y.length = n2) (h1 : ∀ j u, x[j]? = some u → w.cell? ⟨b1, o1 + j, none⟩ = some (bv u)) (h2 : ∀ j u, y[j]? = some u → w.cell? ⟨b2, o2 + j, none⟩ = some (bv u)) :
    Calls Try.prog 44 #[.slice (some ⟨b1, o1, none⟩) n1 c1, .slice (some ⟨b2, o2, none⟩) n2 c2] w (fun e w' => e = .returned (.int .i64 (Lib.compareBytes x y)) ∧ w' = w) := by
  subst hn1 hn2
  have hrun := run_compare x y b1 o1 c1 b2 o2 c2 w h1 h2
  generalize x.length = n1 at *
  generalize y.length = n2 at *
  go_enter Try.func44, Try.ntmps44
  go_wp2
  rw [run_callFunc_extern Try.func49 (by kernel_rfl) (by kernel_rfl) (by kernel_rfl) (e := Extern.BytealgCompare.compare) (by kernel_rfl), hrun]
  simp only [Result.andThen]
  rw [Oper.upon_value]
  go_wp2
  go_ret
  exact ⟨rfl, rfl⟩

/-- 256 numbers that are bytes. -/
abbrev El := { p : List Nat // p.length = 256 ∧ ∀ x ∈ p, x < 256 }
instance : Inhabited El := ⟨⟨List.replicate 256 0, List.length_replicate, fun x hx => by rw [(List.mem_replicate.1 hx).2]; omega⟩⟩
def ele (x : El) : List Value := x.1.map fun (v : Nat) => Value.int .u8 (v : Int)
theorem ele_len (x : El) : (ele x).length = 256 := by unfold ele; rw [List.length_map, x.2.1]
theorem ele_one (x : El) : ∀ v ∈ ele x, v.oneCell' = true := by
  intro v hv
  unfold ele at hv
  obtain ⟨y, _, rfl⟩ := List.mem_map.1 hv
  rfl
def cfE (x y : El) : Int := ord (ints x.1) (ints y.1)
def byl (p : List Nat) : List UInt8 := p.map UInt8.ofNat
theorem cmp_ord : ∀ {p q : List Nat}, (∀ x ∈ p, x < 256) → (∀ x ∈ q, x < 256) → Lib.compareBytes (byl p) (byl q) = ord (ints p) (ints q)
  | [], [], _, _ => rfl
  | [], _ :: _, _, _ => rfl
  | _ :: _, [], _, _ => rfl
  | x :: p, y :: q, h1, h2 => by
    have hx : x < 256 := h1 x (List.mem_cons_self ..)
    have hy : y < 256 := h2 y (List.mem_cons_self ..)
    have ih := cmp_ord (p := p) (q := q) (fun z hz => h1 z (List.mem_cons_of_mem _ hz)) (fun z hz => h2 z (List.mem_cons_of_mem _ hz))
    have ex : (UInt8.ofNat x).toNat = x := UInt8.toNat_ofNat_of_lt' (by simpa [UInt8.size] using hx)
    have ey : (UInt8.ofNat y).toNat = y := UInt8.toNat_ofNat_of_lt' (by simpa [UInt8.size] using hy)
    show (if UInt8.ofNat x < UInt8.ofNat y then (-1 : Int) else if UInt8.ofNat y < UInt8.ofNat x then 1 else Lib.compareBytes (byl p) (byl q)) = (if (x : Int) < (y : Int) then (-1 : Int) else if (y : Int) < (x : Int) then 1 else ord (ints p) (ints q))
    rw [ih]
    simp only [UInt8.lt_iff_toNat_lt, ex, ey, Int.ofNat_lt]
theorem ele_at {x : El} {j : Nat} {u : UInt8} (h : (byl x.1)[j]? = some u) : (ele x)[j]? = some (bv u) := by
  unfold byl at h
  unfold ele
  rw [List.getElem?_map] at h ⊢
  cases e : x.1[j]? with
  | none => rw [e] at h; cases h
  | some v =>
    rw [e] at h
    injection h with h
    subst h
    have := x.2.2 v (List.mem_of_getElem? e)
    rw [bv_of v this]
    rfl
end Go.Proofs.Ytobchecnfkocdaa
