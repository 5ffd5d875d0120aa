/- sorted$1: the order of two elements. -/
import Derived.Test.YtobchecnfkocdaaCp
namespace Go.Proofs.Ytobchecnfkocdaa
open Go.RowKit
set_option linter.unusedVariables false
set_option linter.unusedSimpArgs false

set_option maxHeartbeats 2000000 in
set_option maxRecDepth 100000 in
theorem inE_any (x y : El) (W : World) :
    Calls Try.prog 43 #[.agg (ele x).toArray, .agg (ele y).toArray] W (fun e w' => e = .returned (.int .i64 (cfE x y)) ∧ ∃ q os, w' = Go.Sort.grow (W.drewN q) os) := by
  obtain ⟨CX, hCX⟩ : ∃ CX, (ele x).toArray = CX := ⟨_, rfl⟩
  obtain ⟨CY, hCY⟩ : ∃ CY, (ele y).toArray = CY := ⟨_, rfl⟩
  have hx1 : ∀ j u, (byl x.1)[j]? = some u → CX[j]? = some (bv u) := fun j u h => by rw [← hCX, List.getElem?_toArray]; exact ele_at h
  have hy1 : ∀ j u, (byl y.1)[j]? = some u → CY[j]? = some (bv u) := fun j u h => by rw [← hCY, List.getElem?_toArray]; exact ele_at h
  rw [hCX, hCY]
  have hbx := (Box.new W CX 55).alloc (.cells CY 55)
  have hby := Box.new (W.alloc (.cells CX 55)) CY 55
  rw [World.size_alloc] at hby
  have hgrow : ∀ q, ((W.alloc (.cells CX 55)).alloc (.cells CY 55)).drewN q = Go.Sort.grow (W.drewN q) (#[.cells CX 55] ++ #[.cells CY 55]) := fun q => by
    rw [Go.Sort.alloc_eq_grow, Go.Sort.alloc_eq_grow, Go.Sort.grow_grow]
    rfl
  have HG := Lib.hid hgrow
  obtain ⟨B, hB⟩ : ∃ B, W.heap.size = B := ⟨_, rfl⟩
  rw [hB] at hbx hby
  have lx : (byl x.1).length = 256 := by unfold byl; rw [List.length_map, x.2.1]
  have ly : (byl y.1).length = 256 := by unfold byl; rw [List.length_map, y.2.1]
  have HC := Lib.hid (fun (q : Nat) => bcompare_any (byl x.1) (byl y.1) B 0 256 (B + 1) 0 256 256 256 (((W.alloc (.cells CX 55)).alloc (.cells CY 55)).drewN q) lx ly
    (fun j u h => by rw [Nat.zero_add]; exact (show _ from (show Box (((W.alloc (.cells CX 55)).alloc (.cells CY 55)).drewN q) B CX _ from hbx).cell j).trans (hx1 j u h))
    (fun j u h => by rw [Nat.zero_add]; exact (show _ from (show Box (((W.alloc (.cells CX 55)).alloc (.cells CY 55)).drewN q) (B + 1) CY _ from hby).cell j).trans (hy1 j u h)))
  rw [cmp_ord x.2.2 y.2.2] at HC
  unfold cfE
  generalize ord (ints x.1) (ints y.1) = o at *
  clear hx1 hy1 hgrow hCX hCY hbx hby lx ly
  go_enter Try.func43, Try.ntmps43
  go_upto_region 1 with fail
  generalize (W.alloc (.cells CX 55)).alloc (.cells CY 55) = V at *
  go_quiet ((go_at_call 44; exact Calls.quiet_of_same (HC.out _)))
  go_wp2_with fail
  go_ret
  exact ⟨rfl, _, _, HG.out _⟩
end Go.Proofs.Ytobchecnfkocdaa
