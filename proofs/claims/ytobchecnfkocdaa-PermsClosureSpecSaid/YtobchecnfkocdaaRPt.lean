/- The reference's Product, with the kind of its block. -/
import Derived.Test.YtobchecnfkocdaaOl
namespace Go.Proofs.Ytobchecnfkocdaa
open Go.RowKit
set_option linter.unusedVariables false
set_option linter.unusedSimpArgs false

/-- A list of numbers that a call makes and hands back. -/
def ListT (l : List Int) (w : World) (e : Ending) (w' : World) : Prop := ∃ A c, e = .returned (.slice A l.length c) ∧ Si w' A l c ∧ Tb w' A ∧ Below w.heap.size w w'

set_option maxHeartbeats 4000000 in
set_option maxRecDepth 100000 in
theorem product_tb (A : Option Addr) (c : Nat) (a : List Int) (B : Option Addr) (d : Nat) (b : List Int) (w : World) (hA : Si w A a c) (hB : Si w B b d) (hr : ∀ x ∈ b, 0 ≤ x ∧ x < (a.length : Int)) (hl : b.length ≤ 100000) :
    Calls Try.prog 28 #[.slice A a.length c, .slice B b.length d] w (ListT (cmi a b) w) := by
  have hl1 := hA.le
  have HS := Lib.hid (And.intro hA hB)
  obtain ⟨n, hn⟩ : ∃ n, a.length = n := ⟨_, rfl⟩
  obtain ⟨m, hm⟩ : ∃ m, b.length = m := ⟨_, rfl⟩
  have hcl := cmi_length a b
  have hcv : ∀ (j : Nat) (x : Nat), b[j]? = some (x : Int) → (cmi a b)[j]? = some (a.getD x 0) := fun j x hx => by
    unfold cmi
    rw [List.getElem?_map, hx]
    rfl
  rw [hn] at hr hl1
  rw [hm] at hcl hl
  have HOK := Lib.hid (And.intro hr (And.intro hcv (And.intro hn (And.intro hm hcl))))
  generalize cmi a b = X at *
  unfold ListT
  rw [hn, hm, hcl]
  clear hA hB hr hcv hn hm hcl
  have HE := Lib.hid (show (w.alloc (.cells #[] 3)).ownsRow w.heap.size 3 1 (.slice (some ⟨w.heap.size, 0, none⟩) 0 0) 0 [] from World.ownsRow_lit w #[] 0 (Nat.le_refl _) (by unfold maxLen; omega) rfl)
  have HEB := Lib.hid ((Below.refl w.heap.size w).alloc (Nat.le_refl _) (.cells #[] 3))
  go_enter Try.func28, Try.ntmps28
  go_wp2_with fail
  go_loopw [5, 6] (fun v i wr => ∃ (j : Nat) (A' : Option Addr) (c' : Nat), j ≤ m ∧ v = .slice A' j c' ∧ i = .int .i64 (j : Int) ∧ wr.ownsRow w.heap.size 3 1 (.slice A' j c') j ((X.take j).map iv) ∧ Below w.heap.size w wr) (fun _ i _ => m - (intOf i).toNat)
  case atStart => exact ⟨0, _, 0, Nat.zero_le _, rfl, rfl, HE.out, HEB.out⟩
  case round =>
    obtain ⟨j, A', c', hj, rfl, rfl, hown, hb⟩ := hrel
    have KR := Lib.hid (And.intro hown hb)
    clear hown hb HE HEB
    by_cases hlt : j < m
    case neg =>
      have hdj : decide ((j : Int) < (m : Int)) = false := decide_eq_false (by omega)
      obtain rfl : j = m := by omega
      have h := KR.out.1
      rw [List.take_of_length_le (by rw [HOK.out.2.2.2.2]; exact Nat.le_refl _)] at h
      have HF := Lib.hid (And.intro (show Si wr A' X c' from Sv.of_own h (by rw [List.length_map]; exact HOK.out.2.2.2.2)) (Tb.of_own h))
      clear h
      go_wp2_with fail
      go_ret
      exact ⟨_, _, rfl, HF.out.1, HF.out.2, KR.out.2⟩
    have hdj : decide ((j : Int) < (m : Int)) = true := decide_eq_true (by omega)
    obtain ⟨x, hx⟩ : ∃ x, b[j]? = some x := ⟨_, List.getElem?_eq_getElem (by rw [HOK.out.2.2.2.1]; exact hlt)⟩
    have hxr := HOK.out.1 x (List.mem_of_getElem? hx)
    obtain ⟨x, rfl⟩ : ∃ x' : Nat, x = (x' : Int) := ⟨x.toNat, by omega⟩
    obtain ⟨y, hy⟩ : ∃ y, a[x]? = some y := ⟨_, List.getElem?_eq_getElem (by rw [HOK.out.2.2.1]; omega)⟩
    obtain ⟨bb, ob, rfl, hbb, hcb⟩ := HS.out.2.at_ hx
    obtain ⟨ba, oa, rfl, hba, hca⟩ := HS.out.1.at_ hy
    have z0 : wr.cell? ⟨bb, ob + j, none⟩ = some (.int .i64 (x : Int)) := (KR.out.2.cell (p := ⟨bb, ob + j, none⟩) hbb).trans hcb
    have z1 : wr.cell? ⟨ba, oa + x, none⟩ = some (.int .i64 y) := (KR.out.2.cell (p := ⟨ba, oa + x, none⟩) hba).trans hca
    have htk : X.take (j + 1) = X.take j ++ [y] := take_next (by rw [HOK.out.2.1 j x hx, List.getD_eq_getElem?_getD, hy]; rfl)
    have HTK := Lib.hid htk
    have i0 : (0 : Int) ≤ (j : Int) := by omega
    have i1 : (j : Int) < (m : Int) := by omega
    have i2 : (0 : Int) ≤ (x : Int) := by omega
    have i3 : (x : Int) < (n : Int) := by omega
    have hba2 := (Below.refl wr.heap.size wr).alloc (Nat.le_refl _) (.cells #[.int .i64 y] 3)
    have HA1 := Lib.hid (And.intro (own_below KR.out.1 hba2) (KR.out.2.trans (hba2.mono KR.out.2.size)))
    clear hx hxr hy hbb hcb hba hca htk hba2
    go_wp2_with (at_builtin; refine wpList_append_int rfl (.tmp 14) (.tmp 22) rfl _ j _ rfl HA1.out.1 wr.heap.size y rfl (Box.new wr _ _) (by omega) HA1.out.2.size ?_; intro g1 c1 w7 ho7 hg7; have H7 := Lib.hid (And.intro ho7 (own_grown HA1.out.2 HA1.out.1 hg7 HA1.out.2.size)); clear ho7 hg7)
    go_roundw
    case rel => exact ⟨j + 1, _, _, by omega, rfl, by go_num, by rw [HTK.out]; exact H7.out.1, H7.out.2⟩
    case measure => simp [intOf]; omega

end Go.Proofs.Ytobchecnfkocdaa
