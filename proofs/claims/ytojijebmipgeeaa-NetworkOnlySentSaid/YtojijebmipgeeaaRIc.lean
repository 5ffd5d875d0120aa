/- The reference's IsCut. -/
import Derived.Test.YtojijebmipgeeaaRAs
import Derived.Test.YtojijebmipgeeaaPlC
namespace Go.Proofs.Ytojijebmipgeeaa
open Go.RowKit
set_option linter.unusedVariables false

def isc (l : List (Int × Int)) (x : Int × Int) : Bool := l.any (fun y => x == y)
theorem isc_zero (l : List (Int × Int)) (x : Int × Int) : isc (l.take 0) x = false := rfl
theorem isc_succ {l : List (Int × Int)} {x y : Int × Int} {j : Nat} (h : isc (l.take j) x = false) (hp : l[j]? = some y) (hn : (x == y) = false) : isc (l.take (j + 1)) x = false := by
  unfold isc at *
  rw [List.take_add_one, List.any_append, h, hp]
  simp [hn]
theorem isc_hit {l : List (Int × Int)} {x y : Int × Int} {j : Nat} (hp : l[j]? = some y) (h : (x == y) = true) : isc l x = true := List.any_eq_true.2 ⟨y, List.mem_of_getElem? hp, h⟩
theorem isc_end {l : List (Int × Int)} {x : Int × Int} {j : Nat} (h : isc (l.take j) x = false) (hj : l.length = j) : isc l x = false := by
  rw [← hj, List.take_length] at h
  exact h
theorem pr_no1 {a b c d : Int} (h : (c == a) = false) : (((a, b) : Int × Int) == (c, d)) = false := by
  have : ¬ c = a := by simpa using h
  show (a == c && b == d) = false
  rw [show (a == c) = false from by simpa using fun e => this e.symm]; rfl
theorem pr_no2 {a b c d : Int} (h : (d == b) = false) : (((a, b) : Int × Int) == (c, d)) = false := by
  have : ¬ d = b := by simpa using h
  show (a == c && b == d) = false
  rw [show (b == d) = false from by simpa using fun e => this e.symm, Bool.and_false]
theorem pr_yes {a b c d : Int} (h : (c == a) = true) (h2 : (d == b) = true) : (((a, b) : Int × Int) == (c, d)) = true := by
  obtain rfl : c = a := by simpa using h
  obtain rfl : d = b := by simpa using h2
  simp
theorem btw_lt {a b : Int} (h : a < b) : btw a b = (a, b) := by unfold btw; rw [show min a b = a by omega, show max a b = b by omega]
theorem btw_gt {a b : Int} (h : b < a) : btw a b = (b, a) := by unfold btw; rw [show min a b = b by omega, show max a b = a by omega]
theorem btw_eq_ (a : Int) : btw a a = (a, a) := by unfold btw; rw [show min a a = a by omega, show max a a = a by omega]

set_option maxHeartbeats 4000000 in
set_option maxRecDepth 100000 in
theorem riscut_any (n : Nt) (A B : Option Addr) (c k : Nat) (a b : Int) (w : World) (hS : NtIn w n A c B k) :
    Calls Try.prog 40 #[ntv n A c B k, .int .i64 a, .int .i64 b] w (BoolPost (isc n.ap (btw a b)) w) := by
  have hl := nt_len hS
  have hb0 := (Below.refl w.heap.size w).alloc (Nat.le_refl _) (.cells (ntc n A c B k) 25)
  have HX := Lib.hid (show NBox (w.alloc (.cells (ntc n A c B k) 25)) w.heap.size n A c B k from Box.new w _ _)
  have HB := Lib.hid hb0
  have HSI := Lib.hid (hS.up hb0)
  unfold BoolPost
  unfold ntv ntc at *
  clear hS hb0
  obtain ⟨N, hN⟩ : ∃ N, n.q.length = N := ⟨_, rfl⟩
  obtain ⟨M, hM⟩ : ∃ M, n.ap.length = M := ⟨_, rfl⟩
  have HN := Lib.hid (And.intro hN hM)
  rw [hN, hM] at hl HB HX HSI ⊢
  have hM9 := hl.2
  clear hN hM hl
  skip
  rw [show btw a b = (min a b, max a b) from rfl]
  go_enter Try.func40, Try.ntmps40
  go_wp2_with fail
  generalize w.alloc _ = W at *
  obtain ⟨x0, x1⟩ := HX.out.cells
  rw [HN.out.2] at x1
  have HXC := Lib.hid (fun V (hb : Below W.heap.size W V) => show V.cell? ⟨w.heap.size, 1, none⟩ = some (.slice B M k) from
    (hb.cell (p := ⟨w.heap.size, 1, none⟩) (World.block_lt_of_cell? _ _ x1)).trans x1)
  clear x0 x1
  go_loopw [7] (fun i wr => ∃ j : Nat, j ≤ M ∧ i = .int .i64 j ∧ isc (n.ap.take j) (min a b, max a b) = false ∧ Below W.heap.size W wr) (fun i _ => M - (intOf i).toNat)
  case atStart => exact ⟨0, Nat.zero_le _, rfl, isc_zero _ _, Below.refl _ _⟩
  case round =>
    obtain ⟨j, hj, rfl, hq, hb⟩ := hrel
    have x1 := HXC.out wr hb
    by_cases hlt : j < M
    · have hjl : j < n.ap.length := by have := HN.out.2; omega
      have hp : n.ap[j]? = some n.ap[j] := List.getElem?_eq_getElem hjl
      obtain ⟨p, hpe⟩ : ∃ p, n.ap[j] = p := ⟨_, rfl⟩
      rw [hpe] at hp
      clear hpe
      obtain ⟨bb, off, rfl, hlb, a0, a1⟩ := (HSI.out.2.up hb).at_ hp
      obtain ⟨p1, p2⟩ := p
      simp only at a0 a1
      have HPR := Lib.hid (And.intro hp (And.intro hq hb))
      have hj0 : (0 : Int) ≤ (j : Int) := by omega
      have hjM : (j : Int) < (M : Int) := by omega
      clear hp hq hb hjl hlb
      cases q1 : p1 == min a b
      · have HQ := Lib.hid (show (((min a b, max a b) : Int × Int) == (p1, p2)) = false from pr_no1 q1)
        go_wp2_with fail
        go_roundw
        case rel => exact ⟨j + 1, by omega, by go_num, isc_succ HPR.out.2.1 HPR.out.1 HQ.out, HPR.out.2.2⟩
        case measure => simp [intOf]; omega
      · cases q2 : p2 == max a b
        · have HQ := Lib.hid (show (((min a b, max a b) : Int × Int) == (p1, p2)) = false from pr_no2 q2)
          go_wp2_with fail
          go_roundw
          case rel => exact ⟨j + 1, by omega, by go_num, isc_succ HPR.out.2.1 HPR.out.1 HQ.out, HPR.out.2.2⟩
          case measure => simp [intOf]; omega
        · have HQ := Lib.hid (show (((min a b, max a b) : Int × Int) == (p1, p2)) = true from pr_yes q1 q2)
          go_wp2_with fail
          go_ret
          exact ⟨by rw [isc_hit HPR.out.1 HQ.out]; rfl, HB.out.trans (HPR.out.2.2.mono HB.out.size)⟩
    · obtain rfl : j = M := by omega
      have HQQ := Lib.hid (And.intro hq hb)
      clear hq hb
      go_wp2_with fail
      go_ret
      exact ⟨by rw [isc_end HQQ.out.1 HN.out.2]; rfl, HB.out.trans (HQQ.out.2.mono HB.out.size)⟩
end Go.Proofs.Ytojijebmipgeeaa
