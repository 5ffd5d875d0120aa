/- Check, holds, isCut. -/
import Derived.Test.YtojijebmipgeeaaCk
import Derived.Test.YtojijebmipgeeaaShelf
import Derived.Lib.Hide
namespace Go.Proofs.Ytojijebmipgeeaa
open Go.RowKit Go.Sort Go.Lib
set_option linter.unusedVariables false

def IntPost (n : Int) (w : World) (e : Ending) (w' : World) : Prop := e = .returned (.int .i64 n) ∧ Below w.heap.size w w'
theorem nt_len {w : World} {n : Nt} {A B : Option Addr} {c k : Nat} (h : NtIn w n A c B k) : n.q.length ≤ 9223372036854775807 ∧ n.ap.length ≤ 9223372036854775807 := by
  have h1 := Nat.le_trans h.1.2.1 h.1.2.2.1
  have h2 := Nat.le_trans h.2.2.1 h.2.2.2.1
  unfold maxLen at h1 h2
  omega
/-- A box of links. -/
def NBox (w : World) (b : Nat) (n : Nt) (A : Option Addr) (c : Nat) (B : Option Addr) (k : Nat) : Prop := Box w b (ntc n A c B k) 25
theorem NBox.up {w w' : World} {b : Nat} {n : Nt} {A B : Option Addr} {c k : Nat} (h : NBox w b n A c B k) (hb : Below w.heap.size w w') : NBox w' b n A c B k := Box.below h hb
theorem NBox.cells {w : World} {b : Nat} {n : Nt} {A B : Option Addr} {c k : Nat} (h : NBox w b n A c B k) : w.cell? ⟨b, 0, none⟩ = some (.slice A n.q.length c) ∧ w.cell? ⟨b, 1, none⟩ = some (.slice B n.ap.length k) := ⟨h.cell 0, h.cell 1⟩

set_option maxHeartbeats 2000000 in
set_option maxRecDepth 100000 in
theorem check_any (n : Nt) (A B : Option Addr) (c k : Nat) (w : World) (hS : NtIn w n A c B k) :
    Calls Try.prog 13 #[ntv n A c B k] w (IntPost (chk n) w) := by
  have hb0 := (Below.refl w.heap.size w).alloc (Nat.le_refl _) (.cells (ntc n A c B k) 25)
  have hl := nt_len hS
  have HX := Lib.hid (show NBox (w.alloc (.cells (ntc n A c B k) 25)) w.heap.size n A c B k from Box.new w _ _)
  have HQ := Lib.hid (fun W (hb : Below w.heap.size w W) (h : n.q.length ≤ 1000000) => arePackets_any A c n.q W (hS.1.up hb) h)
  have HP := Lib.hid (fun W (hb : Below w.heap.size w W) => areCuts_any B k n.ap W (hS.2.up hb) hl.2)
  have HB := Lib.hid hb0
  have hv : vld n = (decide (n.q.length ≤ 4096) && n.q.all okp && apk n.ap) := rfl
  unfold IntPost BoolPost at *
  unfold chk
  unfold ntv ntc at *
  clear hS hb0
  obtain ⟨N, hN⟩ : ∃ N, n.q.length = N := ⟨_, rfl⟩
  obtain ⟨M, hM⟩ : ∃ M, n.ap.length = M := ⟨_, rfl⟩
  rw [hN] at hv hl HX HQ HB ⊢
  rw [hM] at hl HX HP HB ⊢
  clear hN hM
  by_cases h1 : N ≤ 4096
  · have hd : decide ((4096 : Int) < (N : Int)) = false := decide_eq_false (by omega)
    have hd2 : decide (4096 < N) = false := decide_eq_false (by omega)
    rw [decide_eq_true h1, Bool.true_and] at hv
    cases h2 : n.q.all okp
    · rw [h2] at hv HQ
      rw [hv]
      clear hv h2
      go_enter Try.func13, Try.ntmps13
      go_wp2_with ((with_reducible refine (HQ.out _ HB.out (by omega)).mono ?_); rintro e w1 ⟨rfl, hb1⟩; have HB1 := Lib.hid (HB.out.trans (hb1.mono HB.out.size)); clear hb1)
      go_ret
      exact ⟨rfl, HB1.out⟩
    · rw [h2] at hv HQ
      rw [Bool.true_and] at hv
      cases h3 : apk n.ap
      all_goals
        rw [h3] at hv HP
        rw [hv]
        clear hv h2 h3
        go_enter Try.func13, Try.ntmps13
        go_wp2_with (first
          | ((with_reducible refine (HQ.out _ HB.out (by omega)).mono ?_); rintro e w1 ⟨rfl, hb1⟩; have HB1 := Lib.hid (HB.out.trans (hb1.mono HB.out.size)); (obtain ⟨hc, hf⟩ := bcell hb1); clear hb1)
          | ((with_reducible refine (HP.out _ HB1.out).mono ?_); rintro e w2 ⟨rfl, hb2⟩; have HB2 := Lib.hid (HB1.out.trans (hb2.mono HB1.out.size)); clear hb2))
        go_ret
        exact ⟨rfl, HB2.out⟩
  · have hd : decide ((4096 : Int) < (N : Int)) = true := decide_eq_true (by omega)
    have hd2 : decide (4096 < N) = true := decide_eq_true (by omega)
    rw [decide_eq_false h1] at hv
    simp only [Bool.false_and] at hv
    rw [hv]
    clear hv
    go_enter Try.func13, Try.ntmps13
    go_wp2_with fail
    go_ret
    exact ⟨rfl, HB.out⟩

set_option maxHeartbeats 2000000 in
theorem holds_any (n : Nt) (A B : Option Addr) (c k : Nat) (i : Int) (w : World) (hS : NtIn w n A c B k) :
    Calls Try.prog 41 #[ntv n A c B k, .int .i64 i] w (IntPost (hle n i) w) := by
  have hb0 := (Below.refl w.heap.size w).alloc (Nat.le_refl _) (.cells (ntc n A c B k) 25)
  have hl := nt_len hS
  have HC := Lib.hid (fun W (hb : Below w.heap.size w W) => check_any n A B c k W (hS.up hb))
  have HB := Lib.hid hb0
  have hx := (show NBox (w.alloc (.cells (ntc n A c B k) 25)) w.heap.size n A c B k from Box.new w _ _).cells
  have hq : inq n i = decide (0 ≤ i ∧ i < (n.q.length : Int)) := rfl
  unfold hle
  rcases chk_cases n with ⟨h1, h2⟩ | ⟨h1, h2⟩
  · rw [h1] at HC
    rw [h2]
    unfold IntPost at *
    unfold ntv ntc at *
    clear hS hb0 h1 h2
    obtain ⟨N, hN⟩ : ∃ N, n.q.length = N := ⟨_, rfl⟩
    rw [hN] at hl HC HB hx hq ⊢
    clear hN
    obtain ⟨hx0, hx1⟩ := hx
    have HW := Lib.hid (And.intro hx0 hx1)
    clear hx0 hx1
    by_cases g1 : 0 ≤ i
    · have gd1 : decide (i < 0) = false := decide_eq_false (by omega)
      have gd2 : ¬ i < 0 := by omega
      by_cases g2 : i < (N : Int)
      · rw [decide_eq_true ⟨g1, g2⟩] at hq
        rw [hq]
        clear hq
        have gd3 : decide ((N : Int) ≤ i) = false := decide_eq_false (by omega)
        go_enter Try.func41, Try.ntmps41
        go_wp2_with ((with_reducible refine (HC.out _ HB.out).mono ?_); rintro e w1 ⟨rfl, hb1⟩; have HB1 := Lib.hid (HB.out.trans (hb1.mono HB.out.size)); have hc0 := (hb1.cell (p := ⟨w.heap.size, 0, none⟩) (World.block_lt_of_cell? _ _ HW.out.1)).trans HW.out.1; clear hb1)
        go_ret
        exact ⟨rfl, HB1.out⟩
      · rw [decide_eq_false (fun h => g2 h.2)] at hq
        rw [hq]
        clear hq
        have gd3 : decide ((N : Int) ≤ i) = true := decide_eq_true (by omega)
        go_enter Try.func41, Try.ntmps41
        go_wp2_with ((with_reducible refine (HC.out _ HB.out).mono ?_); rintro e w1 ⟨rfl, hb1⟩; have HB1 := Lib.hid (HB.out.trans (hb1.mono HB.out.size)); have hc0 := (hb1.cell (p := ⟨w.heap.size, 0, none⟩) (World.block_lt_of_cell? _ _ HW.out.1)).trans HW.out.1; clear hb1)
        go_ret
        exact ⟨rfl, HB1.out⟩
    · have gd1 : decide (i < 0) = true := decide_eq_true (by omega)
      rw [decide_eq_false (fun h => g1 h.1)] at hq
      rw [hq]
      clear hq
      go_enter Try.func41, Try.ntmps41
      go_wp2_with ((with_reducible refine (HC.out _ HB.out).mono ?_); rintro e w1 ⟨rfl, hb1⟩; have HB1 := Lib.hid (HB.out.trans (hb1.mono HB.out.size)); have hc0 := (hb1.cell (p := ⟨w.heap.size, 0, none⟩) (World.block_lt_of_cell? _ _ HW.out.1)).trans HW.out.1; clear hb1)
      go_ret
      exact ⟨rfl, HB1.out⟩
  · rw [h1] at HC
    rw [h2]
    unfold IntPost at *
    unfold ntv ntc at *
    clear hS hb0 h1 h2 hx
    go_enter Try.func41, Try.ntmps41
    go_wp2_with ((with_reducible refine (HC.out _ HB.out).mono ?_); rintro e w1 ⟨rfl, hb1⟩; have HB1 := Lib.hid (HB.out.trans (hb1.mono HB.out.size)); clear hb1)
    go_ret
    exact ⟨rfl, HB1.out⟩
end Go.Proofs.Ytojijebmipgeeaa
