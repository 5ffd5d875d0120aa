/- Path and Climb, of the program and of the reference. -/
import Derived.Test.YtdjlblfpkieenaaDoorRfClimb3
namespace Go.Proofs.YtdjlblfpkieenaaDoor
open Go.RowKit Go.Sort
set_option linter.unusedVariables false

/-- A path that has been handed back. -/
def PRes (ps : List (List UInt8)) (m : Nat) (ec : Int) (w : World) (e : Ending) (w' : World) : Prop :=
  ∃ A c, e = .returned (.tuple #[.slice A m c, .int .i64 ec]) ∧ Ds w'.heap.size w' A ps ∧ m ≤ c ∧ c ≤ maxLen ∧ (A = none → c = 0) ∧ Below w.heap.size w w'
theorem PRes.of_own {ps : List (List UInt8)} {m : Nat} {w : World} {e : Ending} {w' : World} (hl : ps.length = m) (h32 : ∀ d, d ∈ ps → d.length = 32) (h : PathPost ps m w e w') : PRes ps m 0 w e w' := by
  obtain ⟨A, c, rfl, ho, hb⟩ := h
  obtain ⟨hD, h1, h2⟩ := Ds.of_own ho hl h32
  refine ⟨A, c, rfl, hD, h1, h2, fun hA => ?_, hb⟩
  subst hA
  rcases ho.2 with ⟨hv, _⟩ | ⟨_, _, _, hv, _⟩
  · injection hv
  · cases hv
theorem PRes.of_none {w : World} {e : Ending} {w' : World} (h : e = .returned (.tuple #[.slice none 0 0, .int .i64 1]) ∧ w = w') : PRes [] 0 1 w e w' := by
  obtain ⟨rfl, rfl⟩ := h
  exact ⟨none, 0, rfl, ⟨fun d hd => (by cases hd), fun hp => absurd hp (by simp)⟩, Nat.le_refl _, Nat.zero_le _, fun _ => rfl, Below.refl _ _⟩

theorem path_both (ds : List (List UInt8)) (A : Option Addr) (c n : Nat) (i : Int) (hn : ds.length = n) (h1 : n ≤ c) (h2 : c ≤ maxLen) (h3 : n ≤ 24) :
    ∃ ps m ec, ps.length = m ∧ m ≤ 1000 ∧ (∀ d, d ∈ ps → d.length = 32) ∧ ∀ W, KT W → Ds W.heap.size W A ds →
      Calls Tryd.prog 19 #[.slice A n c, .int .i64 i] W (PRes ps m ec W) ∧ Calls Tryd.prog 20 #[.slice A n c, .int .i64 i] W (PRes ps m ec W) := by
  by_cases hi : 0 ≤ i ∧ i < (n : Int)
  · obtain ⟨j, rfl⟩ := Int.eq_ofNat_of_zero_le hi.1
    have hj : j < n := by omega
    have hl := pth_length n ds j (by omega)
    rw [hn] at hl
    have h32 := pth_len32 n ds j (by omega)
    have hlt := pl_lt j n (by omega)
    refine ⟨pth ds j, pl j n, 0, hl, by omega, h32, fun W hK hD => ⟨?_, ?_⟩⟩
    · exact (path_any ds A c j n W hn hj hK hD h1 h2 (by omega)).mono fun e w' h => PRes.of_own hl h32 h
    · exact (refPath_any ds A c j n W hn hj hD h1 h2 (by omega)).mono fun e w' h => PRes.of_own hl h32 h
  · refine ⟨[], 0, 1, rfl, by omega, fun d hd => (by cases hd), fun W hK hD => ⟨?_, ?_⟩⟩
    · exact (path_no A c n i W (by omega)).mono fun e w' h => PRes.of_none h
    · exact (refPath_no A c n i W (by omega)).mono fun e w' h => PRes.of_none h

/-- Climb has handed back a digest and an error. -/
def CRes (R : List UInt8) (ec : Int) (w : World) (e : Ending) (w' : World) : Prop := e = .returned (.tuple #[.agg (dcells R), .int .i64 ec]) ∧ Below w.heap.size w w'
theorem climb_both (ps : List (List UInt8)) (m : Nat) (d : List UInt8) (i N : Int) (hm : ps.length = m) (hm2 : m ≤ 2000) (hd : d.length = 32) :
    ∃ R ec, R.length = 32 ∧ ∀ A c W, KT W → Ds W.heap.size W A ps → m ≤ c →
      Calls Tryd.prog 22 #[.agg (dcells d), .int .i64 i, .int .i64 N, .slice A m c] W (CRes R ec W) ∧ Calls Tryd.prog 23 #[.agg (dcells d), .int .i64 i, .int .i64 N, .slice A m c] W (CRes R ec W) := by
  by_cases h0 : N < 1
  · exact ⟨List.replicate 32 0, 1, rfl, fun A c W _ _ _ => ⟨climb_no_a i N h0 A m c d hd W, refClimb_no_a i N h0 A m c d hd W⟩⟩
  by_cases h1 : 1099511627776 < N
  · exact ⟨List.replicate 32 0, 1, rfl, fun A c W _ _ _ => ⟨climb_no_b i N h1 A m c d hd W, refClimb_no_b i N h1 A m c d hd W⟩⟩
  by_cases h2 : i < 0
  · exact ⟨List.replicate 32 0, 1, rfl, fun A c W _ _ _ => ⟨climb_no_c i N h0 h1 h2 A m c d hd W, refClimb_no_c i N h0 h1 h2 A m c d hd W⟩⟩
  by_cases h3 : N ≤ i
  · exact ⟨List.replicate 32 0, 1, rfl, fun A c W _ _ _ => ⟨climb_no_d i N h0 h1 h2 h3 A m c d hd W, refClimb_no_d i N h0 h1 h2 h3 A m c d hd W⟩⟩
  obtain ⟨j, rfl⟩ := Int.eq_ofNat_of_zero_le (show 0 ≤ i by omega)
  obtain ⟨n, rfl⟩ := Int.eq_ofNat_of_zero_le (show 0 ≤ N by omega)
  by_cases h4 : m = pl j n
  · refine ⟨clr ps.reverse d j n, 0, clr_length _ _ _ _, fun A c W hK hD hc => ⟨?_, ?_⟩⟩
    · exact climb_ok ps.reverse d j n m A c W (by rw [List.length_reverse, hm]) h4 (by omega) (by omega) hK hd (by rw [List.reverse_reverse]; exact hD) hc (by omega)
    · exact refClimb_ok ps.reverse d j n m A c W (by rw [List.length_reverse, hm]) h4 (by omega) (by omega) hd (by rw [List.reverse_reverse]; exact hD) hc (by omega)
  · exact ⟨List.replicate 32 0, 1, rfl, fun A c W _ _ _ => ⟨climb_no_e j n (by omega) (by omega) A m c h4 d hd W, refClimb_no_e j n (by omega) (by omega) A m c h4 d hd W⟩⟩
end Go.Proofs.YtdjlblfpkieenaaDoor
