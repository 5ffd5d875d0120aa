/- The reference's Identity, with the kind of its block. -/
import Derived.Test.YtobchecnfkocdaaRPt
import Derived.Test.YtobchecnfkocdaaPi
namespace Go.Proofs.Ytobchecnfkocdaa
open Go.RowKit
set_option linter.unusedVariables false
set_option linter.unusedSimpArgs false

set_option maxHeartbeats 4000000 in
set_option maxRecDepth 100000 in
theorem identity_tb (n : Int) (w : World) (hl : n ≤ 100000) :
    Calls Try.prog 25 #[.int .i64 n] w (ListT (ris (fun i => (i : Int)) n.toNat) w) := by
  obtain ⟨m, hm⟩ : ∃ m, n.toNat = m := ⟨_, rfl⟩
  rw [hm]
  have hXl := ris_length (fun i => (i : Int)) m
  have HX := Lib.hid (And.intro hXl (fun j (hj : j < m) => ris_at (fun i => (i : Int)) hj))
  generalize ris (fun i => (i : Int)) m = X at *
  unfold ListT
  rw [hXl]
  clear hXl
  have HE := Lib.hid (show (w.alloc (.cells #[] 3)).ownsRow w.heap.size 3 1 (.slice (some ⟨w.heap.size, 0, none⟩) 0 0) 0 [] from World.ownsRow_lit w #[] 0 (Nat.le_refl _) (by unfold maxLen; omega) rfl)
  have HEB := Lib.hid ((Below.refl w.heap.size w).alloc (Nat.le_refl _) (.cells #[] 3))
  have HM := Lib.hid hm
  clear hm
  go_enter Try.func25, Try.ntmps25
  go_wp2_with fail
  go_loopw [3, 4] (fun v i wr => ∃ (j : Nat) (A' : Option Addr) (c' : Nat), j ≤ m ∧ v = .slice A' j c' ∧ i = .int .i64 (j : Int) ∧ wr.ownsRow w.heap.size 3 1 (.slice A' j c') j ((X.take j).map iv) ∧ Below w.heap.size w wr) (fun _ i _ => m - (intOf i).toNat)
  case atStart => exact ⟨0, _, 0, Nat.zero_le _, rfl, rfl, HE.out, HEB.out⟩
  case round =>
    obtain ⟨j, A', c', hj, rfl, rfl, hown, hb⟩ := hrel
    have KR := Lib.hid (And.intro hown hb)
    clear hown hb HE HEB
    by_cases hlt : j < m
    case neg =>
      have hdj : decide ((j : Int) < n) = false := decide_eq_false (by have := HM.out; omega)
      have hdk : n ≤ (j : Int) := by have := HM.out; omega
      obtain rfl : j = m := by omega
      have h := KR.out.1
      rw [List.take_of_length_le (by rw [HX.out.1]; exact Nat.le_refl _)] at h
      have HF := Lib.hid (show Si wr A' X c' from Sv.of_own h (by rw [List.length_map]; exact HX.out.1))
      clear h
      go_wp2_with fail
      go_ret
      exact ⟨_, _, rfl, HF.out, Tb.of_own KR.out.1, KR.out.2⟩
    have hdj : decide ((j : Int) < n) = true := decide_eq_true (by have := HM.out; omega)
    have hdk : (j : Int) < n := by have := HM.out; omega
    have htk : X.take (j + 1) = X.take j ++ [(j : Int)] := take_next (HX.out.2 j hlt)
    have HTK := Lib.hid htk
    have hm9 : m ≤ 100000 := by have := HM.out; omega
    have hba2 := (Below.refl wr.heap.size wr).alloc (Nat.le_refl _) (.cells #[.int .i64 (j : Int)] 3)
    have HA1 := Lib.hid (And.intro (own_below KR.out.1 hba2) (KR.out.2.trans (hba2.mono KR.out.2.size)))
    clear htk hba2
    go_wp2_with (at_builtin; refine wpList_append_int rfl (.tmp 11) (.tmp 13) rfl _ j _ rfl HA1.out.1 wr.heap.size (j : Int) rfl (Box.new wr _ _) (by omega) HA1.out.2.size ?_; intro g1 c1 w7 ho7 hg7; have H7 := Lib.hid (And.intro ho7 (own_grown HA1.out.2 HA1.out.1 hg7 HA1.out.2.size)); clear ho7 hg7)
    go_roundw
    case rel => exact ⟨j + 1, _, _, by omega, rfl, by go_num, by rw [HTK.out]; exact H7.out.1, H7.out.2⟩
    case measure => simp [intOf]; omega
theorem identity_pt (n : Nat) (hn : n ≤ 256) (w : World) : Calls Try.prog 25 #[.int .i64 (n : Int)] w (fun e w' => ∃ A c, e = .returned (.slice A n c) ∧ Si w' A (ints (List.range n)) c ∧ Tb w' A ∧ Below w.heap.size w w') := by
  have h := identity_tb (n : Int) w (by omega)
  refine h.mono fun e w' ⟨A', c', h1, h2, h3, h4⟩ => ⟨A', c', ?_, ?_, h3, h4⟩
  · rw [h1, Int.toNat_natCast, ris_length]
  · rw [Int.toNat_natCast] at h2
    exact h2
def ListO (l : List Int) (w : World) (e : Ending) (w' : World) : Prop := ∃ A c, e = .returned (.slice A l.length c) ∧ w'.ownsRow w.heap.size 3 1 (.slice A l.length c) l.length (l.map iv) ∧ Below w.heap.size w w'
set_option maxHeartbeats 4000000 in
set_option maxRecDepth 100000 in
theorem identity_own (n : Int) (w : World) (hl : n ≤ 100000) :
    Calls Try.prog 25 #[.int .i64 n] w (ListO (ris (fun i => (i : Int)) n.toNat) w) := by
  obtain ⟨m, hm⟩ : ∃ m, n.toNat = m := ⟨_, rfl⟩
  rw [hm]
  have hXl := ris_length (fun i => (i : Int)) m
  have HX := Lib.hid (And.intro hXl (fun j (hj : j < m) => ris_at (fun i => (i : Int)) hj))
  generalize ris (fun i => (i : Int)) m = X at *
  unfold ListO
  rw [hXl]
  clear hXl
  have HE := Lib.hid (show (w.alloc (.cells #[] 3)).ownsRow w.heap.size 3 1 (.slice (some ⟨w.heap.size, 0, none⟩) 0 0) 0 [] from World.ownsRow_lit w #[] 0 (Nat.le_refl _) (by unfold maxLen; omega) rfl)
  have HEB := Lib.hid ((Below.refl w.heap.size w).alloc (Nat.le_refl _) (.cells #[] 3))
  have HM := Lib.hid hm
  clear hm
  go_enter Try.func25, Try.ntmps25
  go_wp2_with fail
  go_loopw [3, 4] (fun v i wr => ∃ (j : Nat) (A' : Option Addr) (c' : Nat), j ≤ m ∧ v = .slice A' j c' ∧ i = .int .i64 (j : Int) ∧ wr.ownsRow w.heap.size 3 1 (.slice A' j c') j ((X.take j).map iv) ∧ Below w.heap.size w wr) (fun _ i _ => m - (intOf i).toNat)
  case atStart => exact ⟨0, _, 0, Nat.zero_le _, rfl, rfl, HE.out, HEB.out⟩
  case round =>
    obtain ⟨j, A', c', hj, rfl, rfl, hown, hb⟩ := hrel
    have KR := Lib.hid (And.intro hown hb)
    clear hown hb HE HEB
    by_cases hlt : j < m
    case neg =>
      have hdj : decide ((j : Int) < n) = false := decide_eq_false (by have := HM.out; omega)
      have hdk : n ≤ (j : Int) := by have := HM.out; omega
      obtain rfl : j = m := by omega
      have h := KR.out.1
      rw [List.take_of_length_le (by rw [HX.out.1]; exact Nat.le_refl _)] at h
      have HO := Lib.hid h
      have HF := Lib.hid (show Si wr A' X c' from Sv.of_own h (by rw [List.length_map]; exact HX.out.1))
      clear h
      go_wp2_with fail
      go_ret
      exact ⟨_, _, rfl, HO.out, KR.out.2⟩
    have hdj : decide ((j : Int) < n) = true := decide_eq_true (by have := HM.out; omega)
    have hdk : (j : Int) < n := by have := HM.out; omega
    have htk : X.take (j + 1) = X.take j ++ [(j : Int)] := take_next (HX.out.2 j hlt)
    have HTK := Lib.hid htk
    have hm9 : m ≤ 100000 := by have := HM.out; omega
    have hba2 := (Below.refl wr.heap.size wr).alloc (Nat.le_refl _) (.cells #[.int .i64 (j : Int)] 3)
    have HA1 := Lib.hid (And.intro (own_below KR.out.1 hba2) (KR.out.2.trans (hba2.mono KR.out.2.size)))
    clear htk hba2
    go_wp2_with (at_builtin; refine wpList_append_int rfl (.tmp 11) (.tmp 13) rfl _ j _ rfl HA1.out.1 wr.heap.size (j : Int) rfl (Box.new wr _ _) (by omega) HA1.out.2.size ?_; intro g1 c1 w7 ho7 hg7; have H7 := Lib.hid (And.intro ho7 (own_grown HA1.out.2 HA1.out.1 hg7 HA1.out.2.size)); clear ho7 hg7)
    go_roundw
    case rel => exact ⟨j + 1, _, _, by omega, rfl, by go_num, by rw [HTK.out]; exact H7.out.1, H7.out.2⟩
    case measure => simp [intOf]; omega
end Go.Proofs.Ytobchecnfkocdaa
