/- The reference's Days. -/
import Derived.Test.YtnmlfdmlcpgaaaaRHas
namespace Go.Proofs.Ytnmlfdmlcpgaaaa
open Go.RowKit
set_option linter.unusedVariables false

theorem bool_info : (Try.prog.info? 4).map (fun i => (i.zero, i.size, i.bytes)) = some (some (.bool false), 1, 1) := by kernel_rfl
theorem make_days (w : World) : (Instr.makeSlice 44 (.int .i64 1024) (.int .i64 1024)).run Try.prog w = .ok (.slice (some ⟨w.heap.size, 0, none⟩) 1024 1024) (w.alloc (.cells (bcells fun _ => false) 4)) := by
  obtain ⟨i0, hi0, hz0, hz1, hz2⟩ := info_parts bool_info
  have h := run_make w 44 4 i0 (.bool false) Try.underlying44 hi0 hz0 .i64 .i64 1024 1024 (by omega) (by omega) (by rw [hz2]; omega) (by omega)
  rw [h, hz1]
  have e : madeCells (Value.bool false).cells ((1024 : Int).toNat * 1) = bcells fun _ => false := by
    show madeCells #[Value.bool false] 1024 = _
    apply Array.ext_getElem?
    intro i
    by_cases h : i < 1024
    · rw [show (bcells fun _ => false)[i]? = some (.bool false) from arr_get _ _ _ h]
      simp [madeCells, h, Nat.mod_one]
    · have hn : (bcells fun _ => false)[i]? = none := Array.getElem?_eq_none (by rw [bcells_size]; omega)
      rw [hn]
      simp [madeCells, h]
  rw [e]
  rfl
/-- A function has handed back a slice of days. -/
def DayPost (f : Nat → Bool) (w : World) (e : Ending) (w' : World) : Prop := ∃ g, e = .returned (.slice (some ⟨g, 0, none⟩) 1024 1024) ∧ w.heap.size ≤ g ∧ Box w' g (bcells f) 4 ∧ Below w.heap.size w w'

set_option maxHeartbeats 1000000 in
set_option maxRecDepth 100000 in
theorem refDays_any (A : Option Addr) (c : Nat) (l : List (Int × Int)) (w : World) (hS : Sl w A l c) (hl : l.length ≤ 1000000) :
    Calls Try.prog 28 #[.slice A l.length c] w (DayPost (hasB l) w) := by
  have HS := Lib.hid hS
  have hmk := make_days
  have hx := Box.new w (bcells fun _ => false) 4
  have hb := (Below.refl w.heap.size w).alloc (Nat.le_refl _) (.cells (bcells fun _ => false) 4)
  have HX := Lib.hid (And.intro hx hb)
  clear hS hx hb
  generalize hZ : bcells (fun _ => false) = Z at *
  have HZ := Lib.hid hZ
  clear hZ
  go_enter Try.func28, Try.ntmps28
  go_wp2_with fail
  go_loopw [4, 5] (fun i _ wr => ∃ k : Nat, k ≤ l.length ∧ i = .int .i64 k ∧ Box wr w.heap.size (bcells (hasB (l.take k))) 4 ∧ Below w.heap.size w wr) (fun i _ _ => l.length - (intOf i).toNat)
  case atStart =>
    refine ⟨0, Nat.zero_le _, rfl, ?_, HX.out.2⟩
    rw [show bcells (hasB (l.take 0)) = Z by rw [← HZ.out]; exact bcells_congr fun d _ => rfl]
    exact HX.out.1
  case round =>
    obtain ⟨k, hk, rfl, hx, hbw⟩ := hrel
    have HXB := Lib.hid (And.intro hx hbw)
    clear HX hx hbw
    by_cases hlt : k < l.length
    · obtain ⟨b, off, rfl, hbl, hc⟩ := HS.out.1 (by omega)
      obtain ⟨sp, hsp⟩ : ∃ sp, l[k]? = some sp := ⟨_, List.getElem?_eq_getElem hlt⟩
      obtain ⟨h1, h2⟩ := hc k sp hsp
      have c1 := (HXB.out.2.cell (p := ⟨b, off + k * 2, none⟩) hbl).trans h1
      have H2 := Lib.hid h2
      have HTK := Lib.hid (take_next _ _ _ hsp)
      obtain ⟨p, hp⟩ : ∃ p : Nat, lo sp = (p : Int) := ⟨(lo sp).toNat, by have : 0 ≤ lo sp := by unfold lo; omega
                                                                          omega⟩
      have e1 : (if sp.1 < 0 then 0 else sp.1) = (p : Int) := by unfold lo at hp; rw [← hp]; split <;> omega
      obtain ⟨Q, e2⟩ : ∃ Q, (if 1024 < sp.2 then 1024 else sp.2) = Q := ⟨_, rfl⟩
      have hQ : Q ≤ 1024 := by rw [← e2]; split <;> omega
      have hin : ∀ d : Nat, d < 1024 → inS sp d = (decide (p ≤ d) && decide ((d : Int) < Q)) := by
        intro d hd
        rw [Bool.eq_iff_iff, inS_iff, Bool.and_eq_true, decide_eq_true_eq, decide_eq_true_eq, ← e2]
        unfold lo at hp
        split <;> omega
      have HIN := Lib.hid hin
      have b1 : (0 : Int) ≤ (k : Int) ∧ (k : Int) < (l.length : Int) := by omega
      clear hc h1 h2 hsp hp hin
      go_wp2_with fail
      go_loopw [5] (fun i wr => ∃ m : Nat, p ≤ m ∧ (m = p ∨ (m : Int) ≤ Q) ∧ i = .int .i64 m ∧ Box wr w.heap.size (bcells fun d => hasB (l.take k) d || (decide (p ≤ d) && decide (d < m))) 4 ∧ Below w.heap.size w wr) (fun i _ => 1025 - (intOf i).toNat)
      case atStart =>
        refine ⟨p, Nat.le_refl _, .inl rfl, rfl, ?_, HXB.out.2⟩
        rw [bcells_congr (g := hasB (l.take k)) fun d _ => by by_cases e : p ≤ d <;> simp [e] <;> omega]
        exact HXB.out.1
      case round =>
        obtain ⟨m, hpm, hmq, rfl, hx, hbw⟩ := hrel
        have c2 := (hbw.cell (p := ⟨b, off + k * 2 + 1, none⟩) hbl).trans H2.out
        have HX := Lib.hid hx
        have HB := Lib.hid hbw
        clear hx hbw c1 HXB
        by_cases hmQ : (m : Int) < Q
        · have d1 : decide ((m : Int) < Q) = true := decide_eq_true hmQ
          have cr := HX.out.cell m
          rw [show (bcells fun d => hasB (l.take k) d || (decide (p ≤ d) && decide (d < m)))[m]? = some (.bool (hasB (l.take k) m || (decide (p ≤ m) && decide (m < m)))) from arr_get _ _ _ (by omega)] at cr
          have fr := HX.out.frozen m
          have b2 : (0 : Int) ≤ (m : Int) ∧ (m : Int) < 1024 := by omega
          go_wp2_with fail
          go_roundw
          case rel =>
            refine ⟨m + 1, by omega, .inr (by omega), by go_num, ?_, HB.out.setCell (Nat.le_refl _) _⟩
            have := HX.out.set (i := m) (v := .bool true)
            unfold bcells at this ⊢
            rw [arr_set] at this
            rw [arr_congr (g := fun j => if j = m then .bool true else .bool (hasB (l.take k) j || (decide (p ≤ j) && decide (j < m))))]
            · exact this
            · intro d _
              show Value.bool (hasB (l.take k) d || (decide (p ≤ d) && decide (d < m + 1))) = if d = m then .bool true else .bool (hasB (l.take k) d || (decide (p ≤ d) && decide (d < m)))
              by_cases e : d = m
              · subst e; simp [hpm]
              · rw [if_neg e]
                have : decide (d < m + 1) = decide (d < m) := by rw [decide_eq_decide]; omega
                rw [this]
          case measure => simp [intOf]; omega
        · have d1 : decide ((m : Int) < Q) = false := decide_eq_false hmQ
          go_wp2_with fail
          go_roundw
          case rel =>
            refine ⟨k + 1, by omega, by go_num, ?_, HB.out⟩
            rw [bcells_congr (g := fun d => hasB (l.take k) d || (decide (p ≤ d) && decide (d < m)))]
            · exact HX.out
            · intro d hd
              rw [HTK.out]
              have e : hasB (l.take k ++ [sp]) d = (hasB (l.take k) d || inS sp d) := by simp [hasB]
              rw [e, HIN.out d hd]
              by_cases hp2 : p ≤ d
              · have : decide ((d : Int) < Q) = decide (d < m) := by rw [decide_eq_decide]; omega
                rw [this]
              · simp [hp2]
          case measure => simp [intOf]; omega
    · obtain rfl : k = l.length := by omega
      go_wp2_with fail
      go_ret
      refine ⟨_, rfl, Nat.le_refl _, ?_, HXB.out.2⟩
      have := HXB.out.1
      rw [List.take_length] at this
      exact this
end Go.Proofs.Ytnmlfdmlcpgaaaa
