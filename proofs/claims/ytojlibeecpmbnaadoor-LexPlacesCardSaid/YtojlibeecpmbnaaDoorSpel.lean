/- The law's spelled. -/
import Derived.Test.YtojlibeecpmbnaaDoorRDc
namespace Go.Proofs.YtojlibeecpmbnaaDoor
open Go.RowKit Go.Shelf
set_option linter.unusedVariables false
set_option linter.unusedSimpArgs false
attribute [local go_sem] bs_append

set_option maxHeartbeats 2000000 in
set_option maxRecDepth 100000 in
theorem spelled_any (t : Tk) (w : World) (hv : vtk t = true) : Calls Tryd.prog 23 #[tkv t] w (fun e w' => e = .returned (.string (bs (txk t))) ∧ Below w.heap.size w w') := by
  have HV := Lib.hid hv
  clear hv
  obtain ⟨k, s, n, p⟩ := t
  unfold tkv
  simp only
  have HB := Lib.hid ((Below.refl w.heap.size w).alloc (Nat.le_refl _) (.cells #[.int .i64 k, .string (bs s), .int .i64 n, .int .i64 p] 35))
  by_cases h2 : k = 2
  case neg =>
    have h2b : (k == 2) = false := by simpa using h2
    have h2c : (k != 2) = true := by rw [bne_iff_ne]; exact h2
    have HT := Lib.hid (show txk ⟨k, s, n, p⟩ = s from by unfold txk; rw [if_neg h2])
    go_enter Tryd.func23, Tryd.ntmps23
    go_wp2_with fail
    go_ret
    rw [HT.out]
    exact ⟨rfl, HB.out⟩
  subst h2
  obtain ⟨u, rfl, hu⟩ : ∃ u : Nat, n = (u : Int) ∧ u ≤ 1099511627776 := by
    have h := HV.out
    unfold vtk at h
    simp at h
    exact ⟨n.toNat, by omega, by omega⟩
  have HTX := Lib.hid (show txk ⟨2, s, (u : Int), p⟩ = Lib.decDigits u from by unfold txk; rw [if_pos rfl, itoa_nat (show (0 : Int) ≤ (u : Int) by omega)]; rfl)
  rw [HTX.out]
  clear HV HTX
  go_enter Tryd.func23, Tryd.ntmps23
  go_wp2_with fail
  go_loopw [3, 4] (fun x v wr => ∃ (m : Nat) (l : List UInt8), m ≤ u ∧ v = .int .i64 (m : Int) ∧ x = .string (bs l) ∧ Lib.decDigits u = Lib.decDigits m ++ l ∧ Below w.heap.size w wr) (fun _ v _ => (intOf v).toNat)
  case atStart => exact ⟨u, [], Nat.le_refl _, rfl, rfl, by rw [List.append_nil], HB.out⟩
  case round =>
    obtain ⟨m, l, hmu, rfl, rfl, hs, hb⟩ := hrel
    have HS := Lib.hid hs
    have HB1 := Lib.hid hb
    clear hs hb HB
    have hl13 : l.length ≤ 13 := by
      have hd := dec_len 13 u (by omega) (by omega)
      rw [HS.out, List.length_append] at hd
      omega
    obtain ⟨q, hq⟩ : ∃ q, m % 10 = q := ⟨_, rfl⟩
    have hq10 : q < 10 := by omega
    have hrem : (m : Int).tmod 10 = (q : Int) := by rw [← hq]; rfl
    have hw1 : IntKind.u8.wrap (48 + (q : Int)) = (48 + (q : Int)) := by rw [IntKind.wrap_u8]; omega
    have hw2 : (48 + (q : Int)) % 256 = (48 + (q : Int)) := by omega
    have hcv : (convert 39 9 (.slice (some ⟨wr.heap.size, 0, none⟩) 1 1)).run Tryd.prog (wr.alloc (.cells #[.int .u8 (48 + (q : Int))] 5)) = .ok (.string (bs [dgb q])) (wr.alloc (.cells #[.int .u8 (48 + (q : Int))] 5)) := dig_str wr hq10
    have HB2 := Lib.hid (HB1.out.trans (((Below.refl wr.heap.size wr).alloc (Nat.le_refl _) (.cells #[.int .u8 (48 + (q : Int))] 5)).mono HB1.out.size))
    have hsz := no_sum (a := [dgb q]) (b := l) (by simp; omega)
    by_cases hm : m < 10
    · have hd : decide ((m : Int) < (10 : Int)) = true := decide_eq_true (by omega)
      have hd2 : (m : Int) < (10 : Int) := by omega
      have HE := Lib.hid (show Lib.decDigits u = dgb q :: l from by rw [HS.out, dgb_lt hm, ← hq, Nat.mod_eq_of_lt hm]; rfl)
      clear hq
      go_wp2_with fail
      go_ret
      rw [HE.out]
      exact ⟨rfl, HB2.out⟩
    have hd : decide ((m : Int) < (10 : Int)) = false := decide_eq_false (by omega)
    have hd2 : ¬ (m : Int) < (10 : Int) := by omega
    have HS2 := Lib.hid (show Lib.decDigits u = Lib.decDigits (m / 10) ++ (dgb q :: l) from by rw [HS.out, dgb_ge hm, hq, List.append_assoc]; rfl)
    obtain ⟨d, hdm⟩ : ∃ d, m / 10 = d := ⟨_, rfl⟩
    have hdv : (m : Int).tdiv 10 = (d : Int) := by rw [← hdm]; rfl
    have hdv2 : (m : Int) / 10 = (d : Int) := by omega
    have hdlt : d < m := by omega
    rw [hdm] at HS2
    clear hdm hq
    go_wp2_with fail
    go_roundw
    case rel => exact ⟨d, _, by omega, rfl, rfl, HS2.out, HB2.out⟩
    case measure => simp [intOf]; omega
end Go.Proofs.YtojlibeecpmbnaaDoor
