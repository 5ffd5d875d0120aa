/- The reference's Decimal. -/
import Derived.Test.YtojlibeecpmbnaaDoorRVl
namespace Go.Proofs.YtojlibeecpmbnaaDoor
open Go.RowKit Go.Shelf
set_option linter.unusedVariables false
set_option linter.unusedSimpArgs false
attribute [local go_sem] bs_append

/-- A digit. -/
def dgb (q : Nat) : UInt8 := UInt8.ofNat (48 + q)
theorem dgb_lt {u : Nat} (h : u < 10) : Lib.decDigits u = [dgb u] := dec_lt h
theorem dgb_ge {u : Nat} (h : ¬ u < 10) : Lib.decDigits u = Lib.decDigits (u / 10) ++ [dgb (u % 10)] := dec_ge h
theorem dig_str (W : World) {q : Nat} (hq : q < 10) : (convert 39 9 (.slice (some ⟨W.heap.size, 0, none⟩) 1 1)).run Tryd.prog (W.alloc (.cells #[.int .u8 (48 + (q : Int))] 5)) = .ok (.string (bs [dgb q])) (W.alloc (.cells #[.int .u8 (48 + (q : Int))] 5)) := by
  refine run_convert_bytes_back _ _ _ _ _ 1 [dgb q] Tryd.underlying39 Tryd.underlying5 Tryd.underlying9 fun j hj => ?_
  obtain rfl : j = 0 := by simpa using hj
  have h := (Box.new W #[.int .u8 (48 + (q : Int))] 5).cell 0
  rw [add_off]
  refine h.trans ?_
  have : (dgb q).toNat = 48 + q := by
    unfold dgb
    rw [UInt8.toNat_ofNat']
    omega
  simp [this]
/-- A number's digits so far: the rest of it, and what is written. -/
def dgo (u m : Nat) (s : List UInt8) : Prop := ∃ r, s = dgb (m % 10) :: r ∧ ((m < 10 → Lib.decDigits u = s) ∧ (¬ m < 10 → Lib.decDigits u = Lib.decDigits (m / 10) ++ s))
theorem dgo_one (u : Nat) : dgo u u [dgb (u % 10)] := ⟨[], rfl, fun h => by rw [dgb_lt h, Nat.mod_eq_of_lt h], fun h => dgb_ge h⟩
theorem dgo_step {u m : Nat} {s : List UInt8} (h : dgo u m s) (hm : ¬ m < 10) : dgo u (m / 10) ([dgb (m / 10 % 10)] ++ s) := by
  obtain ⟨r, _, _, h2⟩ := h
  refine ⟨s, rfl, fun h => ?_, fun h => ?_⟩
  · rw [h2 hm, dgb_lt h, Nat.mod_eq_of_lt h]
  · rw [h2 hm, dgb_ge h, List.append_assoc]
theorem dgo_len {u m : Nat} {s : List UInt8} (h : dgo u m s) (hu : u ≤ 1099511627776) : s.length ≤ 13 := by
  have hd := dec_len 13 u (by omega) (by omega)
  obtain ⟨r, _, h1, h2⟩ := h
  by_cases hm : m < 10
  · rw [h1 hm] at hd; exact hd
  · rw [h2 hm, List.length_append] at hd; omega
theorem no_sum {a b : List UInt8} (h : a.length + b.length ≤ 1000000000) : ¬ 9223372036854775807 < (bs a).size + (bs b).size := by
  rw [bs_size, bs_size]
  omega
set_option maxHeartbeats 2000000 in
set_option maxRecDepth 100000 in
theorem rDecimal_any (u : Nat) (hu : u ≤ 1099511627776) (w : World) : Calls Tryd.prog 35 #[.int .i64 (u : Int)] w (fun e w' => e = .returned (.string (bs (Lib.decDigits u))) ∧ Below w.heap.size w w') := by
  obtain ⟨q, hq⟩ : ∃ q, u % 10 = q := ⟨_, rfl⟩
  have hq10 : q < 10 := by omega
  have hrem : (u : Int).tmod 10 = (q : Int) := by rw [← hq]; rfl
  have hw1 : IntKind.u8.wrap (48 + (q : Int)) = (48 + (q : Int)) := by rw [IntKind.wrap_u8]; omega
  have hw2 : (48 + (q : Int)) % 256 = (48 + (q : Int)) := by omega
  have hcv : (convert 39 9 (.slice (some ⟨w.heap.size, 0, none⟩) 1 1)).run Tryd.prog (w.alloc (.cells #[.int .u8 (48 + (q : Int))] 5)) = .ok (.string (bs [dgb q])) (w.alloc (.cells #[.int .u8 (48 + (q : Int))] 5)) := dig_str w hq10
  have HS0 := Lib.hid (show dgo u u [dgb q] from hq ▸ dgo_one u)
  have HB0 := Lib.hid ((Below.refl w.heap.size w).alloc (Nat.le_refl _) (.cells #[.int .u8 (48 + (q : Int))] 5))
  clear hq
  go_enter Tryd.func35, Tryd.ntmps35
  go_wp2_with fail
  go_loopw [0, 3] (fun v s wr => ∃ (m : Nat) (l : List UInt8), m ≤ u ∧ v = .int .i64 (m : Int) ∧ s = .string (bs l) ∧ dgo u m l ∧ Below w.heap.size w wr) (fun v _ _ => (intOf v).toNat)
  case atStart => exact ⟨u, _, Nat.le_refl _, rfl, rfl, HS0.out, HB0.out⟩
  case round =>
    obtain ⟨m, l, hmu, rfl, rfl, hs, hb⟩ := hrel
    have HS := Lib.hid hs
    have HB := Lib.hid hb
    clear hs hb HS0 HB0 hcv hrem hw1 hw2
    by_cases hm : m < 10
    · have hd : decide ((10 : Int) ≤ (m : Int)) = false := decide_eq_false (by omega)
      have hd2 : ¬ (10 : Int) ≤ (m : Int) := by omega
      have HE := Lib.hid (show Lib.decDigits u = l from by obtain ⟨r, _, h1, _⟩ := HS.out; exact h1 hm)
      go_wp2_with fail
      go_ret
      rw [HE.out]
      exact ⟨rfl, HB.out⟩
    have hd : decide ((10 : Int) ≤ (m : Int)) = true := decide_eq_true (by omega)
    have hd2 : (10 : Int) ≤ (m : Int) := by omega
    have HS2 := Lib.hid (dgo_step HS.out hm)
    obtain ⟨d, hdm⟩ : ∃ d, m / 10 = d := ⟨_, rfl⟩
    have hdv : (m : Int).tdiv 10 = (d : Int) := by rw [← hdm]; rfl
    have hdv2 : (m : Int) / 10 = (d : Int) := by omega
    have hdlt : d < m := by omega
    rw [hdm] at HS2
    obtain ⟨q, hq⟩ : ∃ q, d % 10 = q := ⟨_, rfl⟩
    rw [hq] at HS2
    have hq10 : q < 10 := by omega
    have hrem : (d : Int).tmod 10 = (q : Int) := by rw [← hq]; rfl
    have hw1 : IntKind.u8.wrap (48 + (q : Int)) = (48 + (q : Int)) := by rw [IntKind.wrap_u8]; omega
    have hw2 : (48 + (q : Int)) % 256 = (48 + (q : Int)) := by omega
    have hcv : (convert 39 9 (.slice (some ⟨wr.heap.size, 0, none⟩) 1 1)).run Tryd.prog (wr.alloc (.cells #[.int .u8 (48 + (q : Int))] 5)) = .ok (.string (bs [dgb q])) (wr.alloc (.cells #[.int .u8 (48 + (q : Int))] 5)) := dig_str wr hq10
    have HB2 := Lib.hid (HB.out.trans (((Below.refl wr.heap.size wr).alloc (Nat.le_refl _) (.cells #[.int .u8 (48 + (q : Int))] 5)).mono HB.out.size))
    have hsz := no_sum (a := [dgb q]) (b := l) (by have := dgo_len HS.out hu; simp; omega)
    clear hdm hq
    go_wp2_with fail
    go_roundw
    case rel => exact ⟨d, _, by omega, rfl, rfl, HS2.out, HB2.out⟩
    case measure => simp [intOf]; omega
end Go.Proofs.YtojlibeecpmbnaaDoor
