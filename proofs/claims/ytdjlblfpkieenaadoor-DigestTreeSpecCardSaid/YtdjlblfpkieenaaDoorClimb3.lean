/- Climb: all cases. -/
import Derived.Test.YtdjlblfpkieenaaDoorClimb2
namespace Go.Proofs.YtdjlblfpkieenaaDoor
open Go.RowKit Go.Sort
set_option linter.unusedVariables false

set_option maxHeartbeats 1000000 in
set_option maxRecDepth 100000 in
theorem climb_ok (rs : List (List UInt8)) (d : List UInt8) (i n m : Nat) (A : Option Addr) (c : Nat) (w : World) (hm : rs.length = m) (hp : m = pl i n) (hi : i < n) (hn : n ≤ 1099511627776) (hK : KT w) (hd : d.length = 32) (hD : Ds w.heap.size w A rs.reverse) (h1 : m ≤ c) (h2 : m ≤ 1000000) :
    Calls Tryd.prog 22 #[.agg (dcells d), .int .i64 i, .int .i64 n, .slice A m c] w fun e w' => e = .returned (.tuple #[.agg (dcells (clr rs d i n)), .int .i64 0]) ∧ Below w.heap.size w w' := by
  have hpl : ∀ w, Calls Tryd.prog 41 #[.int .i64 i, .int .i64 n] w fun e w' => e = .returned (.int .i64 (m : Int)) ∧ w = w' := fun w => by
    rw [hp]
    exact pathLength_any i n w hi (by omega)
  have hb := ((Below.refl w.heap.size w).alloc (Nat.le_refl _) (.cells (dcells d) 26)).alloc (by simp) (.cells dz 26)
  have hx := (Box.new w (dcells d) 26).alloc (.cells dz 26)
  have hz := Box.new (w.alloc (.cells (dcells d) 26)) dz 26
  rw [World.size_alloc] at hz
  have hC : ∀ w', Below w.heap.size w w' → Calls Tryd.prog 42 #[.agg (dcells d), .int .i64 i, .int .i64 n, .slice A m c] w' (DigPost (clr rs d i n) w') := fun w' hb => by
    have := climb_any rs d i n A c w' (by omega) hi hn (hK.below hb) hd (hD.up hb) (by omega) (by omega)
    rwa [hm] at this
  have hT := clr_length rs d i n
  have HD := Lib.hid (DF.of hd)
  have HC := Lib.hid hC
  have HTL := Lib.hid hT
  have HB := Lib.hid hb
  have HX := Lib.hid hx
  have HZ := Lib.hid hz
  have HP := Lib.hid hpl
  clear hb hx hz hC hK hd hT hpl hD hm hp
  generalize clr rs d i n = R at *
  generalize dcells d = C1 at *
  have d1 : decide (n < 1) = false := decide_eq_false (by omega)
  have d1' : decide ((n : Int) < 1) = false := decide_eq_false (by omega)
  have d2 : decide ((1099511627776 : Int) < (n : Int)) = false := decide_eq_false (by omega)
  have d2' : decide (1099511627776 < n) = false := decide_eq_false (by omega)
  have d4 : decide (n ≤ i) = false := decide_eq_false (by omega)
  clear hn hi h1 h2
  go_enter Tryd.func22, Tryd.ntmps22
  go_wp2_with fail
  generalize hW : World.alloc (World.alloc w _) _ = W
  have hbW : Below w.heap.size w W := by rw [← hW]; exact HB.out
  have hxW : Box W w.heap.size C1 26 := by rw [← hW]; exact HX.out
  have hzW : Box W (w.heap.size + 1) dz 26 := by rw [← hW]; exact HZ.out
  have HXW := Lib.hid hxW
  have HZW := Lib.hid hzW
  have HBW := Lib.hid hbW
  clear hW HB HX hxW HZ hzW hbW
  refine (HP.out _).mono ?_
  rintro e w1 ⟨rfl, rfl⟩
  clear HP
  go_wp2_with (first
    | (refine wpList_load_row rfl 26 (.tmp 4) rfl w.heap.size rfl 26 C1 (0, 0) _ HXW.out Tryd.underlying26 rfl HD.out.info ?_))
  refine (HC.out _ HBW.out).mono ?_
  rintro e w4 ⟨rfl, hb4⟩
  have hbw := HBW.out.trans (hb4.mono HBW.out.size)
  have hr := HZW.out.below hb4
  have HR := Lib.hid (DF.of HTL.out)
  generalize hCS : dcells R = CR at *
  have HCR := Lib.hid hCS
  have HBX := Lib.hid hr
  clear hCS hr hb4 HC HXW HZW HBW
  go_wp2_with (first | (refine wpList_store_row rfl 26 (.tmp 8) (.tmp 38) rfl (w.heap.size + 1) CR rfl rfl 26 dz HBX.out HR.out.info HR.out.size HR.out.one ?_))
  refine bodyPost_ret (v := .tuple #[.agg CR, .int .i64 0]) ?_ rfl ?_
  · exact results_row_tmp Tryd.results22 _ _ (w.heap.size + 1) 26 CR (0, 0) _ rfl (Box.setRow HBX.out) Tryd.underlying26 rfl HR.out.info
  · exact ⟨by rw [HCR.out], fin_store CR hbw (by omega)⟩

set_option maxHeartbeats 1000000 in
set_option maxRecDepth 100000 in
theorem climb_no_a (i n : Int) (h : n < 1) (A : Option Addr) (m c : Nat) (d : List UInt8) (hd : d.length = 32) (w : World) :
    Calls Tryd.prog 22 #[.agg (dcells d), .int .i64 i, .int .i64 n, .slice A m c] w fun e w' => e = .returned (.tuple #[.agg dz, .int .i64 1]) ∧ Below w.heap.size w w' := by
  have d1 : decide (n < 1) = true := decide_eq_true (by omega)
  clear h
  have hb := ((Below.refl w.heap.size w).alloc (Nat.le_refl _) (.cells (dcells d) 26)).alloc (by simp) (.cells dz 26)
  have hx := Box.new (w.alloc (.cells (dcells d) 26)) dz 26
  rw [World.size_alloc] at hx
  have HF : Hid (DF dz) := Lib.hid (by rw [show dz = dcells (List.replicate 32 0) from rfl]; exact DF.of rfl)
  have HB := Lib.hid hb
  have HX := Lib.hid hx
  clear hb hx hd
  generalize dcells d = C1 at *
  go_enter Tryd.func22, Tryd.ntmps22
  go_wp2_with (first | (refine wpList_store_row rfl 26 (.tmp 8) (.tmp 33) rfl (w.heap.size + 1) dz rfl rfl 26 dz HX.out HF.out.info rfl HF.out.one ?_))
  refine bodyPost_ret (v := .tuple #[.agg dz, .int .i64 1]) ?_ rfl ?_
  · exact results_row_tmp Tryd.results22 _ _ (w.heap.size + 1) 26 dz (0, 0) _ rfl (Box.setRow HX.out) Tryd.underlying26 rfl HF.out.info
  · exact ⟨rfl, fin_store dz HB.out (by omega)⟩

set_option maxHeartbeats 1000000 in
set_option maxRecDepth 100000 in
theorem climb_no_b (i n : Int) (h : 1099511627776 < n) (A : Option Addr) (m c : Nat) (d : List UInt8) (hd : d.length = 32) (w : World) :
    Calls Tryd.prog 22 #[.agg (dcells d), .int .i64 i, .int .i64 n, .slice A m c] w fun e w' => e = .returned (.tuple #[.agg dz, .int .i64 1]) ∧ Below w.heap.size w w' := by
  have d1 : decide (n < 1) = false := decide_eq_false (by omega)
  have d2 : decide ((1099511627776 : Int) < n) = true := decide_eq_true (by omega)
  clear h
  have hb := ((Below.refl w.heap.size w).alloc (Nat.le_refl _) (.cells (dcells d) 26)).alloc (by simp) (.cells dz 26)
  have hx := Box.new (w.alloc (.cells (dcells d) 26)) dz 26
  rw [World.size_alloc] at hx
  have HF : Hid (DF dz) := Lib.hid (by rw [show dz = dcells (List.replicate 32 0) from rfl]; exact DF.of rfl)
  have HB := Lib.hid hb
  have HX := Lib.hid hx
  clear hb hx hd
  generalize dcells d = C1 at *
  go_enter Tryd.func22, Tryd.ntmps22
  go_wp2_with (first | (refine wpList_store_row rfl 26 (.tmp 8) (.tmp 33) rfl (w.heap.size + 1) dz rfl rfl 26 dz HX.out HF.out.info rfl HF.out.one ?_))
  refine bodyPost_ret (v := .tuple #[.agg dz, .int .i64 1]) ?_ rfl ?_
  · exact results_row_tmp Tryd.results22 _ _ (w.heap.size + 1) 26 dz (0, 0) _ rfl (Box.setRow HX.out) Tryd.underlying26 rfl HF.out.info
  · exact ⟨rfl, fin_store dz HB.out (by omega)⟩

set_option maxHeartbeats 1000000 in
set_option maxRecDepth 100000 in
theorem climb_no_c (i n : Int) (h0 : ¬ n < 1) (h1 : ¬ 1099511627776 < n) (h : i < 0) (A : Option Addr) (m c : Nat) (d : List UInt8) (hd : d.length = 32) (w : World) :
    Calls Tryd.prog 22 #[.agg (dcells d), .int .i64 i, .int .i64 n, .slice A m c] w fun e w' => e = .returned (.tuple #[.agg dz, .int .i64 1]) ∧ Below w.heap.size w w' := by
  have d1 : decide (n < 1) = false := decide_eq_false (by omega)
  have d2 : decide ((1099511627776 : Int) < n) = false := decide_eq_false (by omega)
  have d3 : decide (i < 0) = true := decide_eq_true (by omega)
  clear h h0 h1
  have hb := ((Below.refl w.heap.size w).alloc (Nat.le_refl _) (.cells (dcells d) 26)).alloc (by simp) (.cells dz 26)
  have hx := Box.new (w.alloc (.cells (dcells d) 26)) dz 26
  rw [World.size_alloc] at hx
  have HF : Hid (DF dz) := Lib.hid (by rw [show dz = dcells (List.replicate 32 0) from rfl]; exact DF.of rfl)
  have HB := Lib.hid hb
  have HX := Lib.hid hx
  clear hb hx hd
  generalize dcells d = C1 at *
  go_enter Tryd.func22, Tryd.ntmps22
  go_wp2_with (first | (refine wpList_store_row rfl 26 (.tmp 8) (.tmp 33) rfl (w.heap.size + 1) dz rfl rfl 26 dz HX.out HF.out.info rfl HF.out.one ?_))
  refine bodyPost_ret (v := .tuple #[.agg dz, .int .i64 1]) ?_ rfl ?_
  · exact results_row_tmp Tryd.results22 _ _ (w.heap.size + 1) 26 dz (0, 0) _ rfl (Box.setRow HX.out) Tryd.underlying26 rfl HF.out.info
  · exact ⟨rfl, fin_store dz HB.out (by omega)⟩

set_option maxHeartbeats 1000000 in
set_option maxRecDepth 100000 in
theorem climb_no_d (i n : Int) (h0 : ¬ n < 1) (h1 : ¬ 1099511627776 < n) (h2 : ¬ i < 0) (h : n ≤ i) (A : Option Addr) (m c : Nat) (d : List UInt8) (hd : d.length = 32) (w : World) :
    Calls Tryd.prog 22 #[.agg (dcells d), .int .i64 i, .int .i64 n, .slice A m c] w fun e w' => e = .returned (.tuple #[.agg dz, .int .i64 1]) ∧ Below w.heap.size w w' := by
  have d1 : decide (n < 1) = false := decide_eq_false (by omega)
  have d2 : decide ((1099511627776 : Int) < n) = false := decide_eq_false (by omega)
  have d3 : decide (i < 0) = false := decide_eq_false (by omega)
  have d4 : decide (n ≤ i) = true := decide_eq_true (by omega)
  clear h h0 h1 h2
  have hb := ((Below.refl w.heap.size w).alloc (Nat.le_refl _) (.cells (dcells d) 26)).alloc (by simp) (.cells dz 26)
  have hx := Box.new (w.alloc (.cells (dcells d) 26)) dz 26
  rw [World.size_alloc] at hx
  have HF : Hid (DF dz) := Lib.hid (by rw [show dz = dcells (List.replicate 32 0) from rfl]; exact DF.of rfl)
  have HB := Lib.hid hb
  have HX := Lib.hid hx
  clear hb hx hd
  generalize dcells d = C1 at *
  go_enter Tryd.func22, Tryd.ntmps22
  go_wp2_with (first | (refine wpList_store_row rfl 26 (.tmp 8) (.tmp 33) rfl (w.heap.size + 1) dz rfl rfl 26 dz HX.out HF.out.info rfl HF.out.one ?_))
  refine bodyPost_ret (v := .tuple #[.agg dz, .int .i64 1]) ?_ rfl ?_
  · exact results_row_tmp Tryd.results22 _ _ (w.heap.size + 1) 26 dz (0, 0) _ rfl (Box.setRow HX.out) Tryd.underlying26 rfl HF.out.info
  · exact ⟨rfl, fin_store dz HB.out (by omega)⟩

set_option maxHeartbeats 1000000 in
set_option maxRecDepth 100000 in
theorem climb_no_e (i n : Nat) (hi : i < n) (hn : n ≤ 1099511627776) (A : Option Addr) (m c : Nat) (h : m ≠ pl i n) (d : List UInt8) (hd : d.length = 32) (w : World) :
    Calls Tryd.prog 22 #[.agg (dcells d), .int .i64 i, .int .i64 n, .slice A m c] w fun e w' => e = .returned (.tuple #[.agg dz, .int .i64 1]) ∧ Below w.heap.size w w' := by
  have hpl := pathLength_any i n
  have HP := Lib.hid (fun w => hpl w hi (by omega))
  have d1 : decide (n < 1) = false := decide_eq_false (by omega)
  have d1' : decide ((n : Int) < 1) = false := decide_eq_false (by omega)
  have d2 : decide ((1099511627776 : Int) < (n : Int)) = false := decide_eq_false (by omega)
  have d2' : decide (1099511627776 < n) = false := decide_eq_false (by omega)
  have d4 : decide (n ≤ i) = false := decide_eq_false (by omega)
  clear hpl hi hn
  generalize pl i n = p at *
  have d5 : ((m : Int) != (p : Int)) = true := by simp; omega
  clear h
  have hb := ((Below.refl w.heap.size w).alloc (Nat.le_refl _) (.cells (dcells d) 26)).alloc (by simp) (.cells dz 26)
  have hx := Box.new (w.alloc (.cells (dcells d) 26)) dz 26
  rw [World.size_alloc] at hx
  have HF : Hid (DF dz) := Lib.hid (by rw [show dz = dcells (List.replicate 32 0) from rfl]; exact DF.of rfl)
  have HB := Lib.hid hb
  have HX := Lib.hid hx
  clear hb hx hd
  generalize dcells d = C1 at *
  go_enter Tryd.func22, Tryd.ntmps22
  go_wp2_with fail
  refine (HP.out _).mono ?_
  rintro e w1 ⟨rfl, rfl⟩
  clear HP
  go_wp2_with (first | (refine wpList_store_row rfl 26 (.tmp 8) (.tmp 33) rfl (w.heap.size + 1) dz rfl rfl 26 dz HX.out HF.out.info rfl HF.out.one ?_))
  refine bodyPost_ret (v := .tuple #[.agg dz, .int .i64 1]) ?_ rfl ?_
  · exact results_row_tmp Tryd.results22 _ _ (w.heap.size + 1) 26 dz (0, 0) _ rfl (Box.setRow HX.out) Tryd.underlying26 rfl HF.out.info
  · exact ⟨rfl, fin_store dz HB.out (by omega)⟩
end Go.Proofs.YtdjlblfpkieenaaDoor
