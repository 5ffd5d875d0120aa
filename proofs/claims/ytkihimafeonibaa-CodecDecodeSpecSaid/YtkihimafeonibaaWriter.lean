import Derived.Test.YtkihimafeonibaaWrite2
import Derived.Test.YtkihimafeonibaaWrite3
import Derived.Laws.EntriesVeiled
namespace Go.Proofs.Ytkihimafeonibaa
open Go.RowKit
set_option linter.unusedVariables false

theorem run_str_one (W : World) (b : UInt8) (c : Value) (h : Nat) (hh : h = W.heap.size) (hc : c = bv b) :
    (convert 27 9 (.slice (some ⟨h, 0, none⟩) 1 1)).run Try.prog (W.alloc (.cells #[c] 5)) = .ok (.string ⟨#[b]⟩) (W.alloc (.cells #[c] 5)) := by
  subst hh hc
  exact run_str_own (base := W.heap.size) (l := [b]) (World.ownsRow_lit W #[bv b] 1 (Nat.le_refl _) (by unfold maxLen; omega) rfl)

set_option maxHeartbeats 400000 in
set_option maxRecDepth 100000 in
theorem value_int {K g B : Nat} {S : List UInt8 → World → Prop} (hK : Sink K g B S) (acc p : List UInt8) (n : Int) (s : ByteArray) (a : Option Addr) (len cap : Nat) (w : World)
    (hS : S acc w) (hl : acc.length ≤ 80000000) (hB : B ≤ w.heap.size)
    (hF : ∀ w', Fr B g w w' → S (acc ++ [1]) w' → Calls Try.prog 39 #[.agg #[wr1 K g], .agg #[.int .i64 1, .int .i64 n, .string s, .slice a len cap]] w' fun e w'' =>
      e = .returned (.tuple #[]) ∧ S (acc ++ [1] ++ p) w'' ∧ Fr B g w' w'') :
    Calls Try.prog 27 #[.agg #[wr1 K g], .agg #[.int .i64 1, .int .i64 n, .string s, .slice a len cap]] w fun e w' =>
      e = .returned (.tuple #[]) ∧ S (acc ++ [1] ++ p) w' ∧ Fr B g w w' := by
  have he := hK.enters
  have hgw := hK.lt _ _ hS
  have HK := Lib.hid hK
  have HF := Lib.hid hF
  have hb1 := (Below.refl w.heap.size w).alloc (Nat.le_refl _) (.cells #[wr1 K g] 49)
  have hb2 := hb1.alloc (by simp) (.cells #[.int .i64 1, .int .i64 n, .string s, .slice a len cap] 24)
  have hb3 := hb2.alloc (by simp; omega) (.cells #[.nilFunc, .func (.func 39) #[] #[], .func (.func 40) #[] #[], .func (.func 41) #[] #[]] 61)
  have hb4 := hb3.alloc (by simp; omega) (.cells #[.int .u8 1] 5)
  have q0 := Box.new w #[wr1 K g] 49
  have q1 := Box.new (w.alloc (.cells #[wr1 K g] 49)) #[.int .i64 1, .int .i64 n, .string s, .slice a len cap] 24
  have q2 := Box.new ((w.alloc (.cells #[wr1 K g] 49)).alloc (.cells #[.int .i64 1, .int .i64 n, .string s, .slice a len cap] 24)) #[.nilFunc, .func (.func 39) #[] #[], .func (.func 40) #[] #[], .func (.func 41) #[] #[]] 61
  have q0 := ((q0.alloc (.cells #[.int .i64 1, .int .i64 n, .string s, .slice a len cap] 24)).alloc (.cells #[.nilFunc, .func (.func 39) #[] #[], .func (.func 40) #[] #[], .func (.func 41) #[] #[]] 61)).alloc (.cells #[.int .u8 1] 5)
  have q1 := (q1.alloc (.cells #[.nilFunc, .func (.func 39) #[] #[], .func (.func 40) #[] #[], .func (.func 41) #[] #[]] 61)).alloc (.cells #[.int .u8 1] 5)
  have q2 := q2.alloc (.cells #[.int .u8 1] 5)
  simp only [World.size_alloc] at q1 q2
  have hS4 := hK.keep acc _ _ hS hb4
  have hcv := run_str_one (((w.alloc (.cells #[wr1 K g] 49)).alloc (.cells #[.int .i64 1, .int .i64 n, .string s, .slice a len cap] 24)).alloc (.cells #[.nilFunc, .func (.func 39) #[] #[], .func (.func 40) #[] #[], .func (.func 41) #[] #[]] 61)) 1 (.int .u8 1) _ rfl rfl
  simp only [World.size_alloc] at hcv
  have hlen : acc.length + (ByteArray.mk #[1]).size ≤ 100000000 := by show acc.length + 1 ≤ _; omega
  have hB4 := Nat.le_trans hB hb4.size
  have ne48 : 49 ≠ 5 := by decide
  have ne24 : 24 ≠ 5 := by decide
  have ne60 : 61 ≠ 5 := by decide
  have g0 : w.heap.size ≠ g := by omega
  have g1 : w.heap.size + 1 ≠ g := by omega
  have g2 : w.heap.size + 1 + 1 ≠ g := by omega
  clear hK hF hb1 hb2 hb3
  unfold wr1 at *
  go_enter Try.func27, Try.ntmps27
  go_wp2_with fail
  refine (HK.out.put acc _ _ hS4 hlen hB4).mono ?_
  rintro e w5 ⟨rfl, hS5, hF5⟩
  have p0 := (q0.fr hF5 g0 ne48).cell 0
  have p1 := q1.fr hF5 g1 ne24
  have p10 := p1.cell 0
  have p11 := p1.cell 1
  have p12 := p1.cell 2
  have p13 := p1.cell 3
  have p2 := q2.fr hF5 g2 ne60
  have p21 := p2.cell 1
  have p22 := p2.cell 2
  have p23 := p2.cell 3
  simp only [List.getElem?_toArray, List.getElem?_cons_zero, List.getElem?_cons_succ] at p0 p10 p11 p12 p13 p21 p22 p23
  have hF6 := (Fr.of_below hb4 hB).trans hF5
  clear hcv p1 p2 q0 q1 q2 hS4 hF5 hb4 hB4
  go_wp2_with fail
  go_still_tail 6, (by kernel_rfl)
  change wpList _ _ _ _ _ w5.drew
  have hS6 := HK.out.drew _ _ hS5
  have hF7 := hF6.drew
  have hc := HF.out w5.drew hF7 hS6
  clear HF hS5 hF6
  generalize w5.drew = w6 at *
  go_wp2_with fail
  refine hc.mono ?_
  rintro e w7 ⟨rfl, hS8, hF8⟩
  go_wp2_with fail
  go_end0
  exact ⟨rfl, hS8, hF7.trans hF8⟩
set_option maxHeartbeats 400000 in
set_option maxRecDepth 100000 in
theorem value_text {K g B : Nat} {S : List UInt8 → World → Prop} (hK : Sink K g B S) (acc p : List UInt8) (n : Int) (s : ByteArray) (a : Option Addr) (len cap : Nat) (w : World)
    (hS : S acc w) (hl : acc.length ≤ 80000000) (hB : B ≤ w.heap.size)
    (hF : ∀ w', Fr B g w w' → S (acc ++ [2]) w' → Calls Try.prog 40 #[.agg #[wr1 K g], .agg #[.int .i64 2, .int .i64 n, .string s, .slice a len cap]] w' fun e w'' =>
      e = .returned (.tuple #[]) ∧ S (acc ++ [2] ++ p) w'' ∧ Fr B g w' w'') :
    Calls Try.prog 27 #[.agg #[wr1 K g], .agg #[.int .i64 2, .int .i64 n, .string s, .slice a len cap]] w fun e w' =>
      e = .returned (.tuple #[]) ∧ S (acc ++ [2] ++ p) w' ∧ Fr B g w w' := by
  have he := hK.enters
  have hgw := hK.lt _ _ hS
  have HK := Lib.hid hK
  have HF := Lib.hid hF
  have hb1 := (Below.refl w.heap.size w).alloc (Nat.le_refl _) (.cells #[wr1 K g] 49)
  have hb2 := hb1.alloc (by simp) (.cells #[.int .i64 2, .int .i64 n, .string s, .slice a len cap] 24)
  have hb3 := hb2.alloc (by simp; omega) (.cells #[.nilFunc, .func (.func 39) #[] #[], .func (.func 40) #[] #[], .func (.func 41) #[] #[]] 61)
  have hb4 := hb3.alloc (by simp; omega) (.cells #[.int .u8 2] 5)
  have q0 := Box.new w #[wr1 K g] 49
  have q1 := Box.new (w.alloc (.cells #[wr1 K g] 49)) #[.int .i64 2, .int .i64 n, .string s, .slice a len cap] 24
  have q2 := Box.new ((w.alloc (.cells #[wr1 K g] 49)).alloc (.cells #[.int .i64 2, .int .i64 n, .string s, .slice a len cap] 24)) #[.nilFunc, .func (.func 39) #[] #[], .func (.func 40) #[] #[], .func (.func 41) #[] #[]] 61
  have q0 := ((q0.alloc (.cells #[.int .i64 2, .int .i64 n, .string s, .slice a len cap] 24)).alloc (.cells #[.nilFunc, .func (.func 39) #[] #[], .func (.func 40) #[] #[], .func (.func 41) #[] #[]] 61)).alloc (.cells #[.int .u8 2] 5)
  have q1 := (q1.alloc (.cells #[.nilFunc, .func (.func 39) #[] #[], .func (.func 40) #[] #[], .func (.func 41) #[] #[]] 61)).alloc (.cells #[.int .u8 2] 5)
  have q2 := q2.alloc (.cells #[.int .u8 2] 5)
  simp only [World.size_alloc] at q1 q2
  have hS4 := hK.keep acc _ _ hS hb4
  have hcv := run_str_one (((w.alloc (.cells #[wr1 K g] 49)).alloc (.cells #[.int .i64 2, .int .i64 n, .string s, .slice a len cap] 24)).alloc (.cells #[.nilFunc, .func (.func 39) #[] #[], .func (.func 40) #[] #[], .func (.func 41) #[] #[]] 61)) 2 (.int .u8 2) _ rfl rfl
  simp only [World.size_alloc] at hcv
  have hlen : acc.length + (ByteArray.mk #[2]).size ≤ 100000000 := by show acc.length + 1 ≤ _; omega
  have hB4 := Nat.le_trans hB hb4.size
  have ne48 : 49 ≠ 5 := by decide
  have ne24 : 24 ≠ 5 := by decide
  have ne60 : 61 ≠ 5 := by decide
  have g0 : w.heap.size ≠ g := by omega
  have g1 : w.heap.size + 1 ≠ g := by omega
  have g2 : w.heap.size + 1 + 1 ≠ g := by omega
  clear hK hF hb1 hb2 hb3
  unfold wr1 at *
  go_enter Try.func27, Try.ntmps27
  go_wp2_with fail
  refine (HK.out.put acc _ _ hS4 hlen hB4).mono ?_
  rintro e w5 ⟨rfl, hS5, hF5⟩
  have p0 := (q0.fr hF5 g0 ne48).cell 0
  have p1 := q1.fr hF5 g1 ne24
  have p10 := p1.cell 0
  have p11 := p1.cell 1
  have p12 := p1.cell 2
  have p13 := p1.cell 3
  have p2 := q2.fr hF5 g2 ne60
  have p21 := p2.cell 1
  have p22 := p2.cell 2
  have p23 := p2.cell 3
  simp only [List.getElem?_toArray, List.getElem?_cons_zero, List.getElem?_cons_succ] at p0 p10 p11 p12 p13 p21 p22 p23
  have hF6 := (Fr.of_below hb4 hB).trans hF5
  clear hcv p1 p2 q0 q1 q2 hS4 hF5 hb4 hB4
  go_wp2_with fail
  go_still_tail 6, (by kernel_rfl)
  change wpList _ _ _ _ _ w5.drew
  have hS6 := HK.out.drew _ _ hS5
  have hF7 := hF6.drew
  have hc := HF.out w5.drew hF7 hS6
  clear HF hS5 hF6
  generalize w5.drew = w6 at *
  go_wp2_with fail
  refine hc.mono ?_
  rintro e w7 ⟨rfl, hS8, hF8⟩
  go_wp2_with fail
  go_end0
  exact ⟨rfl, hS8, hF7.trans hF8⟩
set_option maxHeartbeats 400000 in
set_option maxRecDepth 100000 in
theorem value_list {K g B : Nat} {S : List UInt8 → World → Prop} (hK : Sink K g B S) (acc p : List UInt8) (n : Int) (s : ByteArray) (a : Option Addr) (len cap : Nat) (w : World)
    (hS : S acc w) (hl : acc.length ≤ 80000000) (hB : B ≤ w.heap.size)
    (hF : ∀ w', Fr B g w w' → S (acc ++ [3]) w' → Calls Try.prog 41 #[.agg #[wr1 K g], .agg #[.int .i64 3, .int .i64 n, .string s, .slice a len cap]] w' fun e w'' =>
      e = .returned (.tuple #[]) ∧ S (acc ++ [3] ++ p) w'' ∧ Fr B g w' w'') :
    Calls Try.prog 27 #[.agg #[wr1 K g], .agg #[.int .i64 3, .int .i64 n, .string s, .slice a len cap]] w fun e w' =>
      e = .returned (.tuple #[]) ∧ S (acc ++ [3] ++ p) w' ∧ Fr B g w w' := by
  have he := hK.enters
  have hgw := hK.lt _ _ hS
  have HK := Lib.hid hK
  have HF := Lib.hid hF
  have hb1 := (Below.refl w.heap.size w).alloc (Nat.le_refl _) (.cells #[wr1 K g] 49)
  have hb2 := hb1.alloc (by simp) (.cells #[.int .i64 3, .int .i64 n, .string s, .slice a len cap] 24)
  have hb3 := hb2.alloc (by simp; omega) (.cells #[.nilFunc, .func (.func 39) #[] #[], .func (.func 40) #[] #[], .func (.func 41) #[] #[]] 61)
  have hb4 := hb3.alloc (by simp; omega) (.cells #[.int .u8 3] 5)
  have q0 := Box.new w #[wr1 K g] 49
  have q1 := Box.new (w.alloc (.cells #[wr1 K g] 49)) #[.int .i64 3, .int .i64 n, .string s, .slice a len cap] 24
  have q2 := Box.new ((w.alloc (.cells #[wr1 K g] 49)).alloc (.cells #[.int .i64 3, .int .i64 n, .string s, .slice a len cap] 24)) #[.nilFunc, .func (.func 39) #[] #[], .func (.func 40) #[] #[], .func (.func 41) #[] #[]] 61
  have q0 := ((q0.alloc (.cells #[.int .i64 3, .int .i64 n, .string s, .slice a len cap] 24)).alloc (.cells #[.nilFunc, .func (.func 39) #[] #[], .func (.func 40) #[] #[], .func (.func 41) #[] #[]] 61)).alloc (.cells #[.int .u8 3] 5)
  have q1 := (q1.alloc (.cells #[.nilFunc, .func (.func 39) #[] #[], .func (.func 40) #[] #[], .func (.func 41) #[] #[]] 61)).alloc (.cells #[.int .u8 3] 5)
  have q2 := q2.alloc (.cells #[.int .u8 3] 5)
  simp only [World.size_alloc] at q1 q2
  have hS4 := hK.keep acc _ _ hS hb4
  have hcv := run_str_one (((w.alloc (.cells #[wr1 K g] 49)).alloc (.cells #[.int .i64 3, .int .i64 n, .string s, .slice a len cap] 24)).alloc (.cells #[.nilFunc, .func (.func 39) #[] #[], .func (.func 40) #[] #[], .func (.func 41) #[] #[]] 61)) 3 (.int .u8 3) _ rfl rfl
  simp only [World.size_alloc] at hcv
  have hlen : acc.length + (ByteArray.mk #[3]).size ≤ 100000000 := by show acc.length + 1 ≤ _; omega
  have hB4 := Nat.le_trans hB hb4.size
  have ne48 : 49 ≠ 5 := by decide
  have ne24 : 24 ≠ 5 := by decide
  have ne60 : 61 ≠ 5 := by decide
  have g0 : w.heap.size ≠ g := by omega
  have g1 : w.heap.size + 1 ≠ g := by omega
  have g2 : w.heap.size + 1 + 1 ≠ g := by omega
  clear hK hF hb1 hb2 hb3
  unfold wr1 at *
  go_enter Try.func27, Try.ntmps27
  go_wp2_with fail
  refine (HK.out.put acc _ _ hS4 hlen hB4).mono ?_
  rintro e w5 ⟨rfl, hS5, hF5⟩
  have p0 := (q0.fr hF5 g0 ne48).cell 0
  have p1 := q1.fr hF5 g1 ne24
  have p10 := p1.cell 0
  have p11 := p1.cell 1
  have p12 := p1.cell 2
  have p13 := p1.cell 3
  have p2 := q2.fr hF5 g2 ne60
  have p21 := p2.cell 1
  have p22 := p2.cell 2
  have p23 := p2.cell 3
  simp only [List.getElem?_toArray, List.getElem?_cons_zero, List.getElem?_cons_succ] at p0 p10 p11 p12 p13 p21 p22 p23
  have hF6 := (Fr.of_below hb4 hB).trans hF5
  clear hcv p1 p2 q0 q1 q2 hS4 hF5 hb4 hB4
  go_wp2_with fail
  go_still_tail 6, (by kernel_rfl)
  change wpList _ _ _ _ _ w5.drew
  have hS6 := HK.out.drew _ _ hS5
  have hF7 := hF6.drew
  have hc := HF.out w5.drew hF7 hS6
  clear HF hS5 hF6
  generalize w5.drew = w6 at *
  go_wp2_with fail
  refine hc.mono ?_
  rintro e w7 ⟨rfl, hS8, hF8⟩
  go_wp2_with fail
  go_end0
  exact ⟨rfl, hS8, hF7.trans hF8⟩
end Go.Proofs.Ytkihimafeonibaa
