import Derived.Test.YtkihimafeonibaaEncode
namespace Go.Proofs.Ytkihimafeonibaa
open Go.RowKit
set_option linter.unusedVariables false

set_option maxHeartbeats 400000 in
set_option maxRecDepth 100000 in
theorem size_bad (t : T) (v : Value) (w : World) (hrd : Rd w.heap.size w t v) (hd : dep t ≤ 1000000) (hc : chk t ≠ 0) :
    Calls Try.prog 14 #[v] w fun e w' => e = .returned (.tuple #[.int .i64 0, .int .i64 (chk t)]) ∧ Below w.heap.size w w' := by
  obtain ⟨k, n, s, len, f, rfl⟩ := hrd.ex
  have hrd1 := hrd
  obtain ⟨a, cap, rfl, h1, h2, h3, h4, h5⟩ := hrd1
  clear h5
  unfold Fit maxLen at *
  have hb := ((Below.refl w.heap.size w).alloc (Nat.le_refl _) (.cells #[.int .i64 k, .int .i64 n, .string s, .slice a len cap] 24)).alloc (by simp) (.cells #[.int .i64 0] 3)
  have hrd2 := hrd.up hb
  have q2 := Box.new (w.alloc (.cells #[.int .i64 k, .int .i64 n, .string s, .slice a len cap] 24)) #[.int .i64 0] 3
  simp only [World.size_alloc] at q2
  have hcn : (chk (.mk k n s len f) != 0 : Bool) = true := by simpa using hc
  clear hrd hc
  generalize hT : T.mk k n s len f = t at *
  have HT := Lib.hid hT
  clear hT
  go_enter Try.func14, Try.ntmps14
  go_wp2_with fail
  refine (check_any _ _ _ hrd2 hd).mono ?_
  rintro e w1 ⟨rfl, hb1⟩
  have p2 := q2.below hb1
  have c2 : w1.cell? ⟨w.heap.size + 1, 0, none⟩ = some (.int .i64 0) := p2.cell 0
  have f2 : w1.frozen? ⟨w.heap.size + 1, 0, none⟩ = false := by simp [World.frozen?, show w1.heap[w.heap.size + 1]? = _ from p2]
  have hbw := hb.trans (hb1.mono hb.size)
  generalize hC : chk t = C at *
  have HC := Lib.hid hC
  clear hC
  clear hrd2 hb1 hb q2 p2
  go_wp2_with fail
  have c3 : (w1.setCell ⟨w.heap.size + 1, 0, none⟩ (.int .i64 0)).cell? ⟨w.heap.size + 1, 0, none⟩ = some (.int .i64 0) := World.cell?_setCell_same _ _ _ c2
  exact bodyPost_ret (v := .tuple #[.int .i64 0, .int .i64 C]) (by simp [results, Try.results14, go_sem, c3]) rfl ⟨by rw [HC.out], hbw.setCell (by simp) _⟩

set_option maxHeartbeats 400000 in
set_option maxRecDepth 100000 in
theorem size_good (t : T) (v : Value) (w : World) (hrd : Rd w.heap.size w t v) (hd : dep t ≤ 1000000) (hc : chk t = 0) (hlen : (enc t).length ≤ 80000000) :
    Calls Try.prog 14 #[v] w fun e w' => e = .returned (.tuple #[.int .i64 (enc t).length, .int .i64 0]) ∧ Below w.heap.size w w' := by
  have hw : wfB t = true := by
    cases h : wfB t
    · simp [chk, h] at hc
    · rfl
  have hva := fun K g S hK => @value_any K g w.heap.size S hK t hw
  obtain ⟨k, n, s, len, f, rfl⟩ := hrd.ex
  have hrd1 := hrd
  obtain ⟨a, cap, rfl, h1, h2, h3, h4, h5⟩ := hrd1
  clear h5
  unfold Fit maxLen at *
  have hmf : ∀ (fn : Fn) (first cap : Array Value) (w : World), (Instr.makeFunc fn first cap).run Try.prog w = .ok (.func fn first cap) w := fun _ _ _ _ => rfl
  have hb := ((Below.refl w.heap.size w).alloc (Nat.le_refl _) (.cells #[.int .i64 k, .int .i64 n, .string s, .slice a len cap] 24)).alloc (by simp) (.cells #[.int .i64 0] 3)
  have hrd2 := hrd.up hb
  have hrdB := hrd.below hb
  have q1 := (Box.new w #[.int .i64 k, .int .i64 n, .string s, .slice a len cap] 24).alloc (.cells #[.int .i64 0] 3)
  have q2 := Box.new (w.alloc (.cells #[.int .i64 k, .int .i64 n, .string s, .slice a len cap] 24)) #[.int .i64 0] 3
  simp only [World.size_alloc] at q2
  have hcn : (chk (.mk k n s len f) != 0 : Bool) = false := by simpa using hc
  clear hrd hc
  generalize hT : T.mk k n s len f = t at *
  have HT := Lib.hid hT
  have HVA := Lib.hid hva
  clear hT hva
  go_enter Try.func14, Try.ntmps14
  go_wp2_with fail
  refine (check_any _ _ _ hrd2 hd).mono ?_
  rintro e w1 ⟨rfl, hb1⟩
  have p1 := q1.below hb1
  have p2 := q2.below hb1
  have c10 := p1.cell 0
  have c11 := p1.cell 1
  have c12 := p1.cell 2
  have c13 := p1.cell 3
  simp only [List.getElem?_toArray, List.getElem?_cons_zero, List.getElem?_cons_succ] at c10 c11 c12 c13
  have hbw := hb.trans (hb1.mono hb.size)
  have hrd3 := hrdB.below (hb1.mono hb.size)
  have hsz := p2.lt
  have hsz0 := p1.lt
  have e2 : Box (w1.alloc (.cells #[wr1 29 (w.heap.size + 1)] 49)) (w.heap.size + 1) #[.int .i64 0] 3 := p2.alloc _
  have hS : CountSink (w.heap.size + 1) [] (w1.alloc (.cells #[wr1 29 (w.heap.size + 1)] 49)) := e2
  have hb3 := hbw.alloc hbw.size (.cells #[wr1 29 (w.heap.size + 1)] 49)
  have hrd4 := hrd3.below ((Below.refl w1.heap.size w1).alloc (Nat.le_refl _) (.cells #[wr1 29 (w.heap.size + 1)] 49) |>.mono hbw.size)
  have hv := HVA.out _ (w.heap.size + 1) _ (sizeSink w.heap.size (w.heap.size + 1) (by omega)) _ [] _ hS hrd4 (by simp; omega) hb3.size
  have HVV := Lib.hid hv
  clear hv hrd4 hrd3 hrd2 hrdB hb1 q1 q2 p1 p2 e2 hS hb HVA
  unfold wr1 at *
  generalize chk t = C at *
  go_wp2_with fail
  refine HVV.out.mono ?_
  rintro e w2 ⟨rfl, hS2, hF2⟩
  simp only [List.nil_append] at hS2
  unfold CountSink at hS2
  have c2 : w2.cell? ⟨w.heap.size + 1, 0, none⟩ = some (.int .i64 (enc t).length) := by rw [cell_of_row w2 _ 0 _ _ _ hS2]; rfl
  have f2 : w2.frozen? ⟨w.heap.size + 1, 0, none⟩ = false := by simp [World.frozen?, hS2]
  have hb4 := hb3.trans hF2.below
  go_wp2_with fail
  have c3 : (w2.setCell ⟨w.heap.size + 1, 0, none⟩ (.int .i64 (enc t).length)).cell? ⟨w.heap.size + 1, 0, none⟩ = some (.int .i64 (enc t).length) := World.cell?_setCell_same _ _ _ c2
  exact bodyPost_ret (v := .tuple #[.int .i64 (enc t).length, .int .i64 0]) (by simp [results, Try.results14, go_sem, c3]) rfl ⟨rfl, hb4.setCell (by simp) _⟩
end Go.Proofs.Ytkihimafeonibaa
