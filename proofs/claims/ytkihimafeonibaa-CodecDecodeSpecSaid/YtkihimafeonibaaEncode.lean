import Derived.Test.YtkihimafeonibaaWriter
import Derived.Test.YtkihimafeonibaaDepth
namespace Go.Proofs.Ytkihimafeonibaa
open Go.RowKit
set_option linter.unusedVariables false

theorem value_any {K g B : Nat} {S : List UInt8 → World → Prop} (hK : Sink K g B S) (t : T) : wfB t = true → ValOk K g B S (enc t) t := by
  induction t with
  | nil => first | (intros; exact False.elim (by assumption)) | (intro hw; cases hw)
  | mk k n s len f ih =>
    intro hw v acc w hS hrd hl hB
    obtain ⟨a, cap, rfl, h1, h2, h3, h4, h5⟩ := hrd
    change RdS B w len f a at h5
    simp only [wfB] at hw
    by_cases k1 : k = 1
    · subst k1
      have hx : enc (.mk 1 n s len f) = 1 :: num (uns n) := by simp [enc]
      rw [hx] at hl ⊢
      simp only [List.length_cons] at hl
      have := value_int hK acc (num (uns n)) n s a len cap w hS (by omega) hB (fun w' hf hs => writeInt_any hK _ 1 n s a len cap w' hs h2 (by simp; omega) (Nat.le_trans hB hf.size))
      simpa [List.append_assoc] using this
    rw [if_neg k1] at hw
    by_cases k2 : k = 2
    · subst k2
      have hx : enc (.mk 2 n s len f) = 2 :: (num s.size ++ s.data.toList) := by simp [enc]
      have hsz : s.data.toList.length = s.size := rfl
      rw [hx] at hl ⊢
      simp only [List.length_cons, List.length_append, hsz] at hl
      have := value_text hK acc (num s.size ++ s.data.toList) n s a len cap w hS (by omega) hB (fun w' hf hs => by
        have := writeText_any hK _ 2 n s a len cap w' hs (by simp; omega) (Nat.le_trans hB hf.size)
        simpa [List.append_assoc] using this)
      simpa [List.append_assoc] using this
    rw [if_neg k2] at hw
    by_cases k3 : k = 3
    · subst k3
      have hx : enc (.mk 3 n s len f) = 3 :: (num len ++ catTo (fun i => enc (f i)) len) := by simp [enc]
      simp only [if_true, Bool.and_eq_true] at hw
      have hall := allTo_eq.1 hw.2
      unfold maxLen at h4
      rw [hx] at hl ⊢
      simp only [List.length_cons] at hl
      have := value_list hK acc (num len ++ catTo (fun i => enc (f i)) len) n s a len cap w hS (by omega) hB (fun w' hf hs => by
        have := writeList_any hK _ 3 n s a len cap f (fun i => enc (f i)) w' hs (by omega) (h5.below hf.below) (by simp only [List.length_append, List.length_singleton] at hl ⊢; omega) (Nat.le_trans hB hf.size) (fun i hi => ih i (hall i hi))
        simpa [List.append_assoc] using this)
      simpa [List.append_assoc] using this
    · rw [if_neg k3] at hw
      cases hw

set_option maxHeartbeats 400000 in
set_option maxRecDepth 100000 in
theorem encode_bad (t : T) (v : Value) (w : World) (hrd : Rd w.heap.size w t v) (hd : dep t ≤ 1000000) (hc : chk t ≠ 0) :
    Calls Try.prog 12 #[v] w fun e w' => e = .returned (.tuple #[.slice none 0 0, .int .i64 (chk t)]) ∧ Below w.heap.size w w' := by
  obtain ⟨k, n, s, len, f, rfl⟩ := hrd.ex
  have hrd1 := hrd
  obtain ⟨a, cap, rfl, h1, h2, h3, h4, h5⟩ := hrd1
  clear h5
  unfold Fit maxLen at *
  have hb := ((Below.refl w.heap.size w).alloc (Nat.le_refl _) (.cells #[.int .i64 k, .int .i64 n, .string s, .slice a len cap] 24)).alloc (by simp) (.cells #[.slice none 0 0] 27)
  have hrd2 := hrd.up hb
  have q2 := Box.new (w.alloc (.cells #[.int .i64 k, .int .i64 n, .string s, .slice a len cap] 24)) #[.slice none 0 0] 27
  simp only [World.size_alloc] at q2
  have hcn : (chk (.mk k n s len f) != 0 : Bool) = true := by simpa using hc
  clear hrd hc
  generalize hT : T.mk k n s len f = t at *
  have HT := Lib.hid hT
  clear hT
  go_enter Try.func12, Try.ntmps12
  go_wp2_with fail
  refine (check_any _ _ _ hrd2 hd).mono ?_
  rintro e w1 ⟨rfl, hb1⟩
  have p2 := q2.below hb1
  have c2 : w1.cell? ⟨w.heap.size + 1, 0, none⟩ = some (.slice none 0 0) := p2.cell 0
  have f2 : w1.frozen? ⟨w.heap.size + 1, 0, none⟩ = false := by simp [World.frozen?, show w1.heap[w.heap.size + 1]? = _ from p2]
  have hbw := hb.trans (hb1.mono hb.size)
  generalize hC : chk t = C at *
  have HC := Lib.hid hC
  clear hC
  clear hrd2 hb1 hb q2 p2
  go_wp2_with fail
  have c3 : (w1.setCell ⟨w.heap.size + 1, 0, none⟩ (.slice none 0 0)).cell? ⟨w.heap.size + 1, 0, none⟩ = some (.slice none 0 0) := World.cell?_setCell_same _ _ _ c2
  exact bodyPost_ret (v := .tuple #[.slice none 0 0, .int .i64 C]) (by simp [results, Try.results12, go_sem, c3]) rfl ⟨by rw [HC.out], hbw.setCell (by simp) _⟩

set_option maxHeartbeats 400000 in
set_option maxRecDepth 100000 in
theorem encode_good (t : T) (v : Value) (w : World) (hrd : Rd w.heap.size w t v) (hd : dep t ≤ 1000000) (hc : chk t = 0) (hlen : (enc t).length ≤ 80000000) :
    Calls Try.prog 12 #[v] w fun e w' => ∃ u, e = .returned (.tuple #[u, .int .i64 0]) ∧ w'.ownsRow w.heap.size 5 1 u (enc t).length ((enc t).map bv) ∧ Below w.heap.size w w' := by
  have hw : wfB t = true := by
    cases h : wfB t
    · simp [chk, h] at hc
    · rfl
  have hva := fun K g S hK => @value_any K g w.heap.size S hK t hw
  obtain ⟨k, n, s, len, f, rfl⟩ := hrd.ex
  have hrd1 := hrd
  obtain ⟨a, cap, rfl, h1, h2, h3, h4, h5⟩ := hrd1
  clear h5
  unfold Fit maxLen at *
  have hmf : ∀ (fn : Fn) (first cap : Array Value) (w : World), (Instr.makeFunc fn first cap).run Try.prog w = .ok (.func fn first cap) w := fun _ _ _ _ => rfl
  have hb := ((Below.refl w.heap.size w).alloc (Nat.le_refl _) (.cells #[.int .i64 k, .int .i64 n, .string s, .slice a len cap] 24)).alloc (by simp) (.cells #[.slice none 0 0] 27)
  have hrd2 := hrd.up hb
  have hrdB := hrd.below hb
  have q1 := (Box.new w #[.int .i64 k, .int .i64 n, .string s, .slice a len cap] 24).alloc (.cells #[.slice none 0 0] 27)
  have q2 := Box.new (w.alloc (.cells #[.int .i64 k, .int .i64 n, .string s, .slice a len cap] 24)) #[.slice none 0 0] 27
  simp only [World.size_alloc] at q2
  have hcn : (chk (.mk k n s len f) != 0 : Bool) = false := by simpa using hc
  clear hrd hc
  generalize hT : T.mk k n s len f = t at *
  have HT := Lib.hid hT
  have HVA := Lib.hid hva
  clear hT hva
  go_enter Try.func12, Try.ntmps12
  go_wp2_with fail
  refine (check_any _ _ _ hrd2 hd).mono ?_
  rintro e w1 ⟨rfl, hb1⟩
  have p1 := q1.below hb1
  have p2 := q2.below hb1
  have c10 := p1.cell 0
  have c11 := p1.cell 1
  have c12 := p1.cell 2
  have c13 := p1.cell 3
  simp only [List.getElem?_toArray, List.getElem?_cons_zero, List.getElem?_cons_succ] at c10 c11 c12 c13
  have hbw := hb.trans (hb1.mono hb.size)
  have hrd3 := hrdB.below (hb1.mono hb.size)
  have hsz := p2.lt
  have hsz0 := p1.lt
  have e2 : Box (w1.alloc (.cells #[wr1 26 (w.heap.size + 1)] 49)) (w.heap.size + 1) #[.slice none 0 0] 27 := p2.alloc _
  have hS : RowSink w.heap.size (w.heap.size + 1) [] (w1.alloc (.cells #[wr1 26 (w.heap.size + 1)] 49)) := ⟨_, e2, World.ownsRow_nil _ _ _ _⟩
  have hb3 := hbw.alloc hbw.size (.cells #[wr1 26 (w.heap.size + 1)] 49)
  have hrd4 := hrd3.below ((Below.refl w1.heap.size w1).alloc (Nat.le_refl _) (.cells #[wr1 26 (w.heap.size + 1)] 49) |>.mono hbw.size)
  have hv := HVA.out _ (w.heap.size + 1) _ (encSink w.heap.size (w.heap.size + 1) (by omega)) _ [] _ hS hrd4 (by simp; omega) hb3.size
  have HVV := Lib.hid hv
  clear hv hrd4 hrd3 hrd2 hrdB hb1 q1 q2 p1 p2 e2 hS hb HVA
  unfold wr1 at *
  generalize chk t = C at *
  go_wp2_with fail
  refine HVV.out.mono ?_
  rintro e w2 ⟨rfl, hS2, hF2⟩
  obtain ⟨u, hu, ho⟩ := hS2
  simp only [List.nil_append] at ho
  have c2 : w2.cell? ⟨w.heap.size + 1, 0, none⟩ = some u := by rw [cell_of_row w2 _ 0 _ _ _ hu]; rfl
  have f2 : w2.frozen? ⟨w.heap.size + 1, 0, none⟩ = false := by simp [World.frozen?, hu]
  have hb4 := hb3.trans hF2.below
  obtain ⟨A1, k1, hv1⟩ := own_form ho
  subst hv1
  go_wp2_with fail
  have c3 : (w2.setCell ⟨w.heap.size + 1, 0, none⟩ (.slice A1 (enc t).length k1)).cell? ⟨w.heap.size + 1, 0, none⟩ = some (.slice A1 (enc t).length k1) := World.cell?_setCell_same _ _ _ c2
  have ho2 : (w2.setCell ⟨w.heap.size + 1, 0, none⟩ (.slice A1 (enc t).length k1)).ownsRow w.heap.size 5 1 (.slice A1 (enc t).length k1) (enc t).length ((enc t).map bv) :=
    ho.kept (row := some (w.heap.size + 1)) ⟨rfl, rfl, rfl, by simp [World.setCell], fun k _ hk => Below.heap_setCell _ _ _ _ (fun e => hk (by rw [e]))⟩ (.inr (own_other ho hu (by decide)).symm)
  exact bodyPost_ret (v := .tuple #[.slice A1 (enc t).length k1, .int .i64 0]) (by simp [results, Try.results12, go_sem, c3]) rfl ⟨_, rfl, ho2, hb4.setCell (by simp) _⟩
end Go.Proofs.Ytkihimafeonibaa
