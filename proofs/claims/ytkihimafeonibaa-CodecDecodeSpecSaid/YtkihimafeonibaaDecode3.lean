import Derived.Test.YtkihimafeonibaaDecode
namespace Go.Proofs.Ytkihimafeonibaa
open Go.RowKit
set_option linter.unusedVariables false

/-- Behind Decode's return: the result stored twice, and the error. -/
def done4 (w : World) (g : Nat) (k n : Int) (s : ByteArray) (a : Option Addr) (m c : Nat) : World :=
  (set4 (set4 w g (.int .i64 k) (.int .i64 n) (.string s) (.slice a m c)) g (.int .i64 k) (.int .i64 n) (.string s) (.slice a m c)).setCell ⟨g + 1, 0, none⟩ (.int .i64 0)
theorem done4_other (w : World) (g : Nat) (k n : Int) (s : ByteArray) (a : Option Addr) (m c b : Nat) (h1 : b ≠ g) (h2 : b ≠ g + 1) : (done4 w g k n s a m c).heap[b]? = w.heap[b]? := by
  unfold done4
  rw [Below.heap_setCell _ _ _ _ h2, set4_other _ _ _ _ _ _ _ h1, set4_other _ _ _ _ _ _ _ h1]
theorem done4_facts {w w0 : World} {n : Nat} {z0 z1 z2 z3 x : Value} {t u : TypeId} (hv : Box w n #[z0, z1, z2, z3] t) (he : Box w (n + 1) #[x] u) (hb : Below n w0 w) (k m : Int) (s : ByteArray) (a : Option Addr) (l c : Nat) :
    (done4 w n k m s a l c).cell? ⟨n, 0, none⟩ = some (.int .i64 k) ∧ (done4 w n k m s a l c).cell? ⟨n, 1, none⟩ = some (.int .i64 m) ∧ (done4 w n k m s a l c).cell? ⟨n, 2, none⟩ = some (.string s) ∧
    (done4 w n k m s a l c).cell? ⟨n, 3, none⟩ = some (.slice a l c) ∧ (done4 w n k m s a l c).cell? ⟨n + 1, 0, none⟩ = some (.int .i64 0) ∧ Below n w0 (done4 w n k m s a l c) := by
  have h4 := set4_box (set4_box hv (.int .i64 k) (.int .i64 m) (.string s) (.slice a l c)) (.int .i64 k) (.int .i64 m) (.string s) (.slice a l c)
  have he4 : Box (set4 (set4 w n (.int .i64 k) (.int .i64 m) (.string s) (.slice a l c)) n (.int .i64 k) (.int .i64 m) (.string s) (.slice a l c)) (n + 1) #[x] u :=
    (set4_other _ _ _ _ _ _ _ (by omega)).trans ((set4_other _ _ _ _ _ _ _ (by omega)).trans he)
  have hfar : ∀ i, (done4 w n k m s a l c).cell? ⟨n, i, none⟩ = (set4 (set4 w n (.int .i64 k) (.int .i64 m) (.string s) (.slice a l c)) n (.int .i64 k) (.int .i64 m) (.string s) (.slice a l c)).cell? ⟨n, i, none⟩ :=
    fun i => World.cell?_of_block (a := ⟨n, i, none⟩) (Below.heap_setCell _ _ _ _ (by show n ≠ n + 1; omega))
  refine ⟨(hfar 0).trans (h4.cell 0), (hfar 1).trans (h4.cell 1), (hfar 2).trans (h4.cell 2), (hfar 3).trans (h4.cell 3), World.cell?_setCell_same _ _ _ (he4.cell 0), ?_⟩
  unfold done4 set4
  have h0 := fun (W : World) (h : Below n w0 W) (p : Addr) (hp : n ≤ p.block) (v : Value) => h.setCell hp v
  exact ((((((((hb.setCell (Nat.le_refl _) _).setCell (Nat.le_refl _) _).setCell (Nat.le_refl _) _).setCell (Nat.le_refl _) _).setCell (Nat.le_refl _) _).setCell (Nat.le_refl _) _).setCell (Nat.le_refl _) _).setCell (Nat.le_refl _) _).setCell (by simp) _

set_option maxHeartbeats 400000 in
set_option maxRecDepth 100000 in
theorem decode_good (l : List UInt8) (A : Option Addr) (c : Nat) (w : World) (hB : Bs w.heap.size w A l) (h1 : l.length ≤ c) (h2 : c ≤ maxLen) (hl : l.length ≤ 1000000) (t : T) (hp : pval 16 l = some (t, [])) :
    Calls Try.prog 18 #[.slice A l.length c] w (DPost w (some t)) := by
  have hmf : ∀ (fn : Fn) (first cap : Array Value) (w : World), (Instr.makeFunc fn first cap).run Try.prog w = .ok (.func fn first cap) w := fun _ _ _ _ => rfl
  have hb0 := (((Below.refl w.heap.size w).alloc (Nat.le_refl _) (.cells zeroV 24)).alloc (by simp) (.cells #[.int .i64 0] 28)).alloc (by simp; omega) (.cells #[.slice A l.length c] 54)
  have q0 := ((Box.new w zeroV 24).alloc (.cells #[.int .i64 0] 28)).alloc (.cells #[.slice A l.length c] 54)
  have q1 := (Box.new (w.alloc (.cells zeroV 24)) #[.int .i64 0] 28).alloc (.cells #[.slice A l.length c] 54)
  have q2 := Box.new ((w.alloc (.cells zeroV 24)).alloc (.cells #[.int .i64 0] 28)) #[.slice A l.length c] 54
  simp only [World.size_alloc] at q1 q2
  have hR : RS (w.heap.size + 1 + 1) (((w.alloc (.cells zeroV 24)).alloc (.cells #[.int .i64 0] 28)).alloc (.cells #[.slice A l.length c] 54)) l := by
    refine ⟨A, c, q2, h1, h2, fun hp => ?_⟩
    obtain ⟨b, off, rfl, hlt, hc⟩ := hB hp
    exact ⟨b, off, rfl, by omega, fun j u hu => (hb0.cell (p := ⟨b, off + j, none⟩) hlt).trans (hc j u hu)⟩
  have hv := value_any1 (w.heap.size + 1 + 1) 16 l _ (by omega) hR hl
  rw [hp] at hv
  have HV := Lib.hid hv
  unfold maxLen at h2
  clear hv hR hB hp q2
  unfold zeroV at *
  go_enter_defers Try.func18, Try.ntmps18
  go_wp2_with fail
  refine HV.out.mono ?_
  rintro e w1 ⟨v, rfl, hrt, hR1, hg⟩
  simp only at hrt hR1
  have p0 := q0.grown hg (by omega)
  have p1 := q1.grown hg (by omega)
  have hz0 := hb0.size
  have hb1 := hb0.trans (below_grown hg (by omega) (by omega))
  obtain ⟨k1, n1, s1, a1, m1, c1, rfl⟩ := hrt.form
  obtain ⟨A1, cc, hh, hcc1, hcc2, _⟩ := hR1
  have hrd1 : w1.cell? ⟨w.heap.size + 1 + 1, 0, none⟩ = some (.slice A1 0 cc) := by rw [cell_of_row w1 _ 0 _ _ _ hh]; rfl
  have c20 : w1.cell? ⟨w.heap.size, 0, none⟩ = some (.int .i64 0) := p0.cell 0
  have c21 : w1.cell? ⟨w.heap.size, 1, none⟩ = some (.int .i64 0) := p0.cell 1
  have c22 : w1.cell? ⟨w.heap.size, 2, none⟩ = some (.string ⟨#[]⟩) := p0.cell 2
  have c23 : w1.cell? ⟨w.heap.size, 3, none⟩ = some (.slice none 0 0) := p0.cell 3
  have f2 : ∀ i, w1.frozen? ⟨w.heap.size, i, none⟩ = false := fun i => by simp [World.frozen?, show w1.heap[w.heap.size]? = _ from p0]
  have r0 := set4_box p0 (.int .i64 k1) (.int .i64 n1) (.string s1) (.slice a1 m1 c1)
  have r1 : Box (set4 w1 w.heap.size (.int .i64 k1) (.int .i64 n1) (.string s1) (.slice a1 m1 c1)) (w.heap.size + 1) #[.int .i64 0] 28 := (set4_other _ _ _ _ _ _ _ (by omega)).trans p1
  have r2 : (set4 w1 w.heap.size (.int .i64 k1) (.int .i64 n1) (.string s1) (.slice a1 m1 c1)).cell? ⟨w.heap.size + 1 + 1, 0, none⟩ = some (.slice A1 0 cc) := (World.cell?_of_block (a := ⟨w.heap.size + 1 + 1, 0, none⟩) (set4_other _ _ _ _ _ _ _ (by show w.heap.size + 1 + 1 ≠ _; omega))).trans hrd1
  have hb2 : Below w.heap.size w (set4 w1 w.heap.size (.int .i64 k1) (.int .i64 n1) (.string s1) (.slice a1 m1 c1)) := by
    unfold set4
    exact (((hb1.setCell (Nat.le_refl _) _).setCell (Nat.le_refl _) _).setCell (Nat.le_refl _) _).setCell (Nat.le_refl _) _
  have hrq : RdQ (w.heap.size ≤ ·) (done4 w1 w.heap.size k1 n1 s1 a1 m1 c1) t (.agg #[.int .i64 k1, .int .i64 n1, .string s1, .slice a1 m1 c1]) := by
    refine hrt.keep fun b hb1 hb2 => ?_
    have hbb : w.heap.size + 1 + 1 + 1 ≤ b := by simpa using hb1
    exact ⟨by omega, done4_other _ _ _ _ _ _ _ _ b (by omega) (by omega)⟩
  obtain ⟨d0, d1, d2, d3, d4, hbd⟩ := done4_facts (n := w.heap.size) p0 p1 hb1 k1 n1 s1 a1 m1 c1
  have HRQ := Lib.hid hrq
  have HD := Lib.hid (And.intro d0 (And.intro d1 (And.intro d2 (And.intro d3 (And.intro d4 hbd)))))
  have hc50 := r0.cell 0
  have hc51 := r0.cell 1
  have hc52 := r0.cell 2
  have hc53 := r0.cell 3
  have hc54 := r1.cell 0
  simp only [List.getElem?_toArray, List.getElem?_cons_zero, List.getElem?_cons_succ] at hc50 hc51 hc52 hc53 hc54
  unfold set4 at r2
  clear r0 r1 hb2 hh hcc1 hcc2 hrt hg hb0 hb1 q0 q1 HV hz0 d0 d1 d2 d3 d4 hbd hrq
  have e24 : w1.cell? ⟨w.heap.size + 1, 0, none⟩ = some (.int .i64 0) := p1.cell 0
  have f3 : ∀ i, w1.frozen? ⟨w.heap.size + 1, i, none⟩ = false := fun i => by simp [World.frozen?, show w1.heap[w.heap.size + 1]? = _ from p1]
  clear p0 p1 hc50 hc51 hc52 hc53 hc54
  go_wp2_with fail
  refine leaves_cons (f := 34) (args := #[.pointer (some ⟨w.heap.size, 0, none⟩), .pointer (some ⟨w.heap.size + 1, 0, none⟩)]) (by simp) (by simp [go_sem]) ?_
  refine (catch_idle w.heap.size (w.heap.size + 1) _).mono ?_
  rintro e u' w'' ⟨rfl, rfl, rfl⟩
  obtain ⟨d0, d1, d2, d3, d4, hbd⟩ := HD.out
  have hq := HRQ.out
  unfold done4 set4 at d0 d1 d2 d3 d4 hbd hq
  simp [Leaves, settle, results, Try.results18, go_sem, d0, d1, d2, d3, d4, DPost]
  exact ⟨hq, hbd⟩
end Go.Proofs.Ytkihimafeonibaa
