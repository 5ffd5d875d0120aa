/- stopped. -/
import Derived.Test.YtiphajgmjmjanaaPf
import Derived.Test.YtiphajgmjmjanaaRs
import Derived.Test.YtiphajgmjmjanaaRel
namespace Go.Proofs.Ytiphajgmjmjanaa
open Go.RowKit
set_option linter.unusedVariables false

/-- A sector lies in no small box. -/
theorem sl_no_box {w : World} {b off c : Nat} {s : List UInt8} {cs : Array Value} {t : TypeId} (h : Sl w (some ⟨b, off, none⟩) s c) (hs : s.length = 128) (hb : Box w b cs t) (hc : cs.size < 128) : False := by
  obtain ⟨b', off', e, _, hat⟩ := h.1 (by omega)
  cases e
  have := hat 127 s[127] (List.getElem?_eq_getElem (by omega))
  rw [hb.cell, Array.getElem?_eq_none (by omega)] at this
  cases this
/-- Rows of sectors behind a store into a small box. -/
theorem RR.other {w : World} {A : Option Addr} {l : List (List UInt8)} {c b : Nat} {cs : Array Value} {t : TypeId} (h : RR w A l c) (hw : ∀ s ∈ l, s.length = 128) (hb : Box w b cs t) (hc : cs.size < 128) (hA : ∀ a off, A = some ⟨a, off, none⟩ → a ≠ b) (i : Nat) (v : Value) : RR (w.setCell ⟨b, i, none⟩ v) A l c := by
  have hst := set_grown_at w b i v
  refine ⟨fun hp => ?_, h.2⟩
  obtain ⟨a, off, e, hlt, hs⟩ := h.1 hp
  refine ⟨a, off, e, Nat.lt_of_lt_of_le hlt hst.size, fun j s hj => ?_⟩
  obtain ⟨D, d, h1, h2⟩ := hs j s hj
  have hne := hA a off e
  refine ⟨D, d, hst.cell h1 (by simpa using hne), h2.keep hst (fun b2 off2 e2 => ?_)⟩
  subst e2
  intro e3
  injection e3 with e3
  subst e3
  exact sl_no_box h2 (hw s (List.mem_of_getElem? hj)) hb hc
theorem set_size {cs : Array Value} {i : Nat} {v : Value} : (cs.setIfInBounds i v).size = cs.size := by simp

/-- What each operation of the region that tears leaves. -/
def valT (X Y g N cg p k5 c1 : Nat) (A5 D1 : Option Addr) : Nat → Value
  | 0 => .pointer (some ⟨X, 0, none⟩)
  | 1 => .slice (some ⟨g, 0, none⟩) N cg
  | 2 => .pointer (some ⟨Y, 0, none⟩)
  | 3 => .int .i64 (p : Int)
  | 4 => .pointer (some ⟨X, 0, none⟩)
  | 5 => .slice (some ⟨g, 0, none⟩) N cg
  | 6 => .pointer (some ⟨Y, 0, none⟩)
  | 7 => .int .i64 (p : Int)
  | 8 => .pointer (some ⟨g, p, none⟩)
  | 9 => .slice A5 128 k5
  | 10 => .pointer (some ⟨Y, 1, none⟩)
  | 11 => .slice D1 128 c1
  | _ => undef
def phT (h : Nat) (L : List UInt8) (val : Nat → Value) : Nat → Value → World → Prop
  | 12, v, w => ∃ z, v = .slice (some ⟨z, 0, none⟩) 128 128 ∧ Sl w (some ⟨z, 0, none⟩) L 128 ∧ h ≤ z
  | i, v, _ => v = val i
theorem phT_lasts (h : Nat) (L : List UInt8) (val : Nat → Value) : ∀ i v w w', phT h L val i v w → Below w.heap.size w w' → phT h L val i v w' := by
  intro i v w w' hp hb
  by_cases e : i = 12
  · subst e
    obtain ⟨z, h1, h2, h3⟩ := hp
    exact ⟨z, h1, h2.up hb, h3⟩
  · unfold phT at hp ⊢
    split at hp
    · exact absurd rfl e
    · exact hp
def psT (_ _ : Nat) (_ _ : Value) : Prop := True

attribute [local go_sem] putAll upd

def StoPost (s : List (List UInt8)) (w : World) (e : Ending) (w' : World) : Prop := ∃ g cg, w.heap.size ≤ g ∧ e = .returned (.agg #[.slice (some ⟨g, 0, none⟩) s.length cg, .slice none 0 0, .int .i64 0, .bool true]) ∧ RR w' (some ⟨g, 0, none⟩) s cg ∧ Below w.heap.size w w'
/-- The sectors behind a sync that stops. -/
def tsecs (d : Dk) (n : Nat) : List (List UInt8) := (perf d.secs (d.pend.take n)).set (d.pend.getD n (0, [])).1.toNat (torn ((perf d.secs (d.pend.take n)).getD (d.pend.getD n (0, [])).1.toNat []) (d.pend.getD n (0, [])).2)

set_option maxHeartbeats 4000000 in
set_option maxRecDepth 100000 in
theorem stopped_any (d : Dk) (A B : Option Addr) (c k0 n : Nat) (w : World) (hS : DkIn w d A c B k0) (hv : vld d = true) (hl : d.left = (n : Int)) (hn : n < d.pend.length) :
    Calls Try.prog 38 #[dkv d A c B k0] w (StoPost (tsecs d n) w) := by
  obtain ⟨⟨f1, f2⟩, f3, f4, f5, f6⟩ := vld_facts.1 hv
  have h2 := two_new w d A c B k0
  have HP := Lib.hid (perf_any d A B c k0 n _ (hS.up h2.below) hv (by omega))
  have hpm := perf_mem (d.pend.take n) d.secs f5 (fun a ha => (f6 a (List.mem_of_mem_take ha)).2)
  have hpl := perf_length (d.pend.take n) d.secs
  have hnk : (n : Int) < (k0 : Int) := by have := hS.2.2.1; omega
  obtain ⟨a, ha⟩ : ∃ a, d.pend[n]? = some a := ⟨_, List.getElem?_eq_getElem hn⟩
  obtain ⟨⟨hp0, hp1⟩, hp2⟩ := f6 a (List.mem_of_getElem? ha)
  obtain ⟨x, s⟩ := a
  simp only at hp0 hp1 hp2
  obtain ⟨p, rfl⟩ : ∃ p : Nat, x = (p : Int) := ⟨x.toNat, by omega⟩
  have hts : tsecs d n = (perf d.secs (d.pend.take n)).set p (torn ((perf d.secs (d.pend.take n)).getD p []) s) := by
    unfold tsecs
    rw [List.getD_eq_getElem?_getD, ha]
    rfl
  rw [hts]
  clear hts
  obtain ⟨b, off, rfl, hlb, hat⟩ := hS.2.1 (by omega)
  have HAT := Lib.hid (And.intro (hat n _ ha) hlb)
  have H2 := Lib.hid h2
  unfold StoPost
  unfold PerfPost at HP
  unfold dkv at *
  unfold dkc at *
  rw [hl] at HP H2 h2 ⊢
  clear hat ha f5 f6 hS h2 hv f4
  generalize perf d.secs (d.pend.take n) = S at *
  obtain ⟨N, hN⟩ : ∃ N, d.secs.length = N := ⟨_, rfl⟩
  obtain ⟨m, hm⟩ : ∃ m, d.pend.length = m := ⟨_, rfl⟩
  rw [hpl] at HP
  rw [hN, hm] at HP H2 ⊢
  rw [hN] at hpl hp1 f1 f2
  rw [hm] at hn f3
  have HN := Lib.hid (And.intro hN hm)
  clear hN hm
  have hpS : p < S.length := by omega
  obtain ⟨s0, hs0⟩ : ∃ s0, S[p]? = some s0 := ⟨_, List.getElem?_eq_getElem hpS⟩
  have hs0l : s0.length = 128 := hpm s0 (List.mem_of_getElem? hs0)
  have hgd : S.getD p [] = s0 := by rw [List.getD_eq_getElem?_getD, hs0]; rfl
  rw [hgd]
  have HS0 := Lib.hid (And.intro hs0 (And.intro hs0l (And.intro hp2 (And.intro hpl (And.intro (torn_length hs0l hp2) hpm)))))
  have HLF := Lib.hid hl
  clear hgd hs0 hs0l hp2 hpm hpl hl
  go_enter Try.func38, Try.ntmps38
  go_wp2_with fail
  generalize World.alloc _ _ = W at *
  refine HP.out.mono ?_
  rintro e w1 ⟨g, cg, hg, rfl, hO, hb1⟩
  obtain ⟨⟨⟨b0, b1, b2, b3⟩, e0, e1, e2, e3⟩, ⟨⟨r0, r1, r2, r3⟩, g0, g1, g2, g3⟩⟩ := H2.out.facts hb1
  rw [HN.out.1] at b0
  rw [HN.out.2] at b1
  rw [HLF.out] at b2
  obtain ⟨D1, c1, h1, h2, h3⟩ := HAT.out.1.up HAT.out.2 (H2.out.below.trans (hb1.mono H2.out.below.size))
  rw [HS0.out.2.2.1] at h2
  have hblt : b < w1.heap.size := World.block_lt_of_cell? _ _ h1
  have hxb := Box.new w1 #[.slice (some ⟨g, 0, none⟩) N cg, .slice none 0 0, .int .i64 (n : Int), .bool d.stop] 25
  have hyb := alloc2_box w1 (.cells #[.slice (some ⟨g, 0, none⟩) N cg, .slice none 0 0, .int .i64 (n : Int), .bool d.stop] 25) #[.int .i64 (p : Int), .slice D1 128 c1] 54
  have hxb2 := Box.alloc hxb (.cells #[.int .i64 (p : Int), .slice D1 128 c1] 54)
  have hb13 := alloc2_below w1 (.cells #[.slice (some ⟨g, 0, none⟩) N cg, .slice none 0 0, .int .i64 (n : Int), .bool d.stop] 25) (.cells #[.int .i64 (p : Int), .slice D1 128 c1] 54)
  have H3 := Lib.hid (And.intro hxb2 (And.intro hyb (And.intro hb13 (And.intro (hO.below hb13) (h3.up hb13)))))
  have H1 := Lib.hid (And.intro hb1 hg)
  have hz0 : w.heap.size < w1.heap.size := Nat.lt_of_lt_of_le H2.out.lt.1 hb1.size
  have hz1 : w.heap.size + 1 < w1.heap.size := Nat.lt_of_lt_of_le H2.out.lt.2 hb1.size
  have hgl := hO.lt.2
  clear hxb hyb hxb2 hb13 hO h3 hb1 hg HP HAT
  go_wp2_with fail
  generalize World.alloc _ _ = W3 at *
  obtain ⟨hx, hy, h13, hO3, hs3⟩ := H3.out
  obtain ⟨A5, k5, c5, hs5, _⟩ := hO3.at_ HS0.out.1
  rw [HS0.out.2.1] at c5
  have HT := Lib.hid (fun V (hb : Below W3.heap.size W3 V) => torn_any A5 D1 k5 c1 s0 s V HS0.out.2.1 HS0.out.2.2.1 (hs5.up hb) (hs3.up hb))
  unfold SecPost at HT
  have hgx : g ≠ w1.heap.size := by omega
  clear h1 h2 b0 b1 b2 b3 r0 r1 r2 r3 e0 e1 e2 e3 g0 g1 g2 g3
  have hxl := hx.lt
  have hyl := hy.lt
  have hk : ∀ w5, Below W3.heap.size W3 w5 → w5.cell? ⟨w1.heap.size, 0, none⟩ = some (.slice (some ⟨g, 0, none⟩) N cg) ∧ w5.cell? ⟨w1.heap.size + 1, 0, none⟩ = some (.int .i64 (p : Int)) ∧ w5.cell? ⟨w1.heap.size + 1, 1, none⟩ = some (.slice D1 128 c1) ∧ w5.cell? ⟨g, p, none⟩ = some (.slice A5 128 k5) := fun w5 hb5 =>
    ⟨(hx.below hb5).cell 0, (hy.below hb5).cell 0, (hy.below hb5).cell 1, (hb5.cell (p := ⟨g, p, none⟩) hO3.lt.2).trans c5⟩
  have HKV := Lib.hid hk
  have HOV := Lib.hid (fun w5 (hb5 : Below W3.heap.size W3 w5) => And.intro (hO3.below hb5) (And.intro (hx.below hb5) (H2.out.res.below (H1.out.1.trans ((h13.trans (hb5.mono h13.size)).mono H1.out.1.size)))))
  have HWB := Lib.hid (fun w5 (hb5 : Below W3.heap.size W3 w5) => H2.out.below.trans ((H1.out.1.trans ((h13.trans (hb5.mono h13.size)).mono H1.out.1.size)).mono H2.out.below.size))
  have h13s := h13.size
  clear hk hx hy h13 hO3 hs3 hs5 c5
  have hpN2 : (p : Int) < (N : Int) := hp1
  refine region_put 13 [15, 16, 17, 18, 19, 20, 21, 22, 23, 24, 25, 26, 27] (fun V => Below W3.heap.size W3 V) (phT W3.heap.size (torn s0 s) (valT w1.heap.size (w1.heap.size + 1) g N cg p k5 c1 A5 D1)) psT (by kernel_rfl) ?_ (fun _ => undef) ?_ ?_ (phT_lasts _ _ _) ?_ ?_
  · kernel_rfl
  · kernel_rfl
  · exact (Below.refl W3.heap.size W3).drew
  · simp only [List.take_succ_cons, List.take_zero, Steps, Nat.reduceAdd, Nat.zero_add]
    refine ⟨?_, ?_, ?_, ?_, ?_, ?_, ?_, ?_, ?_, ?_, ?_, ?_, ?_, trivial⟩
    · constructor
      intro vs V hC hd
      go_simp
      refine Left.intro (.pointer (some ⟨w1.heap.size, 0, none⟩)) ?_ (Below.refl _ _) hC rfl (fun _ _ _ _ => ⟨trivial, trivial⟩)
      kernel_rfl
    · refine step_one 0 (.pointer (some ⟨w1.heap.size, 0, none⟩)) ?_ (fun v w h => h) ?_
      · kernel_rfl
      intro vs V hC
      have v0 := (HKV.out V hC).1
      have v1 := (HKV.out V hC).2.1
      have v2 := (HKV.out V hC).2.2.1
      have v3 := (HKV.out V hC).2.2.2
      go_simp
      refine Left.intro (.slice (some ⟨g, 0, none⟩) N cg) ?_ (Below.refl _ _) hC rfl (fun _ _ _ _ => ⟨trivial, trivial⟩)
      kernel_rfl
    · constructor
      intro vs V hC hd
      go_simp
      refine Left.intro (.pointer (some ⟨w1.heap.size + 1, 0, none⟩)) ?_ (Below.refl _ _) hC rfl (fun _ _ _ _ => ⟨trivial, trivial⟩)
      kernel_rfl
    · refine step_one 2 (.pointer (some ⟨w1.heap.size + 1, 0, none⟩)) ?_ (fun v w h => h) ?_
      · kernel_rfl
      intro vs V hC
      have v0 := (HKV.out V hC).1
      have v1 := (HKV.out V hC).2.1
      have v2 := (HKV.out V hC).2.2.1
      have v3 := (HKV.out V hC).2.2.2
      go_simp
      refine Left.intro (.int .i64 (p : Int)) ?_ (Below.refl _ _) hC rfl (fun _ _ _ _ => ⟨trivial, trivial⟩)
      kernel_rfl
    · constructor
      intro vs V hC hd
      go_simp
      refine Left.intro (.pointer (some ⟨w1.heap.size, 0, none⟩)) ?_ (Below.refl _ _) hC rfl (fun _ _ _ _ => ⟨trivial, trivial⟩)
      kernel_rfl
    · refine step_one 4 (.pointer (some ⟨w1.heap.size, 0, none⟩)) ?_ (fun v w h => h) ?_
      · kernel_rfl
      intro vs V hC
      have v0 := (HKV.out V hC).1
      have v1 := (HKV.out V hC).2.1
      have v2 := (HKV.out V hC).2.2.1
      have v3 := (HKV.out V hC).2.2.2
      go_simp
      refine Left.intro (.slice (some ⟨g, 0, none⟩) N cg) ?_ (Below.refl _ _) hC rfl (fun _ _ _ _ => ⟨trivial, trivial⟩)
      kernel_rfl
    · constructor
      intro vs V hC hd
      go_simp
      refine Left.intro (.pointer (some ⟨w1.heap.size + 1, 0, none⟩)) ?_ (Below.refl _ _) hC rfl (fun _ _ _ _ => ⟨trivial, trivial⟩)
      kernel_rfl
    · refine step_one 6 (.pointer (some ⟨w1.heap.size + 1, 0, none⟩)) ?_ (fun v w h => h) ?_
      · kernel_rfl
      intro vs V hC
      have v0 := (HKV.out V hC).1
      have v1 := (HKV.out V hC).2.1
      have v2 := (HKV.out V hC).2.2.1
      have v3 := (HKV.out V hC).2.2.2
      go_simp
      refine Left.intro (.int .i64 (p : Int)) ?_ (Below.refl _ _) hC rfl (fun _ _ _ _ => ⟨trivial, trivial⟩)
      kernel_rfl
    · refine step_two 5 7 (.slice (some ⟨g, 0, none⟩) N cg) (.int .i64 (p : Int)) ?_ ?_ (fun v w h => h) (fun v w h => h) ?_
      · kernel_rfl
      · kernel_rfl
      intro vs V hC
      go_simp
      refine Left.intro (.pointer (some ⟨g, p, none⟩)) ?_ (Below.refl _ _) hC rfl (fun _ _ _ _ => ⟨trivial, trivial⟩)
      kernel_rfl
    · refine step_one 8 (.pointer (some ⟨g, p, none⟩)) ?_ (fun v w h => h) ?_
      · kernel_rfl
      intro vs V hC
      have v0 := (HKV.out V hC).1
      have v1 := (HKV.out V hC).2.1
      have v2 := (HKV.out V hC).2.2.1
      have v3 := (HKV.out V hC).2.2.2
      go_simp
      refine Left.intro (.slice A5 128 k5) ?_ (Below.refl _ _) hC rfl (fun _ _ _ _ => ⟨trivial, trivial⟩)
      kernel_rfl
    · constructor
      intro vs V hC hd
      go_simp
      refine Left.intro (.pointer (some ⟨w1.heap.size + 1, 1, none⟩)) ?_ (Below.refl _ _) hC rfl (fun _ _ _ _ => ⟨trivial, trivial⟩)
      kernel_rfl
    · refine step_one 10 (.pointer (some ⟨w1.heap.size + 1, 1, none⟩)) ?_ (fun v w h => h) ?_
      · kernel_rfl
      intro vs V hC
      have v0 := (HKV.out V hC).1
      have v1 := (HKV.out V hC).2.1
      have v2 := (HKV.out V hC).2.2.1
      have v3 := (HKV.out V hC).2.2.2
      go_simp
      refine Left.intro (.slice D1 128 c1) ?_ (Below.refl _ _) hC rfl (fun _ _ _ _ => ⟨trivial, trivial⟩)
      kernel_rfl
    · refine step_two 9 11 (.slice A5 128 k5) (.slice D1 128 c1) ?_ ?_ (fun v w h => h) (fun v w h => h) ?_
      · kernel_rfl
      · kernel_rfl
      intro vs V hC
      go_simp
      refine (HT.out V hC).mono ?_
      rintro e w' ⟨rfl, hx5, hb5⟩
      refine Left.intro (.slice (some ⟨V.heap.size, 0, none⟩) 128 128) ?_ hb5 (hC.trans (hb5.mono hC.size)) ⟨V.heap.size, rfl, sl_box hx5 HS0.out.2.2.2.2.1 (by omega), hC.size⟩ (fun _ _ _ _ => ⟨trivial, trivial⟩)
      kernel_rfl
  · intro vs V hC hall _
    obtain ⟨z, h12, hs12, hz12⟩ := hall 12 (by omega)
    have h1 : vs 1 = .slice (some ⟨g, 0, none⟩) N cg := hall 1 (by omega)
    have h3 : vs 3 = .int .i64 (p : Int) := hall 3 (by omega)
    obtain ⟨hOv, hXv, hRv⟩ := HOV.out V hC
    obtain ⟨A6, k6, c6, _, _⟩ := hOv.at_ HS0.out.1
    have f6 := hOv.frozen p
    have x0 := hXv.cell 0
    have x1 := hXv.cell 1
    have x2 := hXv.cell 2
    have x3 := hXv.cell 3
    have y2 := hXv.frozen 2
    have y3 := hXv.frozen 3
    have r0 := hRv.cell 0
    have r1 := hRv.cell 1
    have r2 := hRv.cell 2
    have r3 := hRv.cell 3
    have g0 := hRv.frozen 0
    have g1 := hRv.frozen 1
    have g2 := hRv.frozen 2
    have g3 := hRv.frozen 3
    simp only [List.getElem?_toArray, List.getElem?_cons_zero, List.getElem?_cons_succ] at x0 x1 x2 x3 r0 r1 r2 r3
    have HV := Lib.hid (And.intro (hOv.set p (some ⟨z, 0, none⟩) (torn s0 s) 128 128 HS0.out.2.2.2.2.1 hs12 (fun b off e => by
      cases e
      omega)) (And.intro hXv (And.intro hRv (HWB.out V hC))))
    clear hOv hXv hRv hall HOV HKV HWB hC
    simp only [List.drop_succ_cons, List.drop_zero, putAll]
    rw [h1, h3, h12]
    clear h1 h3 h12
    have hgW : w.heap.size + 1 < g := by have h1 := H1.out.2; have h2 := H2.out.size; omega
    have n1 : ¬ w.heap.size + 1 = g := by omega
    have n2 : ¬ g = w.heap.size + 1 := by omega
    have n3 : ¬ w.heap.size + 1 = w1.heap.size := by omega
    have n4 : ¬ w1.heap.size = w.heap.size + 1 := by omega
    have n5 : ¬ w1.heap.size = g := by omega
    have n6 : ¬ g = w1.heap.size := by omega
    go_wp2_with fail
    have hbX := box_other (b := g) (i := p) (v := .slice (some ⟨z, 0, none⟩) 128 128) HV.out.2.1 n5
    have hbR := box_other (b := g) (i := p) (v := .slice (some ⟨z, 0, none⟩) 128 128) HV.out.2.2.1 n1
    have hrr := HV.out.1.1.rr
    have hmem : ∀ x ∈ S.set p (torn s0 s), x.length = 128 := fun x hx => by
      rcases List.mem_or_eq_of_mem_set hx with h | h
      · exact HS0.out.2.2.2.2.2 x h
      · rw [h]; exact HS0.out.2.2.2.2.1
    have hB := ((HV.out.2.2.2.setCell (p := ⟨g, p, none⟩) (by show w.heap.size ≤ g; omega) (.slice (some ⟨z, 0, none⟩) 128 128)).setCell (p := ⟨w1.heap.size, 2, none⟩) (Nat.le_of_lt hz0) (.int .i64 0)).setCell (p := ⟨w1.heap.size, 3, none⟩) (Nat.le_of_lt hz0) (.bool true)
    have hR1 := hrr.other hmem hbX (by simp) (fun a off e => by cases e; exact n6) 2 (.int .i64 0)
    have hR2 := hR1.other hmem hbX.set (by simp) (fun a off e => by cases e; exact n6) 3 (.bool true)
    have hbR2 := box_other (i := 3) (v := .bool true) (box_other (i := 2) (v := .int .i64 0) hbR n3) n3
    have hR3 := hR2.other hmem hbR2 (by simp) (fun a off e => by cases e; exact n2) 0 (.slice (some ⟨g, 0, none⟩) N cg)
    have hR4 := hR3.other hmem hbR2.set (by simp) (fun a off e => by cases e; exact n2) 1 (.slice none 0 0)
    have hR5 := hR4.other hmem hbR2.set.set (by simp) (fun a off e => by cases e; exact n2) 2 (.int .i64 0)
    have hR6 := hR5.other hmem hbR2.set.set.set (by simp) (fun a off e => by cases e; exact n2) 3 (.bool true)
    have hfin := fin4 (.slice (some ⟨g, 0, none⟩) N cg) (.slice none 0 0) (.int .i64 0) (.bool true) hB hbR2
    have hlen : (S.set p (torn s0 s)).length = N := by rw [List.length_set]; exact HS0.out.2.2.2.1
    exact bodyPost_ret (dk_ret Try.results38 rfl hfin.1) rfl ⟨g, cg, by omega, by rw [hlen], hR6, hfin.2⟩
end Go.Proofs.Ytiphajgmjmjanaa
