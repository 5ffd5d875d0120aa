/- The reference's New: rows of zeros that the call makes one by one. -/
import Derived.Test.YtiphajgmjmjanaaWr
import Derived.Test.YtiphajgmjmjanaaRs
import Derived.Deep.Cut
import Derived.Deep.CutRange
import Derived.Deep.AppendLies
namespace Go.Proofs.Ytiphajgmjmjanaa
open Go.RowKit
set_option linter.unusedVariables false
set_option linter.unusedSimpArgs false

theorem Box.keepB {w w' : World} {b B : Nat} {cs : Array Value} {t : TypeId} (h : Box w b cs t) (hb : Below B w w') (hlt : b < B) : Box w' b cs t := (hb.block b hlt).trans h
/-- Rows of zeros in a row of the call's own. -/
def NR (w0 w : World) (A : Option Addr) (k c : Nat) : Prop := ∃ vs, w.ownsRow w0.heap.size 35 1 (.slice A k c) k vs ∧ ∀ (i : Nat) (u : Value), vs[i]? = some u → ∃ z : Nat, u = .slice (some ⟨z, 0, none⟩) 128 128 ∧ Box w z (zrow 128) 5
theorem NR.start (w : World) : NR w w none 0 0 := ⟨[], World.ownsRow_nil w _ _ _, fun i u h => by cases h⟩
theorem NR.up {w0 w w' : World} {A : Option Addr} {k c : Nat} (h : NR w0 w A k c) (hb : Below w.heap.size w w') : NR w0 w' A k c := by
  obtain ⟨vs, h1, h2⟩ := h
  refine ⟨vs, own_below h1 hb, fun i u hu => ?_⟩
  obtain ⟨z, e, hz⟩ := h2 i u hu
  exact ⟨z, e, hz.below hb⟩
theorem NR.set {w0 w : World} {A : Option Addr} {k c b i : Nat} {cs : Array Value} {t : TypeId} {v : Value} (h : NR w0 w A k c) (hb : Box w b cs t) (ht : t ≠ 5) (hlt : b < w0.heap.size) : NR w0 (w.setCell ⟨b, i, none⟩ v) A k c := by
  obtain ⟨vs, h1, h2⟩ := h
  have hst := set_grown_at w b i v
  refine ⟨vs, h1.kept hst (.inr (fun e => ?_)), fun j u hu => ?_⟩
  · have := (h1.lt b e).1
    omega
  · obtain ⟨z, e, hz⟩ := h2 j u hu
    refine ⟨z, e, hz.grown hst (fun e2 => ?_)⟩
    injection e2 with e2
    subst e2
    unfold Box at hz hb
    rw [hz] at hb
    injection hb with hb
    injection hb with _ hb
    exact ht hb.symm
theorem NR.rr {w0 w : World} {A : Option Addr} {k c : Nat} (h : NR w0 w A k c) : RR w A (List.replicate k (List.replicate 128 0)) c := by
  obtain ⟨vs, h1, h2⟩ := h
  have hv : vs.length = k := by have := h1.1; omega
  rcases h1.2 with ⟨hn, hk⟩ | ⟨g, cap, cur, hn, hg, hbx, hkc, hcm, _⟩
  · injection hn with e1 _ e3
    subst e1 e3 hk
    exact RR.nil w
  · injection hn with e1 _ e3
    subst e1 e3
    refine ⟨fun hp => ⟨g, 0, rfl, heap_lt hbx, fun i s hi => ?_⟩, by simpa using hkc, hcm, fun e => by cases e⟩
    have hik : i < k := by
      have := (List.getElem?_eq_some_iff.1 hi).1
      simpa using this
    rw [List.getElem?_replicate, if_pos hik] at hi
    cases hi
    obtain ⟨z, e, hz⟩ := h2 i _ (List.getElem?_eq_getElem (by omega))
    refine ⟨some ⟨z, 0, none⟩, 128, ?_, sl_box hz List.length_replicate (by omega)⟩
    rw [Nat.zero_add, h1.cellAt i (by omega), List.getElem?_eq_getElem (by omega), e]
    simp
/-- append of one row of zeros, in a region that draws its order. -/
theorem step_append_nr {w0 w : World} {ops : Array Oper} {o : Oper} {a : Act} {K : Act → World → Prop} {Q : Exit → Act → World → Prop} {E : Prop} (hgd : o.guard = none) (s x : Operand)
    (ho : o.op = .call { callee := .builtin .append, args := #[s, x], argTypes := #[22, 22] })
    (A : Option Addr) (k c : Nat) (hs : a.eval s = .slice A k c) (hN : NR w0 w A k c) (q z : Nat) (hx : a.eval x = .slice (some ⟨q, 0, none⟩) 1 1)
    (hq : Box w q #[.slice (some ⟨z, 0, none⟩) 128 128] 35) (hz : Box w z (zrow 128) 5) (hb : k ≤ 100000) (hbase : w0.heap.size ≤ w.heap.size)
    (h : ∀ A' c' w', NR w0 w' A' (k + 1) c' → Below w0.heap.size w w' → K (a.put o.dst (.slice A' (k + 1) c')) w') :
    if Region.wanted o (yielded ops a.tmps) = true then Oper.wp Try.prog o a w K Q else E := by
  have hw : Region.wanted o (yielded ops a.tmps) = true := by simp [Region.wanted, hgd]
  rw [if_pos hw]
  obtain ⟨i0, hi0, hz0, hz1, hz2⟩ := info_parts rw_info
  obtain ⟨vs, h1, h2⟩ := hN
  have hnews : ∀ j v, [Value.slice (some ⟨z, 0, none⟩) 128 128][j]? = some v → w.cell? ((⟨q, 0, none⟩ : Addr).add j) = some v := World.news_of_block hq
  refine wp_append_own w s x 22 ho w0.heap.size 35 i0 (.slice none 0 0) 1 24 Try.underlying22 hi0 hz0 hz1 hz2 rfl (by decide) _ k vs hs h1 ⟨q, 0, none⟩ 1 1 [.slice (some ⟨z, 0, none⟩) 128 128] hx rfl hnews (by intro v hv; simp at hv; subst hv; rfl) (le_maxLen (by omega)) (by omega) hbase ?_
  intro v' w' ho' hg' _
  obtain ⟨A1, c1, rfl⟩ := own_form ho'
  have hkeep : ∀ y, Box w y (zrow 128) 5 → Box w' y (zrow 128) 5 := fun y hy => hy.grown hg' (fun e => by
    rcases h1.2 with ⟨hn, _⟩ | ⟨g, cap, cur, hn, _, hbx, _⟩
    · injection hn with e1
      subst e1
      cases e
    · injection hn with e1
      subst e1
      injection e with e
      subst e
      unfold Box at hy
      rw [hy] at hbx
      injection hbx with hbx
      injection hbx with _ hbx
      exact absurd hbx (by decide))
  refine h A1 c1 w' ⟨_, ho', fun i u hu => ?_⟩ ((Below.refl w0.heap.size w).grown hg' hbase (fun i hi => (h1.lt i hi).1))
  by_cases hi : i < vs.length
  · rw [List.getElem?_append_left hi] at hu
    obtain ⟨y, e, hy⟩ := h2 i u hu
    exact ⟨y, e, hkeep y hy⟩
  · rw [List.getElem?_append_right (by omega)] at hu
    have : i - vs.length = 0 := by
      have := (List.getElem?_eq_some_iff.1 hu).1
      simp at this
      omega
    rw [this] at hu
    cases hu
    exact ⟨z, rfl, hkeep z hz⟩

set_option maxHeartbeats 4000000 in
set_option maxRecDepth 100000 in
theorem rnew_any (n : Int) (w : World) : Calls Try.prog 13 #[.int .i64 n] w (DkPost (nw n) (nwe n) w) := by
  have hb0 := (Below.refl w.heap.size w).alloc (Nat.le_refl _) (.cells #[.slice none 0 0, .slice none 0 0, .int .i64 0, .bool false] 25)
  have hr0 := Box.new w #[.slice none 0 0, .slice none 0 0, .int .i64 0, .bool false] 25
  have H0 := Lib.hid (And.intro hb0 hr0)
  unfold DkPost
  unfold dkv dkc
  clear hb0 hr0
  by_cases q1 : n < 1
  · have he : nwe n = 1 := by unfold nwe; rw [show size1 n = false from decide_eq_false (by omega)]; rfl
    have hd : nw n = dk0 := by unfold nw; rw [he]; rfl
    rw [he, hd]
    have d1 : decide (n < 1) = true := decide_eq_true q1
    clear he hd
    go_enter Try.func13, Try.ntmps13
    go_wp2_with fail
    exact bodyPost_ret (dk_ret2 Try.results13 rfl H0.out.2) rfl ⟨none, 0, none, 0, rfl, DkIn.zero _, H0.out.1⟩
  · have d1 : decide (n < 1) = false := decide_eq_false q1
    by_cases q2 : 4096 < n
    · have he : nwe n = 1 := by unfold nwe; rw [show size1 n = false from decide_eq_false (by omega)]; rfl
      have hd : nw n = dk0 := by unfold nw; rw [he]; rfl
      rw [he, hd]
      have d2 : decide (4096 < n) = true := decide_eq_true q2
      clear he hd
      go_enter Try.func13, Try.ntmps13
      go_wp2_with fail
      exact bodyPost_ret (dk_ret2 Try.results13 rfl H0.out.2) rfl ⟨none, 0, none, 0, rfl, DkIn.zero _, H0.out.1⟩
    · have he : nwe n = 0 := by unfold nwe; rw [show size1 n = true from decide_eq_true (by omega)]; rfl
      have hd : nw n = ⟨List.replicate n.toNat (List.replicate 128 0), [], -1, false⟩ := by unfold nw; rw [if_pos he]
      rw [he, hd]
      have d2 : decide (4096 < n) = false := decide_eq_false q2
      obtain ⟨m, rfl⟩ : ∃ m : Nat, n = (m : Int) := ⟨n.toNat, by omega⟩
      rw [Int.toNat_natCast]
      simp only [List.length_replicate, List.length_nil]
      have hb2 := alloc2_below w (.cells #[.slice none 0 0, .slice none 0 0, .int .i64 0, .bool false] 25) (.cells #[.slice none 0 0, .slice none 0 0, .int .i64 (-1), .bool false] 25)
      have hx2 := alloc2_box w (.cells #[.slice none 0 0, .slice none 0 0, .int .i64 0, .bool false] 25) #[.slice none 0 0, .slice none 0 0, .int .i64 (-1), .bool false] 25
      have hr2 := Box.alloc (Box.new w #[.slice none 0 0, .slice none 0 0, .int .i64 0, .bool false] 25) (.cells #[.slice none 0 0, .slice none 0 0, .int .i64 (-1), .bool false] 25)
      have hsz : ((w.alloc (.cells #[.slice none 0 0, .slice none 0 0, .int .i64 0, .bool false] 25)).alloc (.cells #[.slice none 0 0, .slice none 0 0, .int .i64 (-1), .bool false] 25)).heap.size = w.heap.size + 1 + 1 := by simp
      have K0 := Lib.hid (And.intro hb2 (And.intro hx2 (And.intro hr2 hsz)))
      have hm4 : m ≤ 4096 := by omega
      clear he hd hb2 hx2 hr2 hsz H0
      go_enter Try.func13, Try.ntmps13
      go_upto_region 4 with fail
      generalize World.alloc _ (.cells #[.slice none 0 0, .slice none 0 0, .int .i64 (-1), .bool false] 25) = W0 at *
      clear d1 d2 q1 q2
      go_wp2_with fail
      go_loopw [5] (fun i wr => ∃ (k : Nat) (A : Option Addr) (c : Nat), k ≤ m ∧ i = .int .i64 k ∧ Box wr (w.heap.size + 1) #[.slice A k c, .slice none 0 0, .int .i64 (-1), .bool false] 25 ∧ Box wr w.heap.size #[.slice none 0 0, .slice none 0 0, .int .i64 0, .bool false] 25 ∧ NR W0 wr A k c ∧ Below w.heap.size w wr ∧ W0.heap.size ≤ wr.heap.size) (fun i _ => m - (intOf i).toNat)
      case atStart => exact ⟨0, none, 0, Nat.zero_le _, rfl, K0.out.2.1, K0.out.2.2.1, NR.start W0, K0.out.1, Nat.le_refl _⟩
      case round =>
        obtain ⟨k, A, c, hk, rfl, y4, y2, yn, hbw, hzz⟩ := hrel
        have KR := Lib.hid (And.intro y4 (And.intro y2 (And.intro yn (And.intro hbw hzz))))
        clear y4 y2 yn hbw hzz
        by_cases hlt : k < m
        · have hmk : ∀ w : World, (Instr.makeSlice 35 (.int .i64 128) (.int .i64 128)).run Try.prog w = .ok (.slice (some ⟨w.heap.size, 0, none⟩) 128 128) (w.alloc (.cells (zrow 128) 5)) := fun w => make_any 128 w (by omega)
          have hba := (Below.refl wr.heap.size wr).alloc (Nat.le_refl _) (.cells (zrow 128) 5)
          have hbb := hba.alloc (by simp) (.cells #[.slice (some ⟨wr.heap.size, 0, none⟩) 128 128] 35)
          have hxa := Box.alloc (Box.new wr (zrow 128) 5) (.cells #[.slice (some ⟨wr.heap.size, 0, none⟩) 128 128] 35)
          have hxb := Box.new (wr.alloc (.cells (zrow 128) 5)) #[.slice (some ⟨wr.heap.size, 0, none⟩) 128 128] 35
          rw [World.size_alloc] at hxb
          have HB := Lib.hid (And.intro hbb.drew (And.intro hxa.drew hxb.drew))
          have hsz := K0.out.2.2.2
          have x0 : wr.cell? ⟨w.heap.size + 1, 0, none⟩ = some (.slice A k c) := KR.out.1.cell 0
          have hlx := KR.out.1.lt
          have x0a : (wr.alloc (.cells (zrow 128) 5)).cell? ⟨w.heap.size + 1, 0, none⟩ = some (.slice A k c) := (KR.out.1.below hba).cell 0
          have x0b : ((wr.alloc (.cells (zrow 128) 5)).alloc (.cells #[.slice (some ⟨wr.heap.size, 0, none⟩) 128 128] 35)).cell? ⟨w.heap.size + 1, 0, none⟩ = some (.slice A k c) := (KR.out.1.below hbb).cell 0
          clear hba hbb hxa hxb
          go_wp2_with fail
          go_region_law (first
            | ((refine step_append_nr (w0 := W0) (by rfl) (.tmp 20) (.tmp 22) (by rfl) A k c (by rfl) (KR.out.2.2.1.up HB.out.1) (wr.heap.size + 1) wr.heap.size (by rfl) HB.out.2.2 HB.out.2.1 (by omega) (Nat.le_trans KR.out.2.2.2.2 HB.out.1.size) ?_; intro A9 c9 w9 hn9 hb9; have x9 := (KR.out.1.below HB.out.1).keepB hb9 (by omega); have g9 := x9.frozen 0; have z9 : w9.cell? ⟨w.heap.size + 1, 0, none⟩ = some (.slice A k c) := x9.cell 0; have N9 := Lib.hid (And.intro hn9 (And.intro hb9 x9)); clear hn9 hb9 x9)))
          all_goals
            have F1 := N9.out.1.set (i := 0) (v := .slice A9 (k + 1) c9) N9.out.2.2 (by decide) (by omega)
            have F2 : Box (w9.setCell ⟨w.heap.size + 1, 0, none⟩ (.slice A9 (k + 1) c9)) (w.heap.size + 1) #[.slice A9 (k + 1) c9, .slice none 0 0, .int .i64 (-1), .bool false] 25 := N9.out.2.2.set (i := 0) (v := .slice A9 (k + 1) c9)
            have F3 := box_other (b := w.heap.size + 1) (i := 0) (v := .slice A9 (k + 1) c9) ((KR.out.2.1.below HB.out.1).keepB N9.out.2.1 (by omega)) (by omega)
            have F4 := (((KR.out.2.2.2.1.trans (HB.out.1.mono KR.out.2.2.2.1.size)).trans (N9.out.2.1.mono (by omega))).setCell (p := ⟨w.heap.size + 1, 0, none⟩) (Nat.le_succ _) (.slice A9 (k + 1) c9))
            have F5 : W0.heap.size ≤ (w9.setCell ⟨w.heap.size + 1, 0, none⟩ (.slice A9 (k + 1) c9)).heap.size := by
              have h1 := N9.out.2.1.size
              have h2 := (set_grown_at w9 (w.heap.size + 1) 0 (.slice A9 (k + 1) c9)).size
              have h3 := HB.out.1.size
              have h4 := KR.out.2.2.2.2
              omega
            have F := Lib.hid (And.intro F2 (And.intro F3 (And.intro F1 (And.intro F4 F5))))
            clear F1 F2 F3 F4 F5 N9 HB KR z9 g9 x0 x0a x0b hmk
            generalize World.setCell _ ⟨w.heap.size + 1, 0, none⟩ _ = wF at *
            go_wp2_with fail
            go_roundw
            case rel => exact ⟨k + 1, A9, c9, by omega, by go_num, F.out⟩
            case measure => simp [intOf]; omega
        · obtain rfl : k = m := by omega
          obtain ⟨b0, b1, b2, b3⟩ : wr.cell? ⟨w.heap.size + 1, 0, none⟩ = some (.slice A k c) ∧ wr.cell? ⟨w.heap.size + 1, 1, none⟩ = some (.slice none 0 0) ∧ wr.cell? ⟨w.heap.size + 1, 2, none⟩ = some (.int .i64 (-1)) ∧ wr.cell? ⟨w.heap.size + 1, 3, none⟩ = some (.bool false) := ⟨KR.out.1.cell 0, KR.out.1.cell 1, KR.out.1.cell 2, KR.out.1.cell 3⟩
          obtain ⟨r0, r1, r2, r3⟩ : wr.cell? ⟨w.heap.size, 0, none⟩ = some (.slice none 0 0) ∧ wr.cell? ⟨w.heap.size, 1, none⟩ = some (.slice none 0 0) ∧ wr.cell? ⟨w.heap.size, 2, none⟩ = some (.int .i64 0) ∧ wr.cell? ⟨w.heap.size, 3, none⟩ = some (.bool false) := ⟨KR.out.2.1.cell 0, KR.out.2.1.cell 1, KR.out.2.1.cell 2, KR.out.2.1.cell 3⟩
          have g0 := KR.out.2.1.frozen 0
          have g1 := KR.out.2.1.frozen 1
          have g2 := KR.out.2.1.frozen 2
          have g3 := KR.out.2.1.frozen 3
          have hsz := K0.out.2.2.2
          go_wp2_with fail
          have e0 := KR.out.2.1
          have n1 := KR.out.2.2.1.set (i := 0) (v := .slice A k c) e0 (by decide) (by omega)
          have n2 := n1.set (i := 1) (v := .slice none 0 0) e0.set (by decide) (by omega)
          have n3 := n2.set (i := 2) (v := .int .i64 (-1)) e0.set.set (by decide) (by omega)
          have n4 := n3.set (i := 3) (v := .bool false) e0.set.set.set (by decide) (by omega)
          have hx := box4 (.slice A k c) (.slice none 0 0) (.int .i64 (-1)) (.bool false) e0
          have hb := (((KR.out.2.2.2.1.setCell (p := ⟨w.heap.size, 0, none⟩) (Nat.le_refl _) (.slice A k c)).setCell (p := ⟨w.heap.size, 1, none⟩) (Nat.le_refl _) (.slice none 0 0)).setCell (p := ⟨w.heap.size, 2, none⟩) (Nat.le_refl _) (.int .i64 (-1))).setCell (p := ⟨w.heap.size, 3, none⟩) (Nat.le_refl _) (.bool false)
          exact bodyPost_ret (dk_ret2 Try.results13 rfl hx) rfl ⟨A, c, none, 0, rfl, ⟨n4.rr, WW.nil _⟩, hb⟩
end Go.Proofs.Ytiphajgmjmjanaa
