/- Restart, Stop. -/
import Derived.Test.YtiphajgmjmjanaaCk
import Derived.Test.YtiphajgmjmjanaaDr
namespace Go.Proofs.Ytiphajgmjmjanaa
open Go.RowKit
set_option linter.unusedVariables false

/-- A disk in a box, and the result's box behind it. -/
structure Two (w W : World) (d : Dk) (A : Option Addr) (c : Nat) (B : Option Addr) (k : Nat) : Prop where
  below : Below w.heap.size w W
  box : DBox W w.heap.size d A c B k
  res : Box W (w.heap.size + 1) #[.slice none 0 0, .slice none 0 0, .int .i64 0, .bool false] 25
  size : W.heap.size = w.heap.size + 1 + 1
theorem two_new (w : World) (d : Dk) (A : Option Addr) (c : Nat) (B : Option Addr) (k : Nat) : Two w ((w.alloc (.cells (dkc d A c B k) 25)).alloc (.cells #[.slice none 0 0, .slice none 0 0, .int .i64 0, .bool false] 25)) d A c B k := by
  have hb1 := (Below.refl w.heap.size w).alloc (Nat.le_refl _) (.cells (dkc d A c B k) 25)
  have hD1 : DBox (w.alloc (.cells (dkc d A c B k) 25)) w.heap.size d A c B k := Box.new w _ _
  refine ⟨hb1.alloc (by simp) _, Box.alloc hD1 _, ?_, by simp⟩
  have := Box.new (w.alloc (.cells (dkc d A c B k) 25)) #[.slice none 0 0, .slice none 0 0, .int .i64 0, .bool false] 25
  rw [World.size_alloc] at this
  exact this
/-- What the walk reads of the two boxes. -/
theorem Two.facts {w W W' : World} {d : Dk} {A B : Option Addr} {c k : Nat} (h : Two w W d A c B k) (hb : Below W.heap.size W W') :
    ((W'.cell? ⟨w.heap.size, 0, none⟩ = some (.slice A d.secs.length c) ∧ W'.cell? ⟨w.heap.size, 1, none⟩ = some (.slice B d.pend.length k) ∧ W'.cell? ⟨w.heap.size, 2, none⟩ = some (.int .i64 d.left) ∧ W'.cell? ⟨w.heap.size, 3, none⟩ = some (.bool d.stop)) ∧
    (W'.frozen? ⟨w.heap.size, 0, none⟩ = false ∧ W'.frozen? ⟨w.heap.size, 1, none⟩ = false ∧ W'.frozen? ⟨w.heap.size, 2, none⟩ = false ∧ W'.frozen? ⟨w.heap.size, 3, none⟩ = false)) ∧
    ((W'.cell? ⟨w.heap.size + 1, 0, none⟩ = some (.slice none 0 0) ∧ W'.cell? ⟨w.heap.size + 1, 1, none⟩ = some (.slice none 0 0) ∧ W'.cell? ⟨w.heap.size + 1, 2, none⟩ = some (.int .i64 0) ∧ W'.cell? ⟨w.heap.size + 1, 3, none⟩ = some (.bool false)) ∧
    (W'.frozen? ⟨w.heap.size + 1, 0, none⟩ = false ∧ W'.frozen? ⟨w.heap.size + 1, 1, none⟩ = false ∧ W'.frozen? ⟨w.heap.size + 1, 2, none⟩ = false ∧ W'.frozen? ⟨w.heap.size + 1, 3, none⟩ = false)) := by
  have h1 := DBox.up h.box hb
  have h2 := Box.below h.res hb
  exact ⟨⟨h1.cells, Box.frozen h1 0, Box.frozen h1 1, Box.frozen h1 2, Box.frozen h1 3⟩, ⟨h2.cell 0, h2.cell 1, h2.cell 2, h2.cell 3⟩, h2.frozen 0, h2.frozen 1, h2.frozen 2, h2.frozen 3⟩
theorem Two.lt {w W : World} {d : Dk} {A B : Option Addr} {c k : Nat} (h : Two w W d A c B k) : w.heap.size < W.heap.size ∧ w.heap.size + 1 < W.heap.size := by
  have := h.size
  omega
/-- A disk that lies where it lay. -/
theorem DkIn.same {w W : World} {d d' : Dk} {A B : Option Addr} {c k : Nat} (h : DkIn w d A c B k) (hb : Below w.heap.size w W) (h1 : d'.secs = d.secs) (h2 : d'.pend = d.pend) : DkIn W d' A c B k := by
  have := h.up hb
  unfold DkIn
  rw [h1, h2]
  exact this

theorem alloc2_box (w : World) (o : Obj) (cs : Array Value) (t : TypeId) : Box ((w.alloc o).alloc (.cells cs t)) (w.heap.size + 1) cs t := by
  have := Box.new (w.alloc o) cs t
  rw [World.size_alloc] at this
  exact this
theorem alloc2_below (w : World) (o o' : Obj) : Below w.heap.size w ((w.alloc o).alloc o') := ((Below.refl _ w).alloc (Nat.le_refl _) _).alloc (by simp) _

/-- The result's four cells are written. -/
theorem fin4 {w w1 : World} {t : TypeId} {a0 a1 a2 a3 : Value} (v0 v1 v2 v3 : Value) (hb : Below w.heap.size w w1) (hr : Box w1 (w.heap.size + 1) #[a0, a1, a2, a3] t) :
    Box ((((w1.setCell ⟨w.heap.size + 1, 0, none⟩ v0).setCell ⟨w.heap.size + 1, 1, none⟩ v1).setCell ⟨w.heap.size + 1, 2, none⟩ v2).setCell ⟨w.heap.size + 1, 3, none⟩ v3) (w.heap.size + 1) #[v0, v1, v2, v3] t ∧
    Below w.heap.size w ((((w1.setCell ⟨w.heap.size + 1, 0, none⟩ v0).setCell ⟨w.heap.size + 1, 1, none⟩ v1).setCell ⟨w.heap.size + 1, 2, none⟩ v2).setCell ⟨w.heap.size + 1, 3, none⟩ v3) :=
  ⟨box4 v0 v1 v2 v3 hr, (((hb.setCell (p := ⟨w.heap.size + 1, 0, none⟩) (Nat.le_succ _) v0).setCell (p := ⟨w.heap.size + 1, 1, none⟩) (Nat.le_succ _) v1).setCell (p := ⟨w.heap.size + 1, 2, none⟩) (Nat.le_succ _) v2).setCell (p := ⟨w.heap.size + 1, 3, none⟩) (Nat.le_succ _) v3⟩
theorem Two.fin {w W w1 : World} {d : Dk} {A B : Option Addr} {c k : Nat} (h : Two w W d A c B k) (hb : Below W.heap.size W w1) : Below w.heap.size w w1 ∧ Box w1 (w.heap.size + 1) #[.slice none 0 0, .slice none 0 0, .int .i64 0, .bool false] 25 :=
  ⟨h.below.trans (hb.mono h.below.size), h.res.below hb⟩

set_option maxHeartbeats 1000000 in
set_option maxRecDepth 100000 in
theorem restart_any (d : Dk) (A B : Option Addr) (c k0 : Nat) (w : World) (hS : RR w A d.secs c) :
    Calls Try.prog 17 #[dkv d A c B k0] w fun e w' => e = .returned (dkv (rs d) A c none 0) ∧ DkIn w' (rs d) A c none 0 ∧ Below w.heap.size w w' := by
  unfold dkv dkc
  have HF := Lib.hid (fun W (hb : Below w.heap.size w W) => (show DkIn W (rs d) A c none 0 from ⟨hS.up hb, WW.nil W⟩))
  have hr : (rs d).secs = d.secs := rfl
  have hp : (rs d).pend.length = 0 := rfl
  have hl : (rs d).left = -1 := rfl
  have hq : (rs d).stop = false := rfl
  rw [hr, hp, hl, hq]
  clear hr hp hl hq
  go_enter Try.func17, Try.ntmps17
  go_wp2_with fail
  refine bodyPost_ret (dk_ret Try.results17 rfl (alloc2_box _ _ _ _)) rfl ⟨rfl, HF.out _ (alloc2_below _ _ _), alloc2_below _ _ _⟩

set_option maxHeartbeats 1000000 in
set_option maxRecDepth 100000 in
theorem stop_any (d : Dk) (A B : Option Addr) (c k0 : Nat) (left : Int) (w : World) (hS : DkIn w d A c B k0) :
    Calls Try.prog 25 #[dkv d A c B k0, .int .i64 left] w (DkPost (st d left) (ste d left) w) := by
  have h2 := two_new w d A c B k0
  have HR := Lib.hid (isRunning_any d A B c k0 _ (hS.up h2.below))
  have HL := Lib.hid (fun W => isLeft_any left W)
  have H2 := Lib.hid h2
  have HF := Lib.hid (fun W (hb : Below w.heap.size w W) => hS.up hb)
  unfold DkPost
  unfold dkv dkc at *
  clear h2 hS
  cases q1 : rng d
  · have he : ste d left = 70 := by unfold ste; rw [q1]; rfl
    have hd : st d left = dk0 := by unfold st; rw [he]; rfl
    rw [he, hd]
    rw [q1] at HR
    clear q1 he hd
    generalize d.secs.length = N at *
    generalize d.pend.length = M at *
    go_enter Try.func25, Try.ntmps25
    go_wp2_with fail
    generalize World.alloc _ _ = W at *
    refine HR.out.mono ?_
    rintro e w1 ⟨rfl, hb1⟩
    obtain ⟨_, ⟨⟨r0, r1, r2, r3⟩, g0, g1, g2, g3⟩⟩ := H2.out.facts hb1
    have HB1 := Lib.hid hb1
    clear hb1
    go_wp2_with fail
    have hfin := fin4 (.slice none 0 0) (.slice none 0 0) (.int .i64 0) (.bool false) (H2.out.fin HB1.out).1 (H2.out.fin HB1.out).2
    exact bodyPost_ret (dk_ret2 Try.results25 rfl hfin.1) rfl ⟨none, 0, none, 0, rfl, DkIn.zero _, hfin.2⟩
  · rw [q1] at HR
    by_cases q2 : left = -1
    · have he : ste d left = 1 := by unfold ste; rw [q1, if_neg (by decide), if_neg (by omega)]
      have hd : st d left = dk0 := by unfold st; rw [he]; rfl
      rw [he, hd]
      subst q2
      clear q1 he hd
      generalize d.secs.length = N at *
      generalize d.pend.length = M at *
      go_enter Try.func25, Try.ntmps25
      go_wp2_with fail
      generalize World.alloc _ _ = W at *
      refine HR.out.mono ?_
      rintro e w1 ⟨rfl, hb1⟩
      obtain ⟨_, ⟨⟨r0, r1, r2, r3⟩, g0, g1, g2, g3⟩⟩ := H2.out.facts hb1
      have HB1 := Lib.hid hb1
      clear hb1
      go_wp2_with fail
      have hfin := fin4 (.slice none 0 0) (.slice none 0 0) (.int .i64 0) (.bool false) (H2.out.fin HB1.out).1 (H2.out.fin HB1.out).2
      exact bodyPost_ret (dk_ret2 Try.results25 rfl hfin.1) rfl ⟨none, 0, none, 0, rfl, DkIn.zero _, hfin.2⟩
    · have hne : (left == -1) = false := by simpa using q2
      cases q3 : left1 left
      · have he : ste d left = 1 := by
          unfold ste
          unfold left1 at q3
          have := of_decide_eq_false q3
          rw [q1, if_neg (by decide), if_neg (by omega)]
        have hd : st d left = dk0 := by unfold st; rw [he]; rfl
        rw [he, hd]
        rw [q3] at HL
        clear q1 he hd q2 q3
        generalize d.secs.length = N at *
        generalize d.pend.length = M at *
        go_enter Try.func25, Try.ntmps25
        go_wp2_with fail
        generalize World.alloc _ _ = W at *
        refine HR.out.mono ?_
        rintro e w1 ⟨rfl, hb1⟩
        obtain ⟨_, ⟨⟨r0, r1, r2, r3⟩, g0, g1, g2, g3⟩⟩ := H2.out.facts hb1
        have HB1 := Lib.hid hb1
        clear hb1
        go_wp2_with (refine (HL.out _).mono ?_; rintro e w2 ⟨rfl, rfl⟩)
        have hfin := fin4 (.slice none 0 0) (.slice none 0 0) (.int .i64 0) (.bool false) (H2.out.fin HB1.out).1 (H2.out.fin HB1.out).2
        exact bodyPost_ret (dk_ret2 Try.results25 rfl hfin.1) rfl ⟨none, 0, none, 0, rfl, DkIn.zero _, hfin.2⟩
      · have he : ste d left = 0 := by
          unfold ste
          unfold left1 at q3
          have := of_decide_eq_true q3
          rw [q1, if_neg (by decide), if_pos (by omega)]
        have hd : st d left = { d with left := left } := by unfold st; rw [he]; rfl
        rw [he, hd]
        simp only
        rw [q3] at HL
        clear q1 he hd q2 q3
        go_enter Try.func25, Try.ntmps25
        go_wp2_with fail
        generalize World.alloc _ _ = W at *
        refine HR.out.mono ?_
        rintro e w1 ⟨rfl, hb1⟩
        obtain ⟨⟨⟨b0, b1, b2, b3⟩, e0, e1, e2, e3⟩, ⟨⟨r0, r1, r2, r3⟩, g0, g1, g2, g3⟩⟩ := H2.out.facts hb1
        have HB1 := Lib.hid hb1
        clear hb1
        go_wp2_with (refine (HL.out _).mono ?_; rintro e w2 ⟨rfl, rfl⟩)
        have hfin := fin4 (w1 := w1.setCell ⟨w.heap.size, 2, none⟩ (.int .i64 left)) (.slice A d.secs.length c) (.slice B d.pend.length k0) (.int .i64 left) (.bool d.stop) ((H2.out.fin HB1.out).1.setCell (Nat.le_refl _) _) (box_other (H2.out.fin HB1.out).2 (by omega))
        exact bodyPost_ret (dk_ret2 Try.results25 rfl hfin.1) rfl ⟨A, c, B, k0, rfl, HF.out _ hfin.2, hfin.2⟩
end Go.Proofs.Ytiphajgmjmjanaa
