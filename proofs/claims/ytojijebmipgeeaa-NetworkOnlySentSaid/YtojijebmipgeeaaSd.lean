/- New, Send, Lose, Repeat. -/
import Derived.Test.YtojijebmipgeeaaMv
import Derived.Test.YtojijebmipgeeaaIc
namespace Go.Proofs.Ytojijebmipgeeaa
open Go.RowKit
set_option linter.unusedVariables false

theorem new_any (w : World) : Calls Try.prog 16 #[] w (NtOnly nt0 w) := by
  have hZ : Box (w.alloc (.cells #[.slice none 0 0, .slice none 0 0] 25)) w.heap.size #[.slice none 0 0, .slice none 0 0] 25 := Box.new w _ _
  have HZ := Lib.hid hZ
  clear hZ
  unfold NtOnly
  go_enter Try.func16, Try.ntmps16
  go_wp2_with fail
  exact bodyPost_ret (nt_ret Try.results16 rfl HZ.out) rfl ⟨none, 0, none, 0, rfl, NtIn.zero _, (Below.refl _ w).alloc (Nat.le_refl _) _⟩


/-- Links in a box, and the result's box behind it. -/
structure Two (w W : World) (n : Nt) (A : Option Addr) (c : Nat) (B : Option Addr) (k : Nat) : Prop where
  below : Below w.heap.size w W
  box : Box W w.heap.size (ntc n A c B k) 25
  res : Box W (w.heap.size + 1) #[.slice none 0 0, .slice none 0 0] 25
theorem two_new (w : World) (n : Nt) (A : Option Addr) (c : Nat) (B : Option Addr) (k : Nat) : Two w ((w.alloc (.cells (ntc n A c B k) 25)).alloc (.cells #[.slice none 0 0, .slice none 0 0] 25)) n A c B k := by
  refine ⟨((Below.refl _ w).alloc (Nat.le_refl _) _).alloc (by simp) _, Box.alloc (Box.new w _ _) _, ?_⟩
  have := Box.new (w.alloc (.cells (ntc n A c B k) 25)) #[.slice none 0 0, .slice none 0 0] 25
  rw [World.size_alloc] at this
  exact this
theorem Two.facts {w W W' : World} {n : Nt} {A : Option Addr} {c : Nat} {B : Option Addr} {k : Nat} (h : Two w W n A c B k) (hb : Below W.heap.size W W') :
    (W'.cell? ⟨w.heap.size, 0, none⟩ = some (.slice A n.q.length c) ∧ W'.cell? ⟨w.heap.size, 1, none⟩ = some (.slice B n.ap.length k)) ∧
    (W'.cell? ⟨w.heap.size + 1, 0, none⟩ = some (.slice none 0 0) ∧ W'.cell? ⟨w.heap.size + 1, 1, none⟩ = some (.slice none 0 0) ∧ W'.frozen? ⟨w.heap.size + 1, 0, none⟩ = false ∧ W'.frozen? ⟨w.heap.size + 1, 1, none⟩ = false) :=
  ⟨⟨(h.box.below hb).cell 0, (h.box.below hb).cell 1⟩, (h.res.below hb).cell 0, (h.res.below hb).cell 1, (h.res.below hb).frozen 0, (h.res.below hb).frozen 1⟩
theorem Two.fin {w W W' : World} {n : Nt} {A : Option Addr} {c : Nat} {B : Option Addr} {k : Nat} (h : Two w W n A c B k) (hb : Below W.heap.size W W') {m : Nt} {A' B' : Option Addr} {c' k' : Nat} (hN : NtIn W' m A' c' B' k') {l1 l2 : Nat} (h1 : m.q.length = l1) (h2 : m.ap.length = l2) :
    Box ((W'.setCell ⟨w.heap.size + 1, 0, none⟩ (.slice A' l1 c')).setCell ⟨w.heap.size + 1, 1, none⟩ (.slice B' l2 k')) (w.heap.size + 1) #[.slice A' l1 c', .slice B' l2 k'] 25 ∧
    NtIn ((W'.setCell ⟨w.heap.size + 1, 0, none⟩ (.slice A' l1 c')).setCell ⟨w.heap.size + 1, 1, none⟩ (.slice B' l2 k')) m A' c' B' k' ∧
    Below w.heap.size w ((W'.setCell ⟨w.heap.size + 1, 0, none⟩ (.slice A' l1 c')).setCell ⟨w.heap.size + 1, 1, none⟩ (.slice B' l2 k')) := by
  have hz := h.res.below hb
  exact ⟨box2 _ _ hz, (hN.off hz (onlyS2 _ _ _ _ _ _) 0 _).off (hz.set (i := 0) (v := .slice A' l1 c')) (OnlyS.set (onlyS2 _ _ _ _ _ _) 0 _ _ _) 1 _,
    (((h.below.trans (hb.mono h.below.size)).setCell (p := ⟨w.heap.size + 1, 0, none⟩) (by show w.heap.size ≤ w.heap.size + 1; omega) _).setCell (p := ⟨w.heap.size + 1, 1, none⟩) (by show w.heap.size ≤ w.heap.size + 1; omega) _)⟩

set_option maxHeartbeats 2000000 in
set_option maxRecDepth 100000 in
theorem lose_any (n : Nt) (A B : Option Addr) (c k : Nat) (i : Int) (w : World) (hS : NtIn w n A c B k) :
    Calls Try.prog 23 #[ntv n A c B k, .int .i64 i] w (NtPost (los n i) (hle n i) w) := by
  have h2 := two_new w n A c B k
  have HH := Lib.hid (fun W (hb : Below w.heap.size w W) => holds_any n A B c k i W (hS.up hb))
  have HWO := Lib.hid (fun W (hb : Below w.heap.size w W) (j : Nat) (h1 : j < n.q.length) (h2 : n.q.length ≤ 4096) => without_any n A B c k j W (hS.up hb) h1 h2)
  have H2 := Lib.hid h2
  unfold NtPost IntPost NtOnly at *
  unfold ntv ntc at *
  clear h2 hS
  obtain ⟨N, hN⟩ : ∃ N, n.q.length = N := ⟨_, rfl⟩
  obtain ⟨M, hM⟩ : ∃ M, n.ap.length = M := ⟨_, rfl⟩
  have HN := Lib.hid (And.intro hN hM)
  rw [hN] at HH HWO H2 ⊢
  rw [hM] at HH HWO H2 ⊢
  clear hN hM
  rcases hle_cases n i with ⟨h1, h2⟩ | ⟨h1, h2⟩
  · have hin : 0 ≤ i ∧ i < (N : Int) ∧ N ≤ 4096 := by
      unfold can inq vld at h1
      simp only [Bool.and_eq_true, decide_eq_true_eq] at h1
      have := HN.out.1
      omega
    obtain ⟨j, rfl⟩ : ∃ j : Nat, i = (j : Int) := ⟨i.toNat, by omega⟩
    have HE := Lib.hid (show los n (j : Int) = wo n j by unfold los; rw [h1]; rfl)
    have hjN : j < N := by omega
    have hN4 := hin.2.2
    rw [h2] at HH ⊢
    clear h1 h2 hin
    go_enter Try.func23, Try.ntmps23
    go_wp2_with fail
    generalize World.alloc _ _ = W at *
    have hx := (H2.out.facts (Below.refl _ _)).1.1
    have hx1 := (H2.out.facts (Below.refl _ _)).1.2
    rw [HN.out.1] at hx
    rw [HN.out.2] at hx1
    go_wp2_with fail
    refine (HH.out _ H2.out.below).mono ?_
    rintro e w1 ⟨rfl, hb1⟩
    clear hx hx1
    obtain ⟨⟨x0, x1⟩, z0, z1, f0, f1⟩ := H2.out.facts hb1
    rw [HN.out.1] at x0
    rw [HN.out.2] at x1
    have HB1 := Lib.hid hb1
    have HBW := Lib.hid (H2.out.below.trans (hb1.mono H2.out.below.size))
    clear hb1
    go_wp2_with fail
    refine (HWO.out _ HBW.out j (by omega) (by omega)).mono ?_
    rintro e w2 ⟨A', c', B', k', rfl, hN2, hb2⟩
    clear x0 x1 z0 z1 f0 f1
    have HB2 := Lib.hid (HB1.out.trans (hb2.mono HB1.out.size))
    obtain ⟨l1, hl1⟩ : ∃ l1, (wo n j).q.length = l1 := ⟨_, rfl⟩
    obtain ⟨l2, hl2⟩ : ∃ l2, (wo n j).ap.length = l2 := ⟨_, rfl⟩
    have HF := Lib.hid (H2.out.fin HB2.out hN2 hl1 hl2)
    have HL := Lib.hid (And.intro hl1 hl2)
    obtain ⟨_, z0, z1, f0, f1⟩ := H2.out.facts HB2.out
    rw [hl1, hl2]
    clear hb2 hN2 hl1 hl2
    go_wp2_with fail
    refine bodyPost_ret (nt_ret2 Try.results23 rfl HF.out.1) rfl ⟨A', c', B', k', ?_, ?_, ?_⟩
    · rw [HE.out, HL.out.1, HL.out.2]; rfl
    · rw [HE.out]; exact HF.out.2.1
    · exact HF.out.2.2
  · have HE := Lib.hid (show los n i = nt0 by unfold los; rw [h1]; rfl)
    clear h1
    rcases h2 with h2 | h2
    all_goals
      rw [h2] at HH ⊢
      clear h2
      go_enter Try.func23, Try.ntmps23
      go_wp2_with fail
      generalize World.alloc _ _ = W at *
      have hx := (H2.out.facts (Below.refl _ _)).1.1
      have hx1 := (H2.out.facts (Below.refl _ _)).1.2
      rw [HN.out.1] at hx
      rw [HN.out.2] at hx1
      go_wp2_with fail
      refine (HH.out _ H2.out.below).mono ?_
      rintro e w1 ⟨rfl, hb1⟩
      clear hx hx1
      obtain ⟨_, z0, z1, f0, f1⟩ := H2.out.facts hb1
      have HF := Lib.hid (H2.out.fin hb1 (NtIn.zero w1) (l1 := 0) (l2 := 0) rfl rfl)
      clear hb1
      go_wp2_with fail
      refine bodyPost_ret (nt_ret2 Try.results23 rfl HF.out.1) rfl ⟨none, 0, none, 0, ?_, ?_, ?_⟩
      · rw [HE.out]; rfl
      · rw [HE.out]; exact HF.out.2.1
      · exact HF.out.2.2
end Go.Proofs.Ytojijebmipgeeaa
