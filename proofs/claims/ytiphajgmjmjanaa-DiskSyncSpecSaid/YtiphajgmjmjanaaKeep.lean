/- A disk whose box is written anew: what the new value reaches does not lie in the box. -/
import Derived.Test.YtiphajgmjmjanaaWr
namespace Go.Proofs.Ytiphajgmjmjanaa
open Go.RowKit
set_option linter.unusedVariables false

def whl (d : Dk) : Prop := (∀ s ∈ d.secs, s.length = 128) ∧ ∀ a ∈ d.pend, a.2.length = 128
theorem whl_zero : whl dk0 := ⟨(fun s h => by cases h), (fun a h => by cases h)⟩
theorem whl_vld {d : Dk} (h : vld d = true) : whl d := by
  obtain ⟨_, _, _, f4, f5⟩ := vld_facts.1 h
  exact ⟨f4, fun a ha => (f5 a ha).2⟩
theorem whl_rs {d : Dk} (h : whl d) : whl (rs d) := ⟨h.1, fun a ha => by cases ha⟩
theorem rr_off_box {w : World} {l : List (List UInt8)} {d' : Dk} {A A' B' : Option Addr} {c c' k' b : Nat} (h : RR w A l c) (hl : 0 < l.length) (h128 : ∀ s ∈ l, s.length = 128) (hb : DBox w b d' A' c' B' k') (h' : DkIn w d' A' c' B' k') : ∀ a off, A = some ⟨a, off, none⟩ → a ≠ b := by
  rintro a off rfl rfl
  obtain ⟨a', off', e, _, hat⟩ := h.1 hl
  cases e
  obtain ⟨D, dd, h1, h2⟩ := hat 0 _ (List.getElem?_eq_getElem hl)
  have hs := h128 _ (List.getElem_mem hl)
  rw [hs, Nat.add_zero] at h1
  obtain ⟨x, y, e2, _, hby⟩ := h2.1 (by omega)
  have hb0 := hby 0 _ (List.getElem?_eq_getElem (by omega))
  rw [Nat.add_zero] at hb0
  subst e2
  rw [Box.cell hb] at h1
  match off, h1 with
  | 0, h1 =>
    simp [dkc] at h1
    obtain ⟨rfl, h3, _⟩ := h1
    obtain ⟨x', y', e3, _, hr⟩ := h'.1.1 (by omega)
    cases e3
    obtain ⟨D2, d2, k1, _⟩ := hr 0 _ (List.getElem?_eq_getElem (by omega))
    rw [Nat.add_zero, hb0] at k1
    cases k1
  | 1, h1 =>
    simp [dkc] at h1
    obtain ⟨rfl, h3, _⟩ := h1
    obtain ⟨x', y', e3, _, hr⟩ := h'.2.1 (by omega)
    cases e3
    obtain ⟨D2, d2, k1, _⟩ := hr 0 _ (List.getElem?_eq_getElem (by omega))
    rw [Nat.zero_mul, Nat.add_zero, hb0] at k1
    cases k1
  | 2, h1 => simp [dkc] at h1
  | 3, h1 => simp [dkc] at h1
  | off + 4, h1 => simp [dkc] at h1
theorem ww_off_box {w : World} {l : List (Int × List UInt8)} {d' : Dk} {A A' B' : Option Addr} {c c' k' b : Nat} (h : WW w A l c) (hl : 0 < l.length) (hb : DBox w b d' A' c' B' k') : ∀ a off, A = some ⟨a, off, none⟩ → a ≠ b := by
  rintro a off rfl rfl
  obtain ⟨a', off', e, _, hat⟩ := h.1 hl
  cases e
  obtain ⟨D, dd, h1, h2, _⟩ := hat 0 _ (List.getElem?_eq_getElem hl)
  rw [Nat.zero_mul, Nat.add_zero] at h1 h2
  rw [Box.cell hb] at h1 h2
  match off, h1, h2 with
  | 0, h1, _ => simp [dkc] at h1
  | 1, h1, _ => simp [dkc] at h1
  | 2, _, h2 => simp [dkc] at h2
  | 3, h1, _ => simp [dkc] at h1
  | off + 4, h1, _ => simp [dkc] at h1
/-- The box's four cells are written: what the disk d reaches stays. -/
theorem DkIn.boxed {w : World} {d d' : Dk} {A B A' B' : Option Addr} {c k c' k' b : Nat} (h : DkIn w d A c B k) (hw : whl d) (hb : DBox w b d' A' c' B' k') (h' : DkIn w d' A' c' B' k') (v0 v1 v2 v3 : Value) :
    DkIn ((((w.setCell ⟨b, 0, none⟩ v0).setCell ⟨b, 1, none⟩ v1).setCell ⟨b, 2, none⟩ v2).setCell ⟨b, 3, none⟩ v3) d A c B k := by
  constructor
  · by_cases hl : 0 < d.secs.length
    · have hoff := rr_off_box h.1 hl hw.1 hb h'
      obtain ⟨a, off, rfl, _⟩ := h.1.1 hl
      have hne := hoff a off rfl
      have hbb : Box w b (dkc d' A' c' B' k') 25 := hb
      have h1 := h.1.other hw.1 hbb (by simp [dkc]) (fun a2 off2 e => by cases e; exact hne) 0 v0
      have h2 := h1.other hw.1 hbb.set (by simp [dkc]) (fun a2 off2 e => by cases e; exact hne) 1 v1
      have h3 := h2.other hw.1 hbb.set.set (by simp [dkc]) (fun a2 off2 e => by cases e; exact hne) 2 v2
      exact h3.other hw.1 hbb.set.set.set (by simp [dkc]) (fun a2 off2 e => by cases e; exact hne) 3 v3
    · exact ⟨fun hp => absurd hp hl, h.1.2⟩
  · by_cases hl : 0 < d.pend.length
    · have hoff := ww_off_box h.2 hl hb
      obtain ⟨a, off, rfl, _⟩ := h.2.1 hl
      have hne := hoff a off rfl
      have hbb : Box w b (dkc d' A' c' B' k') 25 := hb
      have h1 := h.2.other hw.2 hbb (by simp [dkc]) (fun a2 off2 e => by cases e; exact hne) 0 v0
      have h2 := h1.other hw.2 hbb.set (by simp [dkc]) (fun a2 off2 e => by cases e; exact hne) 1 v1
      have h3 := h2.other hw.2 hbb.set.set (by simp [dkc]) (fun a2 off2 e => by cases e; exact hne) 2 v2
      exact h3.other hw.2 hbb.set.set.set (by simp [dkc]) (fun a2 off2 e => by cases e; exact hne) 3 v3
    · exact ⟨fun hp => absurd hp hl, h.2.2⟩
/-- A box is written anew with a disk. -/
theorem dk_store {w : World} {d d' : Dk} {A B A' B' : Option Addr} {c k c' k' b : Nat} (h : DkIn w d A c B k) (hw : whl d) (hb : DBox w b d' A' c' B' k') (h' : DkIn w d' A' c' B' k') {n0 : Nat} (hn : n0 ≤ b) :
    DBox ((((w.setCell ⟨b, 0, none⟩ (.slice A d.secs.length c)).setCell ⟨b, 1, none⟩ (.slice B d.pend.length k)).setCell ⟨b, 2, none⟩ (.int .i64 d.left)).setCell ⟨b, 3, none⟩ (.bool d.stop)) b d A c B k ∧
    DkIn ((((w.setCell ⟨b, 0, none⟩ (.slice A d.secs.length c)).setCell ⟨b, 1, none⟩ (.slice B d.pend.length k)).setCell ⟨b, 2, none⟩ (.int .i64 d.left)).setCell ⟨b, 3, none⟩ (.bool d.stop)) d A c B k ∧
    Below n0 w ((((w.setCell ⟨b, 0, none⟩ (.slice A d.secs.length c)).setCell ⟨b, 1, none⟩ (.slice B d.pend.length k)).setCell ⟨b, 2, none⟩ (.int .i64 d.left)).setCell ⟨b, 3, none⟩ (.bool d.stop)) :=
  ⟨box4 _ _ _ _ hb, h.boxed hw hb h' _ _ _ _, ((((Below.refl n0 w).setCell (p := ⟨b, 0, none⟩) hn _).setCell (p := ⟨b, 1, none⟩) hn _).setCell (p := ⟨b, 2, none⟩) hn _).setCell (p := ⟨b, 3, none⟩) hn _⟩
end Go.Proofs.Ytiphajgmjmjanaa
