/- pathOf: the right half, all lists. -/
import Derived.Test.YtdjlblfpkieenaaDoorPth
namespace Go.Proofs.YtdjlblfpkieenaaDoor
open Go.RowKit Go.Sort
set_option linter.unusedVariables false

set_option maxHeartbeats 1000000 in
set_option maxRecDepth 100000 in
theorem pathOf_right (b off n c i k m : Nat) (L R : List UInt8) (ps : List (List UInt8)) (w : World) (h1 : 1 < n) (h2 : n ≤ c) (h3 : n ≤ 1000000) (hin : i < n) (hk : half n = k) (hi : ¬ i < k) (hm : m ≤ 999999) (hR : R.length = 32)
    (hP : ∀ W, Below w.heap.size w W → Calls Tryd.prog 39 #[.slice (some ⟨b, off + k * 32, none⟩) (n - k) (c - k), .int .i64 ((i : Int) - (k : Int))] W (PthPost ps m W))
    (hT : ∀ W, Below w.heap.size w W → Calls Tryd.prog 17 #[.slice (some ⟨b, off, none⟩) k c] W (DigPost R W)) :
    Calls Tryd.prog 39 #[.slice (some ⟨b, off, none⟩) n c, .int .i64 i] w (PthPost (ps ++ [R]) (m + 1) w) := by
  have HSPL := Lib.hid (fun w => split_any n w h1 (by omega))
  have hkl := half_le n h1
  have hkp := half_pos n
  rw [hk] at HSPL hkl hkp
  clear hk
  have t1 : ((n : Int) == 1) = false := by simp; omega
  obtain ⟨c0, c1, c2, c3, c4, c5, c6, c7, c8, c9, c10, c11, c12, c13, c14, c15, c16, c17, c18, c19, c20, c21, c22, c23, c24, c25, c26, c27, c28, c29, c30, c31, hlit⟩ := dcells_lit R hR
  unfold DigPost at hT
  rw [hlit] at hT
  have hxf : ∀ w7 : World, Box (w7.alloc (.cells #[c0, c1, c2, c3, c4, c5, c6, c7, c8, c9, c10, c11, c12, c13, c14, c15, c16, c17, c18, c19, c20, c21, c22, c23, c24, c25, c26, c27, c28, c29, c30, c31] 26)) w7.heap.size (dcells R) 26 := fun w7 => by rw [hlit]; exact Box.new w7 _ _
  have HXF := Lib.hid hxf
  clear hlit hxf
  have HP := Lib.hid hP
  have HT := Lib.hid hT
  have HR := Lib.hid hR
  have HM := Lib.hid hm
  have hbd : Below w.heap.size w w.drew := (Below.refl w.heap.size w).drew
  have HBD := Lib.hid hbd
  clear hP hT hm hbd
  go_enter Tryd.func39, Tryd.ntmps39
  go_wp2_with fail
  refine (HSPL.out _).mono ?_
  rintro e w1 ⟨rfl, rfl⟩
  have i1 : (k : Int) ≤ (n : Int) := by omega
  have i2 : (k : Int) ≤ (c : Int) := by omega
  have i3 : (n : Int) ≤ (c : Int) := by omega
  have hck : ¬ c = k := by omega
  have hsub : IntKind.i64.wrap ((i : Int) - (k : Int)) = (i : Int) - (k : Int) := IntWalk.i64_in _ (by omega)
  go_wp2_with fail
  go_region_held3 (fun _ => True) (trivial)
    (first
      | (go_at_call 39; (refine (HP.out _ HBD.out).mono ?_); rintro e w6 ⟨A6, p6, rfl, ho6, hb6⟩; have HO6 := Lib.hid (ho6.mono (base' := w.heap.size) HBD.out.size); have B6 := Lib.hid (HBD.out.trans (hb6.mono HBD.out.size)); clear ho6 hb6)
      | (go_at_call 17; (refine (HT.out _ B6.out).mono ?_); rintro e w7 ⟨rfl, hb7⟩; have hb8 := hb7.trans (((Below.refl w7.heap.size w7).alloc (Nat.le_refl _) (.cells #[c0, c1, c2, c3, c4, c5, c6, c7, c8, c9, c10, c11, c12, c13, c14, c15, c16, c17, c18, c19, c20, c21, c22, c23, c24, c25, c26, c27, c28, c29, c30, c31] 26)).mono hb7.size); have HO8 := Lib.hid (own_below HO6.out hb8); have B8 := Lib.hid (B6.out.trans (hb8.mono B6.out.size)); have HX8 := Lib.hid (HXF.out w7); clear hb7 hb8)
      | ((refine step_append_dig (by rfl) (.tmp 32) (.tmp 37) (by rfl) _ m _ (by rfl) HO8.out w7.heap.size R (by rfl) HR.out HX8.out (m + 1) rfl (by have := HM.out; omega) B8.out.size ?_); intro A9 p9 w9 ho9 hg9; have hb9 := B8.out.grown hg9 B8.out.size (fun i hi => (HO8.out.lt i hi).1))
      | fail)
  all_goals
    go_wp2_with fail
    go_ret
    exact ⟨A9, p9, rfl, by rw [flat_snoc]; exact ho9, hb9⟩

set_option maxHeartbeats 1000000 in
set_option maxRecDepth 100000 in
theorem pathOf_end (A : Option Addr) (c : Nat) (i : Int) (w : World) :
    Calls Tryd.prog 39 #[.slice A 1 c, .int .i64 i] w (PthPost [] 0 w) := by
  go_enter Tryd.func39, Tryd.ntmps39
  go_wp2_with fail
  go_ret
  exact ⟨none, 0, rfl, World.ownsRow_nil _ _ _ _, Below.refl _ _⟩

theorem pth_length (m : Nat) : ∀ (ds : List (List UInt8)) (i : Nat), ds.length ≤ m → (pth ds i).length = pl i ds.length := by
  induction m with
  | zero =>
    intro ds i h
    rw [pth_end ds i (by omega), pl_end i _ (by omega)]
    rfl
  | succ m ih =>
    intro ds i h
    by_cases h1 : ds.length ≤ 1
    · rw [pth_end ds i h1, pl_end i _ h1]
      rfl
    · have h2 := half_le ds.length (by omega)
      have h3 := half_pos ds.length
      by_cases hi : i < half ds.length
      · rw [pth_left ds i (by omega) hi, pl_left i _ (by omega) hi, List.length_append, ih _ _ (by rw [List.length_take]; omega), List.length_take, Nat.min_eq_left (by omega)]
        rfl
      · rw [pth_right ds i (by omega) hi, pl_right i _ (by omega) hi, List.length_append, ih _ _ (by rw [List.length_drop]; omega), List.length_drop]
        rfl

theorem pathOf_any (m : Nat) : ∀ (ds : List (List UInt8)) (A : Option Addr) (c i : Nat) (w : World), ds.length ≤ m → i < ds.length → KT w → Ds w.heap.size w A ds → ds.length ≤ c → c ≤ maxLen → ds.length ≤ 1000000 →
    Calls Tryd.prog 39 #[.slice A ds.length c, .int .i64 i] w (PthPost (pth ds i) (pl i ds.length) w) := by
  induction m with
  | zero => intro ds A c i w hm hi; omega
  | succ m ih =>
    intro ds A c i w hm hi hK hD h1 h2 h3
    by_cases h4 : ds.length ≤ 1
    · have hl : ds.length = 1 := by omega
      rw [pth_end ds i h4, pl_end i _ h4, hl]
      exact pathOf_end A c i w
    · have hkl := half_le ds.length (by omega)
      have hkp := half_pos ds.length
      have hl1 : (ds.take (half ds.length)).length = half ds.length := by rw [List.length_take]; omega
      have hl2 : (ds.drop (half ds.length)).length = ds.length - half ds.length := List.length_drop
      obtain ⟨b, off, rfl, _, _⟩ := hD.2 (by omega)
      by_cases hik : i < half ds.length
      · rw [pth_left ds i (by omega) hik, pl_left i _ (by omega) hik]
        have hp := pl_lt i (half ds.length) hkp
        refine pathOf_left b off ds.length c i _ _ [] _ _ w (by omega) h1 h3 rfl hik (by omega) (tr_length _) (fun W hb => ?_) (fun W hb => ?_)
        · have := ih (ds.take (half ds.length)) (some ⟨b, off, none⟩) c i W (by omega) (by omega) (hK.below hb) ((hD.up hb).take _) (by omega) h2 (by omega)
          rwa [hl1] at this
        · have := tree_any (ds.drop (half ds.length)).length (ds.drop (half ds.length)) (some ⟨b, off + half ds.length * 32, none⟩) (c - half ds.length) W (Nat.le_refl _) (hK.below hb) ((hD.up hb).drop _) (by omega) (by omega) (by omega)
          rwa [hl2] at this
      · rw [pth_right ds i (by omega) hik, pl_right i _ (by omega) hik]
        have hp := pl_lt (i - half ds.length) (ds.length - half ds.length) (by omega)
        refine pathOf_right b off ds.length c i _ _ [] _ _ w (by omega) h1 h3 hi rfl hik (by omega) (tr_length _) (fun W hb => ?_) (fun W hb => ?_)
        · have := ih (ds.drop (half ds.length)) (some ⟨b, off + half ds.length * 32, none⟩) (c - half ds.length) (i - half ds.length) W (by omega) (by omega) (hK.below hb) ((hD.up hb).drop _) (by omega) (by omega) (by omega)
          rw [hl2] at this
          rwa [show ((i - half ds.length : Nat) : Int) = (i : Int) - (half ds.length : Int) by omega] at this
        · have := tree_any (ds.take (half ds.length)).length (ds.take (half ds.length)) (some ⟨b, off, none⟩) c W (Nat.le_refl _) (hK.below hb) ((hD.up hb).take _) (by omega) h2 (by omega)
          rwa [hl1] at this

/-- Path has handed back digests. -/
def PathPost (ps : List (List UInt8)) (m : Nat) (w : World) (e : Ending) (w' : World) : Prop := ∃ A' c', e = .returned (.tuple #[.slice A' m c', .int .i64 0]) ∧ w'.ownsRow w.heap.size 26 32 (.slice A' m c') m (flat ps) ∧ Below w.heap.size w w'

set_option maxHeartbeats 1000000 in
set_option maxRecDepth 100000 in
theorem path_any (ds : List (List UInt8)) (A : Option Addr) (c i n : Nat) (w : World) (hn : ds.length = n) (hi : i < n) (hK : KT w) (hD : Ds w.heap.size w A ds) (h1 : n ≤ c) (h2 : c ≤ maxLen) (h3 : n ≤ 1000000) :
    Calls Tryd.prog 19 #[.slice A n c, .int .i64 i] w (PathPost (pth ds i) (pl i n) w) := by
  subst hn
  have H := Lib.hid (pathOf_any ds.length ds A c i w (Nat.le_refl _) hi hK hD h1 h2 h3)
  clear hK hD
  generalize ds.length = n at *
  generalize pth ds i = P at *
  generalize pl i n = m at *
  have i2 : decide (n ≤ i) = false := decide_eq_false (by omega)
  go_enter Tryd.func19, Tryd.ntmps19
  go_wp2_with fail
  refine H.out.mono ?_
  rintro e w1 ⟨A1, c1, rfl, ho, hb⟩
  have HO := Lib.hid (And.intro ho hb)
  clear ho hb
  go_wp2_with fail
  go_ret2
  exact ⟨A1, c1, rfl, HO.out.1, HO.out.2⟩

set_option maxHeartbeats 1000000 in
set_option maxRecDepth 100000 in
theorem path_no (A : Option Addr) (c n : Nat) (i : Int) (w : World) (hi : i < 0 ∨ (n : Int) ≤ i) :
    Calls Tryd.prog 19 #[.slice A n c, .int .i64 i] w fun e w' => e = .returned (.tuple #[.slice none 0 0, .int .i64 1]) ∧ w = w' := by
  by_cases h1 : i < 0
  · have d1 : decide (i < 0) = true := decide_eq_true h1
    go_enter Tryd.func19, Tryd.ntmps19
    go_wp2_with fail
    go_ret2
    exact ⟨rfl, rfl⟩
  · have d1 : decide (i < 0) = false := decide_eq_false h1
    have d2 : decide ((n : Int) ≤ i) = true := decide_eq_true (by omega)
    go_enter Tryd.func19, Tryd.ntmps19
    go_wp2_with fail
    go_ret2
    exact ⟨rfl, rfl⟩
end Go.Proofs.YtdjlblfpkieenaaDoor
