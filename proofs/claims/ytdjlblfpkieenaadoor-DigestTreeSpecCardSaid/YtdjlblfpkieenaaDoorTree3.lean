/- Tree: all lists. -/
import Derived.Test.YtdjlblfpkieenaaDoorTree2
namespace Go.Proofs.YtdjlblfpkieenaaDoor
open Go.RowKit Go.Sort
set_option linter.unusedVariables false

/-- A function that hands back a digest, in every world that has grown out of one. -/
theorem DigPost.grown {f : FuncId} {args : Array Value} {w : World} {d : List UInt8} (h : ∀ w', Below w.heap.size w w' → Calls Tryd.prog f args w' (DigPost d w')) (n : Nat) (os : Array Obj) :
    Calls Tryd.prog f args (grow (redrawn w n) os) fun e w'' => e = .returned (.agg (dcells d)) ∧ ∃ p : Regrown, w'' = grow (redrawn w p.d) p.os :=
  Calls.regrown_of ((h _ (below_regrown w n os)).mono fun _ _ hp => hp)

set_option maxHeartbeats 400000 in
set_option maxRecDepth 100000 in
theorem tree_step (m : Nat) (ih : ∀ (ds : List (List UInt8)) (A : Option Addr) (c : Nat) (w : World), ds.length ≤ m → KT w → Ds w.heap.size w A ds → ds.length ≤ c → c ≤ maxLen → ds.length ≤ 1000000 → Calls Tryd.prog 17 #[.slice A ds.length c] w (DigPost (tr ds) w))
    (ds : List (List UInt8)) (A : Option Addr) (c : Nat) (w : World) (hm : ds.length ≤ m + 1) (hK : KT w) (hD : Ds w.heap.size w A ds) (h1 : ds.length ≤ c) (h2 : c ≤ maxLen) (h3 : ds.length ≤ 1000000) (h4 : 1 < ds.length) :
    Calls Tryd.prog 17 #[.slice A ds.length c] w (DigPost (tr ds) w) := by
  have hkl := half_le ds.length h4
  have hkp := half_pos ds.length
  have hT := tr_node ds h4
  have HSPL := Lib.hid (fun w => split_any ds.length w h4 (by omega))
  have hb1 := (Below.refl w.heap.size w).alloc (Nat.le_refl _) (.cells dz 26)
  have hz := Box.new w dz 26
  obtain ⟨b, off, rfl, hbl, hc⟩ := hD.2 (by omega)
  clear hc
  have hl1 : (ds.take (half ds.length)).length = half ds.length := by rw [List.length_take]; omega
  have hl2 : (ds.drop (half ds.length)).length = ds.length - half ds.length := List.length_drop
  have hC1 : ∀ w', Below w.heap.size w w' → Calls Tryd.prog 17 #[.slice (some ⟨b, off, none⟩) (half ds.length) c] w' (DigPost (tr (ds.take (half ds.length))) w') := by
    intro w' hb
    have := ih (ds.take (half ds.length)) (some ⟨b, off, none⟩) c w' (by omega) (hK.below hb) ((hD.up hb).take _) (by omega) h2 (by omega)
    rwa [hl1] at this
  have hC2 : ∀ w', Below w.heap.size w w' → Calls Tryd.prog 17 #[.slice (some ⟨b, off + half ds.length * 32, none⟩) (ds.length - half ds.length) (c - half ds.length)] w' (DigPost (tr (ds.drop (half ds.length))) w') := by
    intro w' hb
    have := ih (ds.drop (half ds.length)) (some ⟨b, off + half ds.length * 32, none⟩) (c - half ds.length) w' (by omega) (hK.below hb) ((hD.up hb).drop _) (by omega) (by omega) (by omega)
    rwa [hl2] at this
  have hP : ∀ w', Below w.heap.size w w' → Calls Tryd.prog 36 #[.string ⟨#[110, 111, 100, 101]⟩, .agg (dcells (tr (ds.take (half ds.length)))), .agg (dcells (tr (ds.drop (half ds.length))))] w' (DigPost (tr ds) w') := by
    intro w' hb
    rw [hT]
    exact pair_any ⟨#[110, 111, 100, 101]⟩ _ _ w' (hK.below hb) (tr_length _) (tr_length _) (by decide)
  have hlen := tr_length ds
  have HB := Lib.hid hb1
  have HZ := Lib.hid hz
  have HC1 := Lib.hid hC1
  have HC2 := Lib.hid hC2
  have HP := Lib.hid hP
  have HLEN := Lib.hid hlen
  unfold maxLen at h2
  clear hK hD hl1 hl2 hC1 hC2 hP hT hlen hb1 hz ih
  generalize tr (ds.take (half ds.length)) = T1 at *
  generalize tr (ds.drop (half ds.length)) = T2 at *
  generalize tr ds = R at *
  generalize half ds.length = k at *
  generalize ds.length = n at *
  go_enter Tryd.func17, Tryd.ntmps17
  have t0 : ((n : Int) == 0) = false := by simp; omega
  have t1 : ((n : Int) == 1) = false := by simp; omega
  go_wp2_with fail
  refine (HSPL.out _).mono ?_
  rintro e w1 ⟨rfl, rfl⟩
  have i1 : (0 : Int) ≤ (k : Int) := by omega
  have i2 : (k : Int) ≤ (n : Int) := by omega
  have i3 : (k : Int) ≤ (c : Int) := by omega
  have i4 : (n : Int) ≤ (c : Int) := by omega
  go_wp2_with fail
  clear h2 h3
  generalize hW1 : World.alloc w _ = W1
  have hb1 : Below w.heap.size w W1 := by rw [← hW1]; exact HB.out
  have hz1 : Box W1 w.heap.size dz 26 := by rw [← hW1]; exact HZ.out
  have hg1 := hb1.size
  have cT1 := DigPost.grown (w := W1) (fun w' hb => HC1.out w' (hb1.trans (hb.mono hg1)))
  have cT2 := DigPost.grown (w := W1) (fun w' hb => HC2.out w' (hb1.trans (hb.mono hg1)))
  have cP := DigPost.grown (w := W1) (fun w' hb => HP.out w' (hb1.trans (hb.mono hg1)))
  obtain ⟨hi1, hs1, ho1⟩ := dcells_facts HLEN.out
  generalize hCS : dcells R = CR at *
  have HCR := Lib.hid hCS
  have HI := Lib.hid hi1
  have HSZ := Lib.hid hs1
  have HONE := Lib.hid ho1
  have HZ1 := Lib.hid hz1
  clear hCS hi1 hs1 ho1 HC1 HC2 HP HB HZ hz1
  refine region_tail_below 9 (by kernel_rfl) (by kernel_rfl) ?_
  simp only [List.take_succ_cons, List.take_zero, List.drop_succ_cons, List.drop_zero]
  clear hW1 t0 t1 HSPL
  have hck : ¬ c = k := by omega
  iterate 7 (quiet_step (exact cT1 _ _))
  quiet_step (exact cT2 _ _)
  quiet_step (exact cP _ _)
  refine wpQuiet_nil ?_
  intro w2 hw'
  obtain ⟨⟨dq, osq⟩, hw''⟩ := hw'
  subst hw''
  have hbq := below_regrown W1 dq osq
  have hbx := HZ1.out.below hbq
  have hbw := hb1.trans (hbq.mono hg1)
  generalize grow (redrawn W1 dq) osq = W2 at *
  have HBX := Lib.hid hbx
  clear cT1 cT2 cP hbx hbq HZ1
  go_wp2_with (first | (refine wpList_store_row rfl 26 (.tmp 2) (.tmp 26) rfl w.heap.size CR rfl rfl 26 dz HBX.out HI.out HSZ.out HONE.out ?_))
  refine bodyPost_ret (v := .agg CR) ?_ rfl ?_
  · exact results_cell_row Tryd.results17 _ _ w.heap.size 26 CR (0, 0) _ rfl (Box.setRow HBX.out) Tryd.underlying26 rfl HI.out
  · exact ⟨by rw [HCR.out], fin_store CR hbw (Nat.le_refl _)⟩

theorem tree_any (m : Nat) : ∀ (ds : List (List UInt8)) (A : Option Addr) (c : Nat) (w : World), ds.length ≤ m → KT w → Ds w.heap.size w A ds → ds.length ≤ c → c ≤ maxLen → ds.length ≤ 1000000 → Calls Tryd.prog 17 #[.slice A ds.length c] w (DigPost (tr ds) w) := by
  induction m with
  | zero =>
    intro ds A c w hm hK hD h1 h2 h3
    obtain rfl : ds = [] := List.length_eq_zero_iff.1 (by omega)
    exact tree_none A c w hK
  | succ m ih =>
    intro ds A c w hm hK hD h1 h2 h3
    match ds, hD with
    | [], _ => exact tree_none A c w hK
    | [d], hD => exact tree_leaf A c d w hK hD
    | d :: d' :: r, hD => exact tree_step m ih (d :: d' :: r) A c w hm hK hD h1 h2 h3 (by simp)
end Go.Proofs.YtdjlblfpkieenaaDoor
