/- slices.Concat of any rows of bytes. -/
import Derived.Test.YtjkojjimlebmjaaDoorGrow
import Derived.Test.YtjkojjimlebmjaaDoorApp2
import Derived.Test.YtjkojjimlebmjaaDoorThru
import Derived.LoopTactic
namespace Go.Proofs.YtjkojjimlebmjaaDoor
open Go.RowKit
set_option linter.unusedVariables false

theorem grow_zero (w : World) : Calls Tryd.prog 42 #[.slice none 0 0, .int .i64 0] w fun e w' => e = .returned (.slice none 0 0) ∧ w = w' := by
  go_enter Tryd.func42, Tryd.ntmps42
  go_wp2_with fail
  go_ret
  exact ⟨rfl, rfl⟩

theorem grow_all (n : Nat) (w : World) (hn : n ≤ 1000000000) : Calls Tryd.prog 42 #[.slice none 0 0, .int .i64 n] w fun e w' => ∃ A cap, e = .returned (.slice A 0 cap) ∧ w'.ownsRow w.heap.size 5 1 (.slice A 0 cap) 0 [] ∧ Below w.heap.size w w' := by
  by_cases h : n = 0
  · subst h
    refine (grow_zero w).mono ?_
    rintro e w' ⟨rfl, rfl⟩
    exact ⟨none, 0, rfl, World.ownsRow_nil w _ _ _, Below.refl _ _⟩
  · refine (grow_any n w (by omega) hn).mono ?_
    rintro e w' ⟨cap, rfl, ho, _, hb⟩
    exact ⟨some ⟨w.heap.size, 0, none⟩, cap, rfl, ho, hb⟩

/-- The first k rows as one. -/
def catTo (ls : List (List UInt8)) (k : Nat) : List UInt8 := (ls.take k).flatten
theorem catTo_succ {ls : List (List UInt8)} {k : Nat} {l : List UInt8} (h : ls[k]? = some l) : catTo ls (k + 1) = catTo ls k ++ l := by
  unfold catTo
  rw [List.take_add_one, h]
  simp
theorem catTo_le (ls : List (List UInt8)) (k : Nat) : (catTo ls k).length ≤ ls.flatten.length := by
  unfold catTo
  have := congrArg (fun x => (List.flatten x).length) (List.take_append_drop k ls)
  simp only [List.flatten_append, List.length_append] at this
  omega

def CatPost (l : List UInt8) (w : World) (e : Ending) (w' : World) : Prop := ∃ A c, e = .returned (.slice A l.length c) ∧ Sl w' A l c ∧ Below w.heap.size w w'

set_option maxHeartbeats 1000000 in
set_option maxRecDepth 100000 in
theorem cat_any (A : Option Addr) (c : Nat) (ls : List (List UInt8)) (w : World) (hR : RR w A ls c) (hn : ls.length ≤ 1000000) (hf : ls.flatten.length ≤ 1000000) :
    Calls Tryd.prog 16 #[.slice A ls.length c] w (CatPost ls.flatten w) := by
  obtain ⟨i0, hi0, hz0, hz1, hz2⟩ := info_parts u8_info
  have HSRC := Lib.hid (fun (w' : World) (hb : Below w.heap.size w w') (k : Nat) (hk : k < ls.length) => (show ∃ b off, A = some ⟨b, off, none⟩ ∧ ∃ D l cd, w'.cell? ⟨b, off + k, none⟩ = some (.slice D l.length cd) ∧ Sl w' D l cd ∧ (catTo ls (k + 1)).length = (catTo ls k).length + l.length ∧ catTo ls (k + 1) = catTo ls k ++ l ∧ l.length ≤ 1000000 ∧ (catTo ls k).length + l.length ≤ 1000000 from by
    obtain ⟨b, off, e, hb', hat⟩ := (hR.up hb).1 (by omega)
    have hl : ls[k]? = some ls[k] := List.getElem?_eq_getElem hk
    obtain ⟨D, cd, h1, h2⟩ := hat k _ hl
    have h3 := catTo_succ hl
    have h4 := congrArg List.length h3
    rw [List.length_append] at h4
    have h5 := catTo_le ls (k + 1)
    have h6 := catTo_le ls k
    exact ⟨b, off, e, D, ls[k], cd, h1, h2, h4, h3, by omega, by omega⟩))
  have hend : catTo ls ls.length = ls.flatten := by unfold catTo; rw [List.take_length]
  have HEND := Lib.hid hend
  have HS0 : Hid (catTo ls 0 = []) := by simp [Hid, catTo]
  have HS00 : Hid ((catTo ls 0).length = 0) := by simp [Hid, catTo]
  have HG := Lib.hid (fun w => grow_all ls.flatten.length w (by omega))
  rw [← hend] at hf ⊢
  rw [← hend] at HG
  clear hR hend
  obtain ⟨sz, hsz⟩ : ∃ sz : Nat → Nat, ∀ k, (catTo ls k).length = sz k := ⟨_, fun _ => rfl⟩
  have HSZ := Lib.hid hsz
  simp only [hsz] at HSRC HS00 HG hf
  clear hsz
  generalize ls.length = n at *
  generalize catTo ls = cat at *
  go_enter Tryd.func16, Tryd.ntmps16
  go_wp2_with fail
  go_loop [3, 11] (fun v i => ∃ k : Nat, k ≤ n ∧ i = .int .i64 k ∧ v = .int .i64 (sz k)) (fun _ i => n - (intOf i).toNat)
  case atStart => exact ⟨0, by omega, rfl, by rw [HS00.out]; rfl⟩
  case round =>
    obtain ⟨k, hk, rfl, rfl⟩ := hrel
    by_cases hlt : k < n
    · obtain ⟨b, off, rfl, D, l, cd, hc, hsl, hszk, _, hl6, hs6⟩ := HSRC.out w (Below.refl _ _) k hlt
      have HSZK := Lib.hid hszk
      clear hszk hsl HG
      generalize l.length = m at *
      generalize sz k = s at *
      go_wp2_with fail
      go_round
      case rel => exact ⟨k + 1, by omega, by go_num, by rw [HSZK.out]; go_num⟩
      case measure => simp [intOf]; omega
    · obtain rfl : k = n := by omega
      have HL2 := Lib.hid (HSZ.out k)
      have HG2 := Lib.hid (HG.out w)
      have HF := Lib.hid hf
      clear HG hf
      have hwr : IntKind.i64.wrap (sz k : Int) = (sz k : Int) := by rw [IntKind.wrap_i64]; have := HF.out; omega
      have hng : ¬ ((sz k : Int) < 0) := by omega
      generalize hS : sz k = s at *
      have HS := Lib.hid hS
      clear hS
      go_wp2_with fail
      refine HG2.out.mono ?_
      rintro e w1 ⟨A0, cap, rfl, hown, hb1⟩
      have H1 := Lib.hid (And.intro hown hb1)
      clear HG2 hown hb1 hwr hng
      go_wp2_with fail
      go_loopw [6, 27] (fun v i wr => ∃ (j : Nat) (A' : Option Addr) (c' : Nat), j ≤ k ∧ i = .int .i64 j ∧ v = .slice A' (sz j) c' ∧ wr.ownsRow w.heap.size 5 1 (.slice A' (sz j) c') (sz j) ((cat j).map bv) ∧ Below w.heap.size w wr) (fun _ i _ => k - (intOf i).toNat)
      case atStart => exact ⟨0, A0, cap, by omega, rfl, by rw [HS00.out], by rw [HS00.out, HS0.out]; exact H1.out.1, H1.out.2⟩
      case round =>
        obtain ⟨j, A', c', hj, rfl, rfl, hown, hbw⟩ := hrel
        have HO := Lib.hid (And.intro hown hbw)
        clear hown hbw
        by_cases hlt2 : j < k
        · obtain ⟨b, off, rfl, D, l, cd, hc, hsl, hszk, hck, hl6, hs6⟩ := HSRC.out wr HO.out.2 j hlt2
          have HX := Lib.hid (And.intro hsl (And.intro hszk (And.intro hck (And.intro hl6 hs6))))
          obtain ⟨m, hm⟩ : ∃ m, l.length = m := ⟨_, rfl⟩
          have HM := Lib.hid hm
          rw [hm] at hc
          clear hsl hszk hck hl6 hs6 hm
          go_wp2_with (refine wpList_append_sl rfl (.tmp 31) (.tmp 32) rfl _ (sz j) _ rfl HO.out.1 D l m cd HM.out rfl HX.out.1 (by have := HX.out.2.2.2.2; have := HM.out; omega) HO.out.2.size ?_; intro A3 c3 w3 ho3 hg3; have hb3 := HO.out.2.grown hg3 HO.out.2.size (fun i hi => (World.ownsRow.lt HO.out.1 i hi).1); have H3 := Lib.hid (And.intro ho3 hb3); clear ho3 hg3 hb3)
          have hz : sz (j + 1) = sz j + m := by rw [HX.out.2.1, HM.out]
          go_roundw
          case rel => exact ⟨j + 1, A3, c3, by omega, by go_num, by rw [hz], by rw [hz, HX.out.2.2.1, List.map_append]; exact H3.out.1, H3.out.2⟩
          case measure => simp [intOf]; omega
        · obtain rfl : j = k := by omega
          have hsl := Sl.of_own' HO.out.1 (HL2.out.trans HS.out.symm).symm
          have HSL := Lib.hid (And.intro hsl HO.out.2)
          clear hsl HO
          go_wp2_with fail
          go_ret
          exact ⟨A', c', by rw [HL2.out, HS.out]; rfl, HSL.out.1, HSL.out.2⟩
end Go.Proofs.YtjkojjimlebmjaaDoor
