/- some: the shares that a mask chooses. -/
import Derived.Test.YtmchnkfnnodecaaDoorSh
import Derived.Test.YtmchnkfnnodecaaDoorMul
import Derived.LoopTactic
namespace Go.Proofs.YtmchnkfnnodecaaDoor
open Go.RowKit
set_option linter.unusedVariables false

/-- Of the first k shares those that the mask chooses. -/
def selk (l : List Shr) (m : Nat) : Nat → List Shr
  | 0 => []
  | k + 1 => selk l m k ++ (if k < 8 ∧ m.testBit k = true then (l[k]?).toList else [])
theorem selk_le (l : List Shr) (m : Nat) : ∀ k, (selk l m k).length ≤ k
  | 0 => Nat.le_refl _
  | k + 1 => by
    have := selk_le l m k
    simp only [selk, List.length_append]
    split
    · have : (l[k]?).toList.length ≤ 1 := by cases l[k]? <;> simp
      omega
    · simp
      omega
def sel (l : List Shr) (m : UInt8) : List Shr := selk l m.toNat l.length

/-- A row of the call's own with shares whose bytes lie in the world w. -/
def OwnS (B : Nat) (w W : World) (A : Option Addr) (c : Nat) (l : List Shr) : Prop := ∃ bs : List (List Value), bs.length = l.length ∧ (∀ b ∈ bs, b.length = 5) ∧ W.ownsRow B 41 5 (.slice A l.length c) l.length bs.flatten ∧
  ∀ (i : Nat) (s : Shr), l[i]? = some s → ∃ D d, bs[i]? = some (shc s D d) ∧ Sl w D s.data d
theorem OwnS.ss {B c : Nat} {w W : World} {A : Option Addr} {l : List Shr} (h : OwnS B w W A c l) (hb : Below w.heap.size w W) : SS W A l c := by
  obtain ⟨bs, hl, h5, ho, hs⟩ := h
  rcases ho.2 with ⟨hv, h0⟩ | ⟨g, cap, cur, hv, hbg, hg, h1, h2, _⟩
  · injection hv with hA hn hc
    have : l = [] := List.eq_nil_of_length_eq_zero h0
    subst this
    exact ⟨fun hp => absurd hp (by simp), by simp, by unfold maxLen; omega, fun _ => ⟨rfl, hc⟩⟩
  · injection hv with hA hn hc
    subst hA hc
    refine ⟨fun hp => ⟨g, 0, rfl, heap_lt hg, fun i s hi => ?_⟩, h1, h2, fun h => by cases h⟩
    obtain ⟨D, d, hbi, hD⟩ := hs i s hi
    have hil : i < l.length := (List.getElem?_eq_some_iff.1 hi).1
    have hc : ∀ j, j < 5 → W.cell? ⟨g, 0 + i * 5 + j, none⟩ = (shc s D d)[j]? := fun j hj => by
      rw [Nat.zero_add, ho.cellAt _ (by omega), flat5_at bs h5 i _ j hbi hj]
    exact ⟨D, d, hc 0 (by omega), hc 1 (by omega), hc 2 (by omega), hc 3 (by omega), hc 4 (by omega), hD.up hb⟩
theorem OwnS.nil (B : Nat) (w W : World) : OwnS B w W none 0 [] := by
  refine ⟨[], rfl, by simp, World.ownsRow_nil _ _ _ _, ?_⟩
  intro i s hi
  simp at hi
theorem OwnS.more {B c : Nat} {w W W' : World} {A A' : Option Addr} {c' : Nat} {l : List Shr} {s : Shr} {D : Option Addr} {d : Nat} {bs : List (List Value)} (hl : bs.length = l.length) (h5 : ∀ b ∈ bs, b.length = 5) (hs : ∀ (i : Nat) (s : Shr), l[i]? = some s → ∃ D d, bs[i]? = some (shc s D d) ∧ Sl w D s.data d)
    (ho : W'.ownsRow B 41 5 (.slice A' (l.length + 1) c') (l.length + 1) (bs.flatten ++ shc s D d)) (hD : Sl w D s.data d) : OwnS B w W' A' c' (l ++ [s]) := by
  refine ⟨bs ++ [shc s D d], by simp [hl], fun b hb => ?_, ?_, fun i u hi => ?_⟩
  · rcases List.mem_append.1 hb with h | h
    · exact h5 b h
    · simp at h
      rw [h]
      rfl
  · rw [List.length_append, List.flatten_append]
    simpa using ho
  · by_cases e : i < l.length
    · rw [List.getElem?_append_left e] at hi
      obtain ⟨D2, d2, h1, h2⟩ := hs i u hi
      exact ⟨D2, d2, by rw [List.getElem?_append_left (by omega)]; exact h1, h2⟩
    · have hil := (List.getElem?_eq_some_iff.1 hi).1
      rw [List.length_append, List.length_singleton] at hil
      obtain rfl : i = l.length := by omega
      rw [List.getElem?_append_right (Nat.le_refl _)] at hi
      simp at hi
      subst hi
      exact ⟨D, d, by rw [List.getElem?_append_right (by omega), hl]; simp, hD⟩
theorem shc_one (s : Shr) (D : Option Addr) (d : Nat) : ∀ u ∈ shc s D d, u.oneCell' = true := by
  intro u hu
  simp only [shc, List.mem_cons, List.not_mem_nil, or_false] at hu
  rcases hu with rfl | rfl | rfl | rfl | rfl <;> rfl

def SomePost (l : List Shr) (w : World) (e : Ending) (w' : World) : Prop := ∃ A c, e = .returned (.slice A l.length c) ∧ SS w' A l c ∧ Below w.heap.size w w'

set_option maxHeartbeats 2000000 in
set_option maxRecDepth 100000 in
theorem some_any (A : Option Addr) (c : Nat) (l : List Shr) (m : UInt8) (w : World) (hS : SS w A l c) (hl : l.length ≤ 1000) :
    Calls Tryd.prog 23 #[.slice A l.length c, bv m] w (SomePost (sel l m) w) := by
  have hm := u8_lt m
  unfold sel bv
  generalize m.toNat = mm at *
  have HS := Lib.hid hS
  obtain ⟨i0, hi0, hz0, hz1, hz2⟩ := info_parts sh_info
  have HLE := Lib.hid (selk_le l mm)
  have HSU : Hid (∀ k, selk l mm (k + 1) = selk l mm k ++ (if k < 8 ∧ mm.testBit k = true then (l[k]?).toList else [])) := fun _ => rfl
  have HS0 : Hid (selk l mm 0 = []) := rfl
  obtain ⟨n, hn⟩ : ∃ n, l.length = n := ⟨_, rfl⟩
  have HN := Lib.hid hn
  rw [hn] at hl ⊢
  clear hS hn
  generalize selk l mm = sk at *
  go_enter Tryd.func23, Tryd.ntmps23
  go_wp2_with fail
  go_loopw [5, 9] (fun v i wr => ∃ (k : Nat) (A' : Option Addr) (c' : Nat), k ≤ n ∧ i = .int .i64 k ∧ v = .slice A' (sk k).length c' ∧ OwnS w.heap.size w wr A' c' (sk k) ∧ Below w.heap.size w wr) (fun _ i _ => n - (intOf i).toNat)
  case atStart => exact ⟨0, none, 0, Nat.zero_le _, rfl, by rw [HS0.out]; rfl, by rw [HS0.out]; exact OwnS.nil _ _ _, Below.refl _ _⟩
  case round =>
    obtain ⟨k, A', c', hk, rfl, rfl, hO, hb⟩ := hrel
    have HO := Lib.hid (And.intro hO hb)
    clear hO hb
    by_cases hlt : k < n
    · by_cases h8 : k < 8
      · have hbit := bit_int mm k hm
        by_cases ht : mm.testBit k = true
        · rw [if_pos ht] at hbit
          have hsk := HSU.out k
          rw [if_pos ⟨h8, ht⟩] at hsk
          have hlk : l[k]? = some (l[k]'(by rw [HN.out]; exact hlt)) := List.getElem?_eq_getElem _
          rw [hlk] at hsk
          obtain ⟨b, off, rfl, hbl, hat⟩ := HS.out.1 (by rw [HN.out]; omega)
          have hatk := hat k _ hlk
          generalize l[k]'_ = s at *
          obtain ⟨D, d, k0, k1, k2, k3, k4, hD⟩ := hatk.up hbl HO.out.2
          obtain ⟨D0, d0, _, _, _, _, k40, hD0⟩ := hatk
          have e4 := ((HO.out.2.cell (p := ⟨b, off + k * 5 + 4, none⟩) hbl).trans k40).symm.trans k4
          injection e4 with e4
          injection e4 with e5 _ e6
          subst e5 e6
          obtain ⟨bs, hbs, h5, hown, hss⟩ := HO.out.1
          have hle := HLE.out k
          have HB := Lib.hid (And.intro hbs (And.intro h5 (And.intro (hown.alloc (.cells #[.int .i64 s.ep, .int .i64 s.ix, .int .i64 s.th, .int .i64 s.mn, .slice D0 s.data.length d0] 41)) (And.intro hss (And.intro hD0 (HO.out.2.alloc HO.out.2.size (.cells #[.int .i64 s.ep, .int .i64 s.ix, .int .i64 s.th, .int .i64 s.mn, .slice D0 s.data.length d0] 41)))))))
          have hnew : ∀ j u, (shc s D0 d0)[j]? = some u → (wr.alloc (.cells #[.int .i64 s.ep, .int .i64 s.ix, .int .i64 s.th, .int .i64 s.mn, .slice D0 s.data.length d0] 41)).cell? ((⟨wr.heap.size, 0, none⟩ : Addr).add j) = some u := fun j u hj => by
            rw [add_off, Nat.zero_add, (Box.new wr #[.int .i64 s.ep, .int .i64 s.ix, .int .i64 s.th, .int .i64 s.mn, .slice D0 s.data.length d0] 41).cell j]
            simpa [shc] using hj
          have HNEW := Lib.hid hnew
          have HSK := Lib.hid hsk
          have hlen : (sk k).length = (sk k).length := rfl
          obtain ⟨q, hq⟩ : ∃ q, (sk k).length = q := ⟨_, rfl⟩
          have HQ := Lib.hid hq
          rw [hq] at HB hle ⊢
          have i1 : (0 : Int) ≤ (k : Int) := by omega
          have i2 : (k : Int) < (n : Int) := by omega
          clear hbs h5 hown hss hD0 hD hsk hlk hat k40 hnew hlen hq
          go_wp2_with (at_builtin; refine wpList_append_own _ rfl (.tmp 21) (.tmp 26) 22 rfl w.heap.size 41 i0 (.agg #[.int .i64 0, .int .i64 0, .int .i64 0, .int .i64 0, .slice none 0 0]) 5 56 Tryd.underlying22 hi0 hz0 hz1 hz2 rfl (by decide) _ q bs.flatten rfl HB.out.2.2.1 ⟨wr.heap.size, 0, none⟩ 1 1 (shc s D0 d0) rfl rfl HNEW.out (shc_one s D0 d0) (le_maxLen (by omega)) (by omega) HB.out.2.2.2.2.2.size ?_; intro v1 w2 hown2 hg2 _; have hb2 : Below w.heap.size w w2 := HB.out.2.2.2.2.2.grown hg2 HB.out.2.2.2.2.2.size (fun i hi => (World.ownsRow.lt HB.out.2.2.1 i hi).1); have H2 := Lib.hid (And.intro hown2 hb2); clear hg2 hb2; obtain ⟨A3, c3, rfl⟩ := own_form hown2; clear hown2)
          go_roundw
          case rel =>
            refine ⟨k + 1, A3, c3, by omega, by go_num, by rw [HSK.out, List.length_append, HQ.out]; rfl, ?_, H2.out.2⟩
            rw [HSK.out]
            exact OwnS.more (W := w2) (A := A3) (c := c3) (HB.out.1.trans HQ.out.symm) HB.out.2.1 HB.out.2.2.2.1 (by rw [HQ.out]; exact H2.out.1) HB.out.2.2.2.2.1
          case measure => simp [intOf]; omega
        · rw [if_neg ht] at hbit
          have hsk := HSU.out k
          rw [if_neg (fun h => ht h.2), List.append_nil] at hsk
          have HSK := Lib.hid hsk
          clear hsk
          have i1 : (0 : Int) ≤ (k : Int) := by omega
          go_wp2_with fail
          go_roundw
          case rel => exact ⟨k + 1, A', c', by omega, by go_num, by rw [HSK.out], by rw [HSK.out]; exact HO.out.1, HO.out.2⟩
          case measure => simp [intOf]; omega
      · have hsk := HSU.out k
        rw [if_neg (fun h => h8 h.1), List.append_nil] at hsk
        have HSK := Lib.hid hsk
        clear hsk
        have i3 : ¬ (k : Int) < 8 := by omega
        go_wp2_with fail
        go_roundw
        case rel => exact ⟨k + 1, A', c', by omega, by go_num, by rw [HSK.out], by rw [HSK.out]; exact HO.out.1, HO.out.2⟩
        case measure => simp [intOf]; omega
    · obtain rfl : k = n := by omega
      have HF := Lib.hid (And.intro (HO.out.1.ss HO.out.2) HO.out.2)
      clear HO
      obtain ⟨q, hq⟩ : ∃ q, (sk k).length = q := ⟨_, rfl⟩
      have HQ := Lib.hid hq
      rw [hq]
      clear hq
      go_wp2_with fail
      go_ret
      exact ⟨A', c', by rw [HQ.out]; rfl, HF.out.1, HF.out.2⟩
end Go.Proofs.YtmchnkfnnodecaaDoor
