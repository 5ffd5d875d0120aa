/- slices.Concat of two rows of bytes. -/
import Derived.Test.YtdjlblfpkieenaaDoorGrow
namespace Go.Proofs.YtdjlblfpkieenaaDoor
open Go.RowKit
set_option linter.unusedVariables false

/-- A slice of bytes that came in: its bytes, its capacity, and nil has none. -/
def Sl (w : World) (A : Option Addr) (l : List UInt8) (c : Nat) : Prop := Bs w.heap.size w A l ∧ l.length ≤ c ∧ c ≤ maxLen ∧ (A = none → l = [] ∧ c = 0)
theorem Sl.up {w w' : World} {A : Option Addr} {l : List UInt8} {c : Nat} (h : Sl w A l c) (hb : Below w.heap.size w w') : Sl w' A l c := ⟨h.1.up hb, h.2⟩
theorem Sl.news {w : World} {a : Addr} {l : List UInt8} {c : Nat} (h : Sl w (some a) l c) : ∀ j v, (l.map bv)[j]? = some v → w.cell? (a.add j) = some v := by
  intro j v hv
  have hl : 0 < l.length := by
    have := (List.getElem?_eq_some_iff.1 hv).1
    rw [List.length_map] at this
    omega
  obtain ⟨b, off, e, _, hc⟩ := h.1 hl
  injection e with e
  subst e
  rw [List.getElem?_map] at hv
  cases hu : l[j]? with
  | none => rw [hu] at hv; cases hv
  | some y =>
    rw [hu] at hv
    injection hv with hv
    rw [add_off, ← hv]
    exact hc j y hu

def RowPost (B : Nat) (l : List UInt8) (w : World) (e : Ending) (w' : World) : Prop :=
  ∃ A c, e = .returned (.slice A l.length c) ∧ w'.ownsRow B 5 1 (.slice A l.length c) l.length (l.map bv) ∧ Below w.heap.size w w'

def szTo (l1 l2 : List UInt8) : Nat → Nat
  | 0 => 0
  | 1 => l1.length
  | _ => l1.length + l2.length
def catTo (l1 l2 : List UInt8) : Nat → List UInt8
  | 0 => []
  | 1 => l1
  | _ => l1 ++ l2
theorem catTo_length (l1 l2 : List UInt8) (k : Nat) : (catTo l1 l2 k).length = szTo l1 l2 k := by
  match k with
  | 0 => rfl
  | 1 => rfl
  | _ + 2 => simp [catTo, szTo]

/-- Source number k. -/
theorem src_at {r k : Nat} {A1 A2 : Option Addr} {c1 c2 : Nat} {l1 l2 : List UInt8} {w : World} (hr : Box w r #[.slice A1 l1.length c1, .slice A2 l2.length c2] 22) (h1 : Sl w A1 l1 c1) (h2 : Sl w A2 l2 c2) (hb1 : l1.length ≤ 1000000) (hb2 : l2.length ≤ 1000000) (hk : k < 2) :
    ∃ A l c, w.cell? ⟨r, k, none⟩ = some (.slice A l.length c) ∧ Sl w A l c ∧ szTo l1 l2 (k + 1) = szTo l1 l2 k + l.length ∧ catTo l1 l2 (k + 1) = catTo l1 l2 k ++ l ∧ l.length ≤ 1000000 ∧ szTo l1 l2 k ≤ 1000000 := by
  match k, hk with
  | 0, _ => exact ⟨A1, l1, c1, hr.cell 0, h1, by simp [szTo], rfl, hb1, by simp [szTo]⟩
  | 1, _ => exact ⟨A2, l2, c2, hr.cell 1, h2, rfl, rfl, hb2, hb1⟩

set_option maxHeartbeats 1000000 in
set_option maxRecDepth 100000 in
theorem concat_any (r : Nat) (A1 A2 : Option Addr) (c1 c2 : Nat) (l1 l2 : List UInt8) (w : World) (hr : Box w r #[.slice A1 l1.length c1, .slice A2 l2.length c2] 22) (h1 : Sl w A1 l1 c1) (h2 : Sl w A2 l2 c2) (hp : 0 < l1.length) (hb1 : l1.length ≤ 1000000) (hb2 : l2.length ≤ 1000000) :
    Calls Tryd.prog 33 #[.slice (some ⟨r, 0, none⟩) 2 2] w (RowPost w.heap.size (l1 ++ l2) w) := by
  obtain ⟨i0, hi0, hz0, hz1, hz2⟩ := info_parts u8_info
  have HSRC := Lib.hid (fun (w' : World) (hb : Below w.heap.size w w') (k : Nat) (hk : k < 2) => src_at (k := k) (hr.below hb) (h1.up hb) (h2.up hb) hb1 hb2 hk)
  have HG := Lib.hid (fun w => grow_any (l1.length + l2.length) w (by omega) (by omega))
  have hs2 : szTo l1 l2 2 = l1.length + l2.length := rfl
  have hc2 : catTo l1 l2 2 = l1 ++ l2 := rfl
  have HS2 := Lib.hid hs2
  have HC2 := Lib.hid hc2
  have HS0 : Hid (szTo l1 l2 0 = 0) := rfl
  have HC0 : Hid (catTo l1 l2 0 = []) := rfl
  have HCL := Lib.hid (catTo_length l1 l2)
  clear hr h1 h2 hs2 hc2
  generalize szTo l1 l2 = sz at *
  generalize catTo l1 l2 = cat at *
  go_enter Tryd.func33, Tryd.ntmps33
  go_wp2_with fail
  go_loop [3, 11] (fun v i => ∃ k : Nat, k ≤ 2 ∧ i = .int .i64 k ∧ v = .int .i64 (sz k)) (fun _ i => 2 - (intOf i).toNat)
  case atStart => exact ⟨0, by omega, rfl, by rw [HS0.out]; rfl⟩
  case round =>
    obtain ⟨k, hk, rfl, rfl⟩ := hrel
    by_cases hlt : k < 2
    · obtain ⟨A, l, c, hc, hsl, hszk, _, hl6, hs6⟩ := HSRC.out w (Below.refl _ _) k hlt
      have HSZK := Lib.hid hszk
      clear hszk hsl HG
      generalize l.length = m at *
      generalize sz k = s at *
      go_wp2_with fail
      go_round
      case rel => exact ⟨k + 1, by omega, by go_num, by rw [HSZK.out]; go_num⟩
      case measure => simp [intOf]; omega
    · obtain rfl : k = 2 := by omega
      have hG := HG.out w
      rw [← HS2.out] at hG
      have hs3 : sz 2 ≤ 2000000 := by rw [HS2.out]; omega
      have hs4 : 0 < sz 2 := by rw [HS2.out]; omega
      have HL2 := Lib.hid ((HCL.out 2).symm)
      generalize hS : sz 2 = s at *
      have HS := Lib.hid hS
      have HG2 := Lib.hid hG
      clear hG HG hS hlt hk
      rw [show ((2 : Nat) : Int) = 2 from rfl]
      go_wp2_with fail
      refine HG2.out.mono ?_
      rintro e w1 ⟨cap, rfl, hown, hcap, hb1⟩
      clear HG2
      go_wp2_with fail
      go_loopw [6, 27] (fun v i wr => ∃ (k : Nat) (A : Option Addr) (c : Nat), k ≤ 2 ∧ i = .int .i64 k ∧ v = .slice A (sz k) c ∧ wr.ownsRow w.heap.size 5 1 (.slice A (sz k) c) (sz k) ((cat k).map bv) ∧ Below w.heap.size w wr) (fun _ i _ => 2 - (intOf i).toNat)
      case atStart => exact ⟨0, some ⟨w.heap.size, 0, none⟩, cap, by omega, rfl, by rw [HS0.out], by rw [HS0.out, HC0.out]; exact hown, hb1⟩
      case round =>
        clear hown hb1
        obtain ⟨k, A, c, hk, rfl, rfl, hown, hbw⟩ := hrel
        have hbase := hbw.size
        by_cases hlt : k < 2
        · obtain ⟨A', l, c', hc, hsl, hszk, hck, hl6, hs6⟩ := HSRC.out wr hbw k hlt
          have HSZK := Lib.hid hszk
          have HCK := Lib.hid hck
          have HSL := Lib.hid hsl
          clear hszk hsl hck
          have h63 : sz k + l.length ≤ maxLen := le_maxLen (by omega)
          have h47 : (sz k + l.length) * 1 ≤ 140737488355328 := by omega
          have hlen : (l.map bv).length = l.length * 1 := by rw [List.length_map, Nat.mul_one]
          have HLEN := Lib.hid hlen
          clear hlen
          cases A' with
          | none =>
            obtain ⟨hl0, hc0⟩ := HSL.out.2.2.2 rfl
            subst hl0 hc0
            have hc3 : wr.cell? ⟨r, k, none⟩ = some (.slice none 0 0) := hc
            clear hc
            go_wp2_with (at_builtin; refine wpList_append_own_none rfl (.tmp 31) (.tmp 32) 22 rfl w.heap.size 5 i0 1 Tryd.underlying22 hi0 _ (sz k) ((cat k).map bv) rfl hown rfl ?_)
            go_roundw
            case rel => exact ⟨k + 1, A, c, by omega, by go_num, by rw [HSZK.out]; rfl, by rw [HSZK.out, HCK.out, List.append_nil]; exact hown, hbw⟩
            case measure => simp [intOf]; omega
          | some a =>
            go_wp2_with (at_builtin; go_must (refine wpList_append_own _ rfl (.tmp 31) (.tmp 32) 22 rfl w.heap.size 5 i0 (.int .u8 0) 1 1 Tryd.underlying22 hi0 hz0 hz1 hz2 rfl (by decide) _ (sz k) ((cat k).map bv) rfl hown a l.length c' (l.map bv) rfl HLEN.out HSL.out.news (bv_one l) h63 h47 hbase ?_; intro v1 w2 hown2 hg2 _; have hb2 : Below w.heap.size w w2 := hbw.grown hg2 hbase (fun i hi => (hown.lt i hi).1); clear hown hg2 hc; obtain ⟨A2, c2, rfl⟩ := own_form hown2))
            go_roundw
            case rel => exact ⟨k + 1, A2, c2, by omega, by go_num, by rw [HSZK.out], by rw [HSZK.out, HCK.out, List.map_append]; exact hown2, hb2⟩
            case measure => simp [intOf]; omega
        · obtain rfl : k = 2 := by omega
          have hfin : RowPost w.heap.size (l1 ++ l2) w (.returned (.slice A (sz 2) c)) wr := by
            rw [← HC2.out]
            refine ⟨A, c, ?_, ?_, hbw⟩
            · rw [HCL.out]
            · rw [HCL.out]; exact hown
          have HF := Lib.hid hfin
          clear hfin hown
          go_wp2_with fail
          go_ret
          exact HF.out
end Go.Proofs.YtdjlblfpkieenaaDoor
