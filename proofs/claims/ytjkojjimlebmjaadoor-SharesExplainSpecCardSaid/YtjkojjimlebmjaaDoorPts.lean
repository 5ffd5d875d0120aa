/- arePoints. -/
import Derived.Test.YtjkojjimlebmjaaDoorSeen
import Derived.LoopTactic
import Derived.Deep.QuietTactic
import Derived.BigQuiet
namespace Go.Proofs.YtjkojjimlebmjaaDoor
open Go.RowKit
set_option linter.unusedVariables false

theorem take_nodup {xs : List UInt8} {k : Nat} (h : k < xs.length) (hn : (xs.take k).Nodup) (hx : xs[k] ∉ (xs.take k).reverse) : (xs.take (k + 1)).Nodup := by
  rw [List.take_succ_eq_append_getElem h, List.nodup_append]
  refine ⟨hn, by simp, fun a ha b hb => ?_⟩
  simp at hb
  subst hb
  rintro rfl
  exact hx (List.mem_reverse.2 ha)
theorem take_dup {xs : List UInt8} {k : Nat} (h : k < xs.length) (hx : xs[k] ∈ (xs.take k).reverse) : ¬ xs.Nodup := by
  intro hn
  have h1 : (xs.take (k + 1)).Nodup := hn.sublist (List.take_sublist _ _)
  rw [List.take_succ_eq_append_getElem h, List.nodup_append] at h1
  exact h1.2.2 _ (List.mem_reverse.1 hx) _ (by simp) rfl

/-- What the search hands back. -/
def IdxPost (xs : List UInt8) (w : World) (b : Nat) (e : Ending) (w' : World) : Prop := ∃ r : Int, e = .returned (.int .i64 r) ∧ (0 ≤ r ↔ ¬ xs.Nodup) ∧ w.grownBy w' (some b)

set_option maxHeartbeats 400000 in
set_option maxRecDepth 100000 in
theorem index_any (g b : Nat) (A : Option Addr) (c : Nat) (xs : List UInt8) (w : World) (hB : Bs b w A xs) (hgb : g ≠ b) (hc : w.cell? ⟨g, 0, none⟩ = some (.map (some b))) (hM : MS w b 0 []) (hl : xs.length ≤ 1000000) :
    Calls Tryd.prog 68 #[.slice A xs.length c, .func (.func 63) #[] #[.pointer (some ⟨g, 0, none⟩)]] w (IdxPost xs w b) := by
  have HBS := Lib.hid hB
  have HC := Lib.hid hc
  have HM := Lib.hid hM
  clear hB hc hM
  go_enter Tryd.func68, Tryd.ntmps68
  go_wp2_with fail
  go_loopw [8] (fun i wr => ∃ k : Nat, k ≤ xs.length ∧ i = .int .i64 k ∧ (xs.take k).Nodup ∧ MS wr b k (xs.take k).reverse ∧ w.grownBy wr (some b)) (fun i _ => xs.length - (intOf i).toNat)
  case atStart => exact ⟨0, Nat.zero_le _, rfl, by simp, by simpa using HM.out, World.grownBy.refl w _⟩
  case round =>
    obtain ⟨k, hk, rfl, hnd, hms, hgr⟩ := hrel
    have HND := Lib.hid hnd
    have HMS := Lib.hid hms
    clear hnd hms
    by_cases hlt : k < xs.length
    · obtain ⟨ab, off, rfl, hbl, hcl⟩ := HBS.out (by omega)
      have hx := (hgr.cell (hcl k xs[k] (by simp)) (by simp; omega))
      have HS := Lib.hid (seen_any g b k (xs.take k).reverse xs[k] wr (hgr.cell HC.out (by simpa using hgb)) HMS.out (by unfold maxLen; omega))
      clear hcl
      generalize hxk : xs[k] = x at *
      unfold bv at hx HS
      by_cases hm : x ∈ (xs.take k).reverse
      · have HD := Lib.hid (take_dup hlt (hxk ▸ hm))
        go_wp2_with fail
        refine HS.out.mono ?_
        rintro e w1 ⟨rfl, ⟨_, rfl⟩ | ⟨hne, _⟩⟩
        · rw [decide_eq_true hm]
          go_wp2_with fail
          go_ret
          exact ⟨_, rfl, ⟨fun _ => HD.out, fun _ => by omega⟩, hgr⟩
        · exact absurd hm hne
      · have HD := Lib.hid (take_nodup hlt HND.out (hxk ▸ hm))
        have htk : (xs.take (k + 1)).reverse = x :: (xs.take k).reverse := by rw [List.take_succ_eq_append_getElem hlt, hxk]; simp
        have HTK := Lib.hid htk
        clear htk
        go_wp2_with fail
        refine HS.out.mono ?_
        rintro e w1 ⟨rfl, ⟨hme, _⟩ | ⟨_, hms1, hg1⟩⟩
        · exact absurd hme hm
        · rw [decide_eq_false hm]
          have HM1 := Lib.hid hms1
          clear hms1
          go_wp2_with fail
          go_roundw
          case rel => exact ⟨k + 1, by omega, by go_num, HD.out, by rw [HTK.out]; exact HM1.out, grown_trans hgr hg1⟩
          case measure => simp [intOf]; omega
    · obtain rfl : k = xs.length := by omega
      have HN := HND.out
      rw [List.take_length] at HN
      go_wp2_with fail
      go_ret
      exact ⟨_, rfl, ⟨fun h => absurd h (by omega), fun h => absurd HN h⟩, hgr⟩
end Go.Proofs.YtjkojjimlebmjaaDoor
