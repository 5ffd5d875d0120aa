/- Same. -/
import Derived.Test.YtnmlfdmlcpgaaaaLst
namespace Go.Proofs.Ytnmlfdmlcpgaaaa
open Go.RowKit
set_option linter.unusedVariables false

set_option maxHeartbeats 1000000 in
set_option maxRecDepth 100000 in
theorem same_any (A A' : Option Addr) (c c' : Nat) (l l' : List (Int × Int)) (w : World) (hS : Sl w A l c) (hS' : Sl w A' l' c') (hl : l.length ≤ 1000000) (hl' : l'.length ≤ 1000000) :
    Calls Try.prog 11 #[.slice A l.length c, .slice A' l'.length c'] w fun e w' => e = .returned (.bool (decide (l = l'))) ∧ Below w.heap.size w w' := by
  have HS := Lib.hid hS
  have HS' := Lib.hid hS'
  clear hS hS'
  by_cases hlen : l.length = l'.length
  · have HL := Lib.hid hlen
    have d1 : ((l.length : Int) != (l'.length : Int)) = false := by rw [hlen]; simp
    have hle : l.length ≤ l'.length := by omega
    have hge : l'.length ≤ l.length := by omega
    clear hlen
    go_enter Try.func11, Try.ntmps11
    go_wp2_with fail
    go_loopw [5] (fun i wr => ∃ k : Nat, k ≤ l.length ∧ i = .int .i64 k ∧ l.take k = l'.take k ∧ Below w.heap.size w wr) (fun i _ => l.length - (intOf i).toNat)
    case atStart => exact ⟨0, Nat.zero_le _, rfl, rfl, Below.refl _ _⟩
    case round =>
      obtain ⟨k, hk, rfl, htk, hbw⟩ := hrel
      have HT := Lib.hid htk
      clear htk
      by_cases hlt : k < l.length
      · have hlt' : k < l'.length := by omega
        obtain ⟨b, off, rfl, hbl, hc⟩ := HS.out.1 (by omega)
        obtain ⟨b', off', rfl, hbl', hc'⟩ := HS'.out.1 (by omega)
        obtain ⟨sp, hsp⟩ : ∃ sp, l[k]? = some sp := ⟨_, List.getElem?_eq_getElem hlt⟩
        obtain ⟨sq, hsq⟩ : ∃ sq, l'[k]? = some sq := ⟨_, List.getElem?_eq_getElem hlt'⟩
        obtain ⟨h1, h2⟩ := hc k sp hsp
        obtain ⟨h3, h4⟩ := hc' k sq hsq
        have c1 := (hbw.cell (p := ⟨b, off + k * 2, none⟩) hbl).trans h1
        have c2 := (hbw.cell (p := ⟨b, off + k * 2 + 1, none⟩) hbl).trans h2
        have c3 := (hbw.cell (p := ⟨b', off' + k * 2, none⟩) hbl').trans h3
        have c4 := (hbw.cell (p := ⟨b', off' + k * 2 + 1, none⟩) hbl').trans h4
        have ht1 := take_next _ _ _ hsp
        have ht2 := take_next _ _ _ hsq
        have HT2 := Lib.hid (And.intro ht1 (And.intro ht2 (And.intro hsp hsq)))
        clear hc hc' h1 h2 h3 h4 ht1 ht2 hsp hsq
        have b1 : (0 : Int) ≤ (k : Int) ∧ (k : Int) < (l.length : Int) ∧ (k : Int) < (l'.length : Int) := by omega
        obtain ⟨x, y⟩ := sp
        obtain ⟨x', y'⟩ := sq
        dsimp only at *
        have hbad : ¬ (x = x' ∧ y = y') → decide (l = l') = false := by
          intro h
          apply decide_eq_false
          intro e
          subst e
          have e1 := HT2.out.2.2.1
          have e2 := HT2.out.2.2.2
          rw [e1] at e2
          simp only [Option.some.injEq, Prod.mk.injEq] at e2
          exact h e2
        have HBAD := Lib.hid hbad
        clear hbad
        by_cases hx : x = x'
        · subst hx
          by_cases hy : y = y'
          · subst hy
            clear HBAD
            go_wp2_with fail
            go_quiet (fail)
            go_wp2_with fail
            go_roundw
            case rel => exact ⟨k + 1, by omega, by go_num, by rw [HT2.out.1, HT2.out.2.1, HT.out], below_drewN hbw _⟩
            case measure => simp [intOf]; omega
          · have HB := Lib.hid (HBAD.out (fun h => hy h.2))
            clear HBAD
            go_wp2_with fail
            go_quiet (fail)
            go_wp2_with fail
            go_ret
            exact ⟨by rw [HB.out]; rfl, below_drewN hbw _⟩
        · have HB := Lib.hid (HBAD.out (fun h => hx h.1))
          clear HBAD
          go_wp2_with fail
          go_quiet (fail)
          go_wp2_with fail
          go_ret
          exact ⟨by rw [HB.out]; rfl, below_drewN hbw _⟩
      · obtain rfl : k = l.length := by omega
        have hq : l = l' := by
          have := HT.out
          rw [List.take_length, HL.out, List.take_length] at this
          exact this
        have HQ := Lib.hid (decide_eq_true hq)
        clear hq
        go_wp2_with fail
        go_ret
        exact ⟨by rw [HQ.out]; rfl, hbw⟩
  · have d1 : ((l.length : Int) != (l'.length : Int)) = true := by simp; omega
    have hq : decide (l = l') = false := decide_eq_false (fun e => hlen (by rw [e]))
    have HQ := Lib.hid hq
    clear hq
    go_enter Try.func11, Try.ntmps11
    go_wp2_with fail
    go_ret
    exact ⟨by rw [HQ.out]; rfl, Below.refl _ _⟩
end Go.Proofs.Ytnmlfdmlcpgaaaa
