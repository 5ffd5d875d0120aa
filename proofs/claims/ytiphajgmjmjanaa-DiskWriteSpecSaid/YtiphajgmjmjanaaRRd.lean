/- The reference's Read. -/
import Derived.Test.YtiphajgmjmjanaaRCk
import Derived.Test.YtiphajgmjmjanaaPlT
namespace Go.Proofs.Ytiphajgmjmjanaa
open Go.RowKit
set_option linter.unusedVariables false

/-- What the loop holds behind k of the writes. -/
def lwk (d : Dk) (o : Int) (k : Nat) : List UInt8 := (lastw o (d.pend.take k)).getD (d.secs.getD o.toNat [])
theorem lwk_zero (d : Dk) (o : Int) : lwk d o 0 = d.secs.getD o.toNat [] := rfl
theorem lwk_end (d : Dk) (o : Int) (h : rde d o = 0) : lwk d o d.pend.length = rd d o := by
  unfold lwk
  rw [List.take_length, rd_eq h]
theorem lwk_step (d : Dk) (o : Int) {k : Nat} {a : Int × List UInt8} (h : d.pend[k]? = some a) : lwk d o (k + 1) = if a.1 = o then a.2 else lwk d o k := by
  unfold lwk
  rw [take_snoc h, lastw_snoc]
  split
  · rfl
  · rfl
theorem lastw_len {o : Int} {x : List UInt8} : ∀ {l : List (Int × List UInt8)}, (∀ a ∈ l, a.2.length = 128) → lastw o l = some x → x.length = 128
  | [], _, h => by cases h
  | a :: l, hl, h => by
    unfold lastw at h
    cases hh : lastw o l with
    | some b =>
      rw [hh] at h
      simp only [Option.some.injEq] at h
      exact lastw_len (fun a ha => hl a (by simp [ha])) (h ▸ hh)
    | none =>
      rw [hh] at h
      simp only at h
      split at h
      · simp only [Option.some.injEq] at h
        rw [← h]
        exact hl a (by simp)
      · cases h
theorem RdPost.err (d : Dk) (o : Int) (w w' : World) (h : rde d o = 70) (hb : Below w.heap.size w w') : RdPost (rd d o) (rde d o) w (.returned (.tuple #[.slice none 0 0, .int .i64 70])) w' := by
  have hr : rd d o = [] := by unfold rd; rw [h]; rfl
  rw [hr, h]
  exact ⟨none, 0, rfl, ⟨fun hp => absurd hp (by simp), by simp, by unfold maxLen; omega, fun _ => ⟨rfl, rfl⟩⟩, hb⟩

set_option maxHeartbeats 4000000 in
set_option maxRecDepth 100000 in
theorem rread_any (d : Dk) (A B : Option Addr) (c k0 : Nat) (o : Int) (w : World) (hS : DkIn w d A c B k0) :
    Calls Try.prog 22 #[dkv d A c B k0, .int .i64 o] w (RdPost (rd d o) (rde d o) w) := by
  have hb0 := (Below.refl w.heap.size w).alloc (Nat.le_refl _) (.cells (dkc d A c B k0) 25)
  have HS := Lib.hid (And.intro (hS.up hb0) hb0)
  have HB := Lib.hid (show DBox (w.alloc (.cells (dkc d A c B k0) 25)) w.heap.size d A c B k0 from Box.new w _ _)
  have HR := Lib.hid (rcheck_any d A B c k0 _ (hS.up hb0))
  have HERR := Lib.hid (fun W h hb => RdPost.err d o w W h hb)
  obtain ⟨m1, m2⟩ : d.secs.length ≤ 2 ^ 63 - 1 ∧ d.pend.length ≤ 2 ^ 63 - 1 := ⟨Nat.le_trans hS.1.2.1 hS.1.2.2.1, Nat.le_trans hS.2.2.1 hS.2.2.2.1⟩
  unfold dkv dkc at *
  clear hS hb0
  obtain ⟨N, hN⟩ : ∃ N, d.secs.length = N := ⟨_, rfl⟩
  obtain ⟨M, hM⟩ : ∃ M, d.pend.length = M := ⟨_, rfl⟩
  rw [hN] at m1 HB HS HR
  rw [hM] at m2 HB HS HR
  rw [hN, hM]
  have HN := Lib.hid (And.intro hN hM)
  clear hN hM
  obtain ⟨Q, hQ⟩ : ∃ Q, RdPost (rd d o) (rde d o) w = Q := ⟨_, rfl⟩
  have HQ := Lib.hid hQ
  rw [hQ]
  rw [hQ] at HERR
  clear hQ
  cases q1 : vld d
  · have hc : chk d = 70 := by unfold chk; rw [q1]; rfl
    rw [hc] at HR
    have HE := Lib.hid (show rde d o = 70 by unfold rde rng; rw [q1]; rfl)
    clear hc q1
    go_enter Try.func22, Try.ntmps22
    go_wp2_with fail
    generalize w.alloc _ = W at *
    refine HR.out.mono ?_
    rintro e w1 ⟨rfl, hb1⟩
    have HB1 := Lib.hid (bthen HS.out.2 hb1)
    clear hb1
    go_wp2_with fail
    exact HERR.out _ HE.out HB1.out
  · have hc : chk d = 0 := by unfold chk; rw [q1]; rfl
    rw [hc] at HR
    clear hc
    cases q2 : d.stop
    · rw [q2] at HR HS HB
      have HQ2 := Lib.hid q2
      have HV := Lib.hid (vld_facts.1 q1)
      by_cases q3 : o < 0
      · have HE := Lib.hid (show rde d o = 70 by unfold rde has; rw [decide_eq_false (by omega)]; simp)
        have d1 : decide (o < 0) = true := decide_eq_true q3
        clear q1 q2
        go_enter Try.func22, Try.ntmps22
        go_wp2_with fail
        generalize w.alloc _ = W at *
        refine HR.out.mono ?_
        rintro e w1 ⟨rfl, hb1⟩
        have HB1 := Lib.hid (And.intro (bthen HS.out.2 hb1) (DBox.up HB.out hb1))
        obtain ⟨b0, b1, b2, b3⟩ := HB1.out.2.cells
        rw [HQ2.out] at b3
        clear hb1
        go_wp2_with fail
        exact HERR.out _ HE.out HB1.out.1
      · have d1 : decide (o < 0) = false := decide_eq_false q3
        by_cases q4 : (N : Int) ≤ o
        · have d2 : decide ((N : Int) ≤ o) = true := decide_eq_true q4
          have HE := Lib.hid (show rde d o = 70 by unfold rde has; rw [HN.out.1, decide_eq_false (by omega)]; simp)
          clear q1 q2
          go_enter Try.func22, Try.ntmps22
          go_wp2_with fail
          generalize w.alloc _ = W at *
          refine HR.out.mono ?_
          rintro e w1 ⟨rfl, hb1⟩
          have HB1 := Lib.hid (And.intro (bthen HS.out.2 hb1) (And.intro (DBox.up HB.out hb1) (HS.out.1.up hb1)))
          obtain ⟨b0, b1, b2, b3⟩ := HB1.out.2.1.cells
          rw [HQ2.out] at b3
          rw [HN.out.1] at b0
          rw [HN.out.2] at b1
          clear hb1
          go_wp2_with fail
          exact HERR.out _ HE.out HB1.out.1
        · have d2 : decide ((N : Int) ≤ o) = false := decide_eq_false q4
          obtain ⟨oN, rfl⟩ : ∃ oN : Nat, o = (oN : Int) := ⟨o.toNat, by omega⟩
          have HE := Lib.hid (show rde d oN = 0 from rde_zero.2 ⟨by unfold rng; rw [q1, q2]; rfl, by unfold has; rw [HN.out.1]; simp; omega⟩)
          have hoN : oN < N := by omega
          have hol : oN < d.secs.length := by rw [HN.out.1]; exact hoN
          have i1 : (0 : Int) ≤ (oN : Int) := by omega
          have i2 : (oN : Int) < (N : Int) := by omega
          clear q1 q2 q3 HERR
          go_enter Try.func22, Try.ntmps22
          go_wp2_with fail
          generalize w.alloc _ = W at *
          refine HR.out.mono ?_
          rintro e w1 ⟨rfl, hb1⟩
          have HB1 := Lib.hid (And.intro (bthen HS.out.2 hb1) (And.intro (DBox.up HB.out hb1) (HS.out.1.up hb1)))
          obtain ⟨b0, b1, b2, b3⟩ := HB1.out.2.1.cells
          rw [HQ2.out] at b3
          rw [HN.out.1] at b0
          rw [HN.out.2] at b1
          clear hb1
          obtain ⟨sb, soff, rfl, _, hat⟩ := HB1.out.2.2.1.1 (by rw [HN.out.1]; omega)
          obtain ⟨D0, dc0, h0, hsl0⟩ := hat oN _ (List.getElem?_eq_getElem hol)
          have h128 := HV.out.2.2.2.1 _ (List.getElem_mem hol)
          have HL0 := Lib.hid (show Sl w1 D0 (lwk d oN 0) dc0 by rw [lwk_zero, Int.toNat_natCast, List.getD_eq_getElem?_getD, List.getElem?_eq_getElem hol]; exact hsl0)
          rw [h128] at h0
          clear hat hsl0
          go_wp2_with fail
          clear b0 b1 b2 b3 h0 d1 d2
          go_loopw [6, 7] (fun s i wr => ∃ (k : Nat) (D : Option Addr) (dc : Nat), k ≤ M ∧ i = .int .i64 k ∧ s = .slice D 128 dc ∧ Sl wr D (lwk d oN k) dc ∧ Below w1.heap.size w1 wr) (fun _ i _ => M - (intOf i).toNat)
          case atStart => exact ⟨0, D0, dc0, Nat.zero_le _, rfl, rfl, HL0.out, Below.refl _ _⟩
          case round =>
            obtain ⟨k, D, dc, hk, rfl, rfl, hsl, hbw⟩ := hrel
            have KR := Lib.hid (And.intro hsl (And.intro (DBox.up HB1.out.2.1 hbw) hbw))
            clear hsl
            have b1 : wr.cell? ⟨w.heap.size, 1, none⟩ = some (.slice B M k0) := by
              have := KR.out.2.1.cells.2.1
              rw [HN.out.2] at this
              exact this
            by_cases hlt : k < M
            · have hkl : k < d.pend.length := by rw [HN.out.2]; exact hlt
              obtain ⟨pb, poff, rfl, hpb, hatp⟩ := HB1.out.2.2.2.1 (by rw [HN.out.2]; omega)
              obtain ⟨D1, dc1, h1, h2, hs1⟩ := (hatp k _ (List.getElem?_eq_getElem hkl)).up hpb hbw
              have p128 := (HV.out.2.2.2.2 _ (List.getElem_mem hkl)).2
              have hst := lwk_step d oN (List.getElem?_eq_getElem hkl)
              rw [p128] at h2
              have j1 : (0 : Int) ≤ (k : Int) := by omega
              have j2 : (k : Int) < (M : Int) := by omega
              clear hatp hbw
              by_cases hx : (d.pend[k]'hkl).1 = (oN : Int)
              · rw [if_pos hx] at hst
                rw [hx] at h1
                have HST := Lib.hid (show Sl wr D1 (lwk d oN (k + 1)) dc1 by rw [hst]; exact hs1)
                clear hst hs1 hx p128
                go_wp2_with fail
                go_roundw
                case rel => exact ⟨k + 1, D1, dc1, by omega, by go_num, rfl, HST.out, KR.out.2.2⟩
                case measure => simp [intOf]; omega
              · rw [if_neg hx] at hst
                have HST := Lib.hid (show Sl wr D (lwk d oN (k + 1)) dc by rw [hst]; exact KR.out.1)
                have hx2 : ((d.pend[k]'hkl).1 == (oN : Int)) = false := by simpa using hx
                generalize (d.pend[k]'hkl).1 = x at h1 hx2
                clear hst hs1 hx p128
                go_wp2_with fail
                go_roundw
                case rel => exact ⟨k + 1, D, dc, by omega, by go_num, rfl, HST.out, KR.out.2.2⟩
                case measure => simp [intOf]; omega
            · obtain rfl : k = M := by omega
              have hend := lwk_end d oN HE.out
              rw [HN.out.2] at hend
              have HST := Lib.hid (show Sl wr D (rd d oN) dc by rw [← hend]; exact KR.out.1)
              have hlen : (rd d oN).length = 128 := by
                rw [rd_eq HE.out]
                cases hl : lastw (oN : Int) d.pend with
                | none =>
                  rw [Int.toNat_natCast, List.getD_eq_getElem?_getD, List.getElem?_eq_getElem hol]
                  exact HV.out.2.2.2.1 _ (List.getElem_mem hol)
                | some x => exact lastw_len (fun a ha => (HV.out.2.2.2.2 a ha).2) hl
              have HLN := Lib.hid hlen
              clear hend hlen hbw
              go_wp2_with fail
              rw [← HQ.out, HE.out]
              exact ⟨D, dc, by rw [HLN.out]; rfl, HST.out, bthen HB1.out.1 KR.out.2.2⟩
    · rw [q2] at HR HS HB
      have HQ2 := Lib.hid q2
      have HE := Lib.hid (show rde d o = 70 by unfold rde rng; rw [q2]; simp)
      clear q1 q2
      go_enter Try.func22, Try.ntmps22
      go_wp2_with fail
      generalize w.alloc _ = W at *
      refine HR.out.mono ?_
      rintro e w1 ⟨rfl, hb1⟩
      have HB1 := Lib.hid (And.intro (bthen HS.out.2 hb1) (And.intro (DBox.up HB.out hb1) (HS.out.1.up hb1)))
      obtain ⟨b0, b1, b2, b3⟩ := HB1.out.2.1.cells
      rw [HQ2.out] at b3
      rw [HN.out.1] at b0
      rw [HN.out.2] at b1
      clear hb1
      go_wp2_with fail
      exact HERR.out _ HE.out HB1.out.1
end Go.Proofs.Ytiphajgmjmjanaa
