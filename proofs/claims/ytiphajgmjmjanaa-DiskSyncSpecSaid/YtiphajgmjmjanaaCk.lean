/- allWhole, allFit, Check, isRunning. -/
import Derived.Test.YtiphajgmjmjanaaSm
namespace Go.Proofs.Ytiphajgmjmjanaa
open Go.RowKit
set_option linter.unusedVariables false

theorem whole_drop {l : List (List UInt8)} {k : Nat} (h : k < l.length) : whole (l.drop k) = (isw (l[k]'h).length && whole (l.drop (k + 1))) := by
  rw [List.drop_eq_getElem_cons h]
  rfl
theorem fit_drop {n : Nat} {l : List (Int × List UInt8)} {k : Nat} (h : k < l.length) : fit n (l.drop k) = (decide (0 ≤ (l[k]'h).1 ∧ (l[k]'h).1 < (n : Int)) && isw (l[k]'h).2.length && fit n (l.drop (k + 1))) := by
  rw [List.drop_eq_getElem_cons h]
  rfl

set_option maxHeartbeats 1000000 in
set_option maxRecDepth 100000 in
theorem allWhole_any (A : Option Addr) (c : Nat) (l : List (List UInt8)) (w : World) (hS : RR w A l c) (hl : l.length ≤ 1000000) :
    Calls Try.prog 32 #[.slice A l.length c] w fun e w' => e = .returned (.bool (whole l)) ∧ w = w' := by
  have HS := Lib.hid hS
  have HD := Lib.hid (fun k (h : k < l.length) => @whole_drop l k h)
  have HZ := Lib.hid (show whole l = whole (l.drop 0) by rw [List.drop_zero])
  have HE := Lib.hid (show whole (l.drop l.length) = true by rw [List.drop_length]; rfl)
  have HG := Lib.hid (fun k (h : k < l.length) => (List.getElem?_eq_getElem h : l[k]? = some l[k]))
  clear hS
  obtain ⟨n, hn⟩ : ∃ n, l.length = n := ⟨_, rfl⟩
  rw [hn] at hl HE ⊢
  have HN := Lib.hid hn
  clear hn
  go_enter Try.func32, Try.ntmps32
  go_wp2_with fail
  go_loop [7] (fun i => ∃ k : Nat, k ≤ n ∧ i = .int .i64 k ∧ whole l = whole (l.drop k)) (fun i => n - (intOf i).toNat)
  case atStart => exact ⟨0, Nat.zero_le _, rfl, HZ.out⟩
  case round =>
    obtain ⟨k, hk, rfl, hw⟩ := hrel
    have HW := Lib.hid hw
    clear hw
    by_cases hlt : k < n
    · have hkl : k < l.length := by have := HN.out; omega
      obtain ⟨b, off, rfl, hb, hat⟩ := HS.out.1 (by omega)
      obtain ⟨A1, c1, h1, h2⟩ := hat k _ (HG.out k hkl)
      have HD1 := Lib.hid (HD.out k hkl)
      have HI := Lib.hid (isWhole_any A1 (l[k]'hkl).length c1 w)
      generalize (l[k]'hkl).length = m at *
      clear h2 hat
      cases hq : isw m
      · rw [hq] at HI HD1
        clear hq
        go_wp2_with fail
        refine HI.out.mono ?_
        rintro e w1 ⟨rfl, rfl⟩
        go_wp2_with fail
        go_ret
        exact ⟨by rw [HW.out, HD1.out]; rfl, rfl⟩
      · rw [hq] at HI HD1
        clear hq
        go_wp2_with fail
        refine HI.out.mono ?_
        rintro e w1 ⟨rfl, rfl⟩
        go_wp2_with fail
        go_round
        case rel => exact ⟨k + 1, by omega, by go_num, by rw [HW.out, HD1.out]; rfl⟩
        case measure => simp [intOf]; omega
    · obtain rfl : k = n := by omega
      go_wp2_with fail
      go_ret
      exact ⟨by rw [HW.out, HE.out]; rfl, rfl⟩

theorem bcell {W w1 : World} (hb : Below W.heap.size W w1) : (∀ b o, b < W.heap.size → w1.cell? ⟨b, o, none⟩ = W.cell? ⟨b, o, none⟩) ∧ (∀ b o, b < W.heap.size → w1.frozen? ⟨b, o, none⟩ = W.frozen? ⟨b, o, none⟩) :=
  ⟨fun b o h => hb.cell (p := ⟨b, o, none⟩) h, fun b o h => hb.frozen (p := ⟨b, o, none⟩) h⟩
/-- A box of a disk. -/
def DBox (w : World) (b : Nat) (d : Dk) (A : Option Addr) (c : Nat) (B : Option Addr) (k : Nat) : Prop := Box w b (dkc d A c B k) 25
theorem DBox.up {w w' : World} {b : Nat} {d : Dk} {A B : Option Addr} {c k : Nat} (h : DBox w b d A c B k) (hb : Below w.heap.size w w') : DBox w' b d A c B k := Box.below h hb
theorem DBox.cells {w : World} {b : Nat} {d : Dk} {A B : Option Addr} {c k : Nat} (h : DBox w b d A c B k) : w.cell? ⟨b, 0, none⟩ = some (.slice A d.secs.length c) ∧ w.cell? ⟨b, 1, none⟩ = some (.slice B d.pend.length k) ∧ w.cell? ⟨b, 2, none⟩ = some (.int .i64 d.left) ∧ w.cell? ⟨b, 3, none⟩ = some (.bool d.stop) :=
  ⟨h.cell 0, h.cell 1, h.cell 2, h.cell 3⟩

set_option maxHeartbeats 2000000 in
set_option maxRecDepth 100000 in
theorem allFit_any (d : Dk) (A B : Option Addr) (c k0 : Nat) (w : World) (hS : WW w B d.pend k0) (hl : d.pend.length ≤ 1000000) :
    Calls Try.prog 33 #[dkv d A c B k0] w fun e w' => e = .returned (.bool (fit d.secs.length d.pend)) ∧ Below w.heap.size w w' := by
  have HD := Lib.hid (fun k (h : k < d.pend.length) => @fit_drop d.secs.length d.pend k h)
  have HZ := Lib.hid (show fit d.secs.length d.pend = fit d.secs.length (d.pend.drop 0) by rw [List.drop_zero])
  have HE := Lib.hid (show fit d.secs.length (d.pend.drop d.pend.length) = true by rw [List.drop_length]; rfl)
  have HG := Lib.hid (fun k (h : k < d.pend.length) => (List.getElem?_eq_getElem h : d.pend[k]? = some d.pend[k]))
  have hb0 := (Below.refl w.heap.size w).alloc (Nat.le_refl _) (.cells (dkc d A c B k0) 25)
  have HS := Lib.hid (hS.up hb0)
  have HB := Lib.hid (show DBox (w.alloc (.cells (dkc d A c B k0) 25)) w.heap.size d A c B k0 from Box.new w _ _)
  have HSZ := Lib.hid (And.intro hb0 (show w.heap.size < (w.alloc (.cells (dkc d A c B k0) 25)).heap.size by simp))
  have HH := Lib.hid (fun i W => hasSector_any d A B c k0 i W)
  unfold dkv dkc at *
  clear hS hb0
  obtain ⟨n, hn⟩ : ∃ n, d.pend.length = n := ⟨_, rfl⟩
  have HN := Lib.hid hn
  rw [hn] at hl HE HH HB HS HSZ ⊢
  clear hn
  go_enter Try.func33, Try.ntmps33
  go_wp2_with fail
  generalize w.alloc _ = W0 at *
  have hN : d.secs.length = d.secs.length := rfl
  go_loopw [8] (fun i wr => ∃ k : Nat, k ≤ n ∧ i = .int .i64 k ∧ fit d.secs.length d.pend = fit d.secs.length (d.pend.drop k) ∧ Below W0.heap.size W0 wr) (fun i _ => n - (intOf i).toNat)
  case atStart => exact ⟨0, Nat.zero_le _, rfl, HZ.out, Below.refl _ _⟩
  case round =>
    obtain ⟨k, hk, rfl, hw, hb⟩ := hrel
    have HW := Lib.hid (And.intro hw hb)
    clear hw
    by_cases hlt : k < n
    · have hkl : k < d.pend.length := by have := HN.out; omega
      obtain ⟨b, off, rfl, hlb, hat⟩ := HS.out.1 (by omega)
      obtain ⟨D1, c1, h1, h2, h3⟩ := (hat k _ (HG.out k hkl)).up hlb hb
      have hlb2 : b < wr.heap.size := Nat.lt_of_lt_of_le hlb hb.size
      obtain ⟨b0, b1, b2, b3⟩ := (DBox.up HB.out hb).cells
      rw [HN.out] at b1
      have hz2 : w.heap.size < wr.heap.size := Nat.lt_of_lt_of_le HSZ.out.2 hb.size
      have HD1 := Lib.hid (HD.out k hkl)
      have HHW := Lib.hid (fun W => HH.out (d.pend[k]'hkl).1 W)
      clear h3 hat hb
      generalize (d.pend[k]'hkl).2.length = m at *
      generalize (d.pend[k]'hkl).1 = i at *
      have HI := Lib.hid (isWhole_any D1 m c1)
      have HHD : Hid (has d i = decide (0 ≤ i ∧ i < (d.secs.length : Int))) := rfl
      have HF := Lib.hid (fun w1 (hb1 : Below (wr.alloc (.cells #[.int .i64 i, .slice D1 m c1] 54)).heap.size (wr.alloc (.cells #[.int .i64 i, .slice D1 m c1] 54)) w1) =>
        (HSZ.out.1.trans (HW.out.2.mono (Nat.le_of_lt HSZ.out.2))).trans ((((Below.refl _ wr).alloc (Nat.le_refl _) _).trans (hb1.mono (by simp))).mono (Nat.le_of_lt hz2)))
      cases hq1 : has d i
      · rw [HHD.out] at hq1
        rw [hq1] at HD1
        rw [← HHD.out] at hq1
        rw [hq1] at HHW
        clear hq1
        go_wp2_with fail
        refine (HHW.out _).mono ?_
        rintro e w1 ⟨rfl, hb1⟩
        go_wp2_with fail
        go_ret
        refine ⟨by rw [HW.out.1, HD1.out]; rfl, ?_⟩
        exact HF.out w1 hb1
      · rw [HHD.out] at hq1
        rw [hq1, Bool.true_and] at HD1
        rw [← HHD.out] at hq1
        rw [hq1] at HHW
        clear hq1
        go_wp2_with fail
        refine (HHW.out _).mono ?_
        rintro e w1 ⟨rfl, hb1⟩
        obtain ⟨hc, hf⟩ := bcell hb1
        cases hq2 : isw m
        · rw [hq2] at HI HD1
          clear hq2
          go_wp2_with fail
          refine (HI.out _).mono ?_
          rintro e w2 ⟨rfl, rfl⟩
          go_wp2_with fail
          go_ret
          exact ⟨by rw [HW.out.1, HD1.out]; rfl, HF.out w1 hb1⟩
        · rw [hq2, Bool.true_and] at HD1
          rw [hq2] at HI
          clear hq2
          go_wp2_with fail
          refine (HI.out _).mono ?_
          rintro e w2 ⟨rfl, rfl⟩
          go_wp2_with fail
          go_roundw
          case rel => 
            refine ⟨k + 1, by omega, by go_num, by rw [HW.out.1, HD1.out], HW.out.2.trans ((((Below.refl _ wr).alloc (Nat.le_refl _) _).trans (hb1.mono (by simp))).mono HW.out.2.size)⟩
          case measure => simp [intOf]; omega
    · obtain rfl : k = n := by omega
      go_wp2_with fail
      go_ret
      exact ⟨by rw [HW.out.1, HE.out]; rfl, HSZ.out.1.trans (HW.out.2.mono (Nat.le_of_lt HSZ.out.2))⟩

set_option maxHeartbeats 2000000 in
set_option maxRecDepth 100000 in
theorem check_any (d : Dk) (A B : Option Addr) (c k0 : Nat) (w : World) (hS : DkIn w d A c B k0) :
    Calls Try.prog 15 #[dkv d A c B k0] w fun e w' => e = .returned (.int .i64 (chk d)) ∧ Below w.heap.size w w' := by
  have hb0 := (Below.refl w.heap.size w).alloc (Nat.le_refl _) (.cells (dkc d A c B k0) 25)
  have HS := Lib.hid (And.intro (hS.up hb0) hb0)
  have HB := Lib.hid (show DBox (w.alloc (.cells (dkc d A c B k0) 25)) w.heap.size d A c B k0 from Box.new w _ _)
  have HI := Lib.hid (fun W => isSize_any (d.secs.length : Int) W)
  have HL := Lib.hid (fun W => isLeft_any d.left W)
  have HW := Lib.hid (fun (h : d.secs.length ≤ 1000000) => allWhole_any A c d.secs _ (HS.out.1.1) h)
  have HF := Lib.hid (fun (h : d.pend.length ≤ 1000000) => allFit_any d A B c k0 _ (HS.out.1.2) h)
  have hv : vld d = (size1 d.secs.length && decide (d.pend.length ≤ 4096) && left1 d.left && whole d.secs && fit d.secs.length d.pend) := rfl
  have hs1 : size1 d.secs.length = decide ((1 : Int) ≤ (d.secs.length : Int) ∧ (d.secs.length : Int) ≤ 4096) := rfl
  unfold chk
  unfold dkv dkc at *
  clear hS hb0
  obtain ⟨n, hn⟩ : ∃ n, d.secs.length = n := ⟨_, rfl⟩
  obtain ⟨m, hm⟩ : ∃ m, d.pend.length = m := ⟨_, rfl⟩
  rw [hn] at hv hs1
  rw [hm] at hv
  rw [hn, hm] at HB HS HW HF
  rw [hn] at HI
  rw [hn, hm]
  have HN := Lib.hid hn
  clear hn hm
  have HV := Lib.hid hv
  clear hv
  have hm2 : (∃ q : Bool, decide (m ≤ 4096) = q) := ⟨_, rfl⟩
  cases q1 : size1 (n : Int)
  · have hcv : vld d = false := by rw [HV.out, q1]; rfl
    rw [hcv]
    rw [q1] at HI
    clear q1 hcv hs1 hm2
    go_enter Try.func15, Try.ntmps15
    go_wp2_with (refine (HI.out _).mono ?_; rintro e w1 ⟨rfl, rfl⟩)
    go_ret
    exact ⟨rfl, HS.out.2⟩
  · rw [q1] at HI
    have hnn : n ≤ 1000000 := by
      rw [hs1] at q1
      have := of_decide_eq_true q1
      omega
    by_cases q2 : m ≤ 4096
    · have hd2 : decide ((4096 : Int) < (m : Int)) = false := decide_eq_false (by omega)
      cases q3 : left1 d.left
      · have hcv : vld d = false := by rw [HV.out, q1, q3]; simp
        rw [hcv]
        rw [q3] at HL
        clear q1 hcv hs1 hm2 q3
        go_enter Try.func15, Try.ntmps15
        go_wp2_with (first | (refine (HI.out _).mono ?_; rintro e w1 ⟨rfl, rfl⟩) | (refine (HL.out _).mono ?_; rintro e w1 ⟨rfl, rfl⟩))
        go_ret
        exact ⟨rfl, HS.out.2⟩
      · rw [q3] at HL
        cases q4 : whole d.secs
        · have hcv : vld d = false := by rw [HV.out, q4]; simp
          rw [hcv]
          rw [q4] at HW
          clear q1 hcv hs1 hm2 q3 q4
          go_enter Try.func15, Try.ntmps15
          go_wp2_with (first | (refine (HI.out _).mono ?_; rintro e w1 ⟨rfl, rfl⟩) | (refine (HL.out _).mono ?_; rintro e w1 ⟨rfl, rfl⟩) | (refine (HW.out hnn).mono ?_; rintro e w1 ⟨rfl, rfl⟩))
          go_ret
          exact ⟨rfl, HS.out.2⟩
        · rw [q4] at HW
          have hcv : vld d = fit n d.pend := by rw [HV.out, q1, q3, q4, decide_eq_true q2]; rfl
          rw [hcv]
          have HF2 := Lib.hid (HF.out (by omega))
          cases q5 : fit n d.pend
          · rw [q5] at HF2
            clear q1 hcv hs1 hm2 q3 q4 q5
            go_enter Try.func15, Try.ntmps15
            go_wp2_with (first | (refine (HI.out _).mono ?_; rintro e w1 ⟨rfl, rfl⟩) | (refine (HL.out _).mono ?_; rintro e w1 ⟨rfl, rfl⟩) | (refine (HW.out hnn).mono ?_; rintro e w1 ⟨rfl, rfl⟩) | (refine HF2.out.mono ?_; rintro e w1 ⟨rfl, hb1⟩))
            go_ret
            exact ⟨rfl, HS.out.2.trans (hb1.mono HS.out.2.size)⟩
          · rw [q5] at HF2
            clear q1 hcv hs1 hm2 q3 q4 q5
            go_enter Try.func15, Try.ntmps15
            go_wp2_with (first | (refine (HI.out _).mono ?_; rintro e w1 ⟨rfl, rfl⟩) | (refine (HL.out _).mono ?_; rintro e w1 ⟨rfl, rfl⟩) | (refine (HW.out hnn).mono ?_; rintro e w1 ⟨rfl, rfl⟩) | (refine HF2.out.mono ?_; rintro e w1 ⟨rfl, hb1⟩))
            go_ret
            exact ⟨rfl, HS.out.2.trans (hb1.mono HS.out.2.size)⟩
    · have hd2 : decide ((4096 : Int) < (m : Int)) = true := decide_eq_true (by omega)
      have hcv : vld d = false := by rw [HV.out, decide_eq_false q2]; simp
      rw [hcv]
      clear q1 hcv hs1 hm2
      go_enter Try.func15, Try.ntmps15
      go_wp2_with (refine (HI.out _).mono ?_; rintro e w1 ⟨rfl, rfl⟩)
      go_ret
      exact ⟨rfl, HS.out.2⟩

set_option maxHeartbeats 2000000 in
set_option maxRecDepth 100000 in
theorem isRunning_any (d : Dk) (A B : Option Addr) (c k0 : Nat) (w : World) (hS : DkIn w d A c B k0) :
    Calls Try.prog 34 #[dkv d A c B k0] w fun e w' => e = .returned (.bool (rng d)) ∧ Below w.heap.size w w' := by
  have hb0 := (Below.refl w.heap.size w).alloc (Nat.le_refl _) (.cells (dkc d A c B k0) 25)
  have HC := Lib.hid (check_any d A B c k0 _ (hS.up hb0))
  have HB := Lib.hid hb0
  have hr : rng d = (vld d && !d.stop) := rfl
  unfold chk at HC
  unfold dkv dkc at *
  clear hS hb0
  generalize d.secs.length = n at *
  generalize d.pend.length = m at *
  generalize d.left = x at *
  cases q1 : vld d <;> rw [q1] at HC hr <;> cases q2 : d.stop <;> rw [q2] at HC hr HB <;> rw [hr] <;> clear hr q1 q2
  all_goals
    go_enter Try.func34, Try.ntmps34
    go_wp2_with (refine HC.out.mono ?_; rintro e w1 ⟨rfl, hb1⟩; (try obtain ⟨hc, hf⟩ := bcell hb1))
    go_ret
    exact ⟨rfl, HB.out.trans (hb1.mono HB.out.size)⟩
end Go.Proofs.Ytiphajgmjmjanaa
