/- Split. -/
import Derived.Test.YtjkojjimlebmjaaDoorSp2
import Derived.Test.YtjkojjimlebmjaaDoorPol
namespace Go.Proofs.YtjkojjimlebmjaaDoor
open Go.RowKit
set_option linter.unusedVariables false

/-- The polynomials of a secret. -/
def pols (s coins : List UInt8) (each : Nat) : List (List UInt8) := (List.range s.length).map (pcf s coins each)
/-- Split's error. -/
def spe (s : List UInt8) (ep th mn : Int) (coins : List UInt8) : Int :=
  if 64 < s.length then 1 else if ¬ (1 ≤ th ∧ th ≤ mn ∧ mn ≤ 8) then 60 else if ¬ (0 ≤ ep ∧ ep ≤ 1048576) then 61 else if coins.length ≠ s.length * (th.toNat - 1) then 1 else 0
/-- Split's shares. -/
def spl (s : List UInt8) (ep th mn : Int) (coins : List UInt8) : List Shr :=
  if spe s ep th mn coins = 0 then (List.range mn.toNat).map (psh ep th mn (pols s coins (th.toNat - 1))) else []
def SplitPost (s : List UInt8) (ep th mn : Int) (coins : List UInt8) (w : World) (e : Ending) (w' : World) : Prop :=
  ∃ A c, e = .returned (.tuple #[.slice A (spl s ep th mn coins).length c, .int .i64 (spe s ep th mn coins)]) ∧ SS w' A (spl s ep th mn coins) c ∧ Below w.heap.size w w'

def sW (W : World) (ep th mn : Int) : World := ((W.alloc (.cells #[.int .i64 ep] 3)).alloc (.cells #[.int .i64 th] 3)).alloc (.cells #[.int .i64 mn] 3)
theorem sW_below (W : World) (ep th mn : Int) : Below W.heap.size W (sW W ep th mn) := (((Below.refl _ W).alloc (Nat.le_refl _) _).alloc (by simp) _).alloc (by simp; omega) _
theorem sW_boxes (W : World) (ep th mn : Int) : Box (sW W ep th mn) W.heap.size #[.int .i64 ep] 3 ∧ Box (sW W ep th mn) (W.heap.size + 1) #[.int .i64 th] 3 ∧ Box (sW W ep th mn) (W.heap.size + 1 + 1) #[.int .i64 mn] 3 := by
  have b1 := ((Box.new W #[.int .i64 ep] 3).alloc (.cells #[.int .i64 th] 3)).alloc (.cells #[.int .i64 mn] 3)
  have b2 := (Box.new (W.alloc (.cells #[.int .i64 ep] 3)) #[.int .i64 th] 3).alloc (.cells #[.int .i64 mn] 3)
  have b3 := Box.new ((W.alloc (.cells #[.int .i64 ep] 3)).alloc (.cells #[.int .i64 th] 3)) #[.int .i64 mn] 3
  simp only [World.size_alloc] at b2 b3
  exact ⟨b1, b2, b3⟩
theorem pols_length (s coins : List UInt8) (each : Nat) : (pols s coins each).length = s.length := by simp [pols]
theorem pols_mem {s coins : List UInt8} {each : Nat} (hl : coins.length = s.length * each) : ∀ p ∈ pols s coins each, p.length = 1 + each := by
  intro p hp
  obtain ⟨i, hi, rfl⟩ := List.mem_map.1 hp
  exact pcf_length hl (List.mem_range.1 hi)

set_option maxHeartbeats 2000000 in
set_option maxRecDepth 100000 in
theorem split_any (A1 A2 : Option Addr) (c1 c2 : Nat) (s coins : List UInt8) (ep th mn : Int) (W : World) (hK : KT W) (hS : Sl W A1 s c1) (hC : Sl W A2 coins c2) (h1 : s.length ≤ 1000000) (h2 : coins.length ≤ 9223372036854775807) :
    Calls Tryd.prog 12 #[.slice A1 s.length c1, .int .i64 ep, .int .i64 th, .int .i64 mn, .slice A2 coins.length c2] W (SplitPost s ep th mn coins W) := by
  have hb0 := sW_below W ep th mn
  obtain ⟨b1, b2, b3⟩ := sW_boxes W ep th mn
  have c1' := b1.cell 0
  have c2' := b2.cell 0
  have c3' := b3.cell 0
  have HB := Lib.hid (And.intro hb0 (And.intro b1 (And.intro b2 b3)))
  have HS := Lib.hid (And.intro hS (And.intro hC hK))
  have hsW := Lib.hid (show sW W ep th mn = ((W.alloc (.cells #[.int .i64 ep] 3)).alloc (.cells #[.int .i64 th] 3)).alloc (.cells #[.int .i64 mn] 3) from rfl)
  clear hb0 b1 b2 b3 hS hC hK c1' c2' c3'
  by_cases q1 : 64 < s.length
  · have he : spe s ep th mn coins = 1 := if_pos q1
    have hfin : ∀ w', w' = sW W ep th mn → SplitPost s ep th mn coins W (.returned (.tuple #[.slice none 0 0, .int .i64 1])) w' := by
      rintro w' rfl
      unfold SplitPost spl
      rw [he, if_neg (by decide)]
      exact ⟨none, 0, rfl, SS.nil _, HB.out.1⟩
    have HF := Lib.hid hfin
    clear hfin he
    generalize s.length = n at *
    generalize coins.length = m at *
    go_enter Tryd.func12, Tryd.ntmps12
    go_wp2_with fail
    go_ret2
    exact HF.out _ rfl
  · have q1' : s.length ≤ 64 := by omega
    by_cases q2 : 1 ≤ th ∧ th ≤ mn ∧ mn ≤ 8
    · by_cases q3 : 0 ≤ ep ∧ ep ≤ 1048576
      · obtain ⟨each, hth⟩ : ∃ each : Nat, th = (each : Int) + 1 := ⟨(th - 1).toNat, by omega⟩
        obtain ⟨k, hmn⟩ : ∃ k : Nat, mn = (k : Int) := ⟨mn.toNat, by omega⟩
        have hte : th.toNat - 1 = each := by omega
        have he8 : each ≤ 7 := by omega
        have hk8 : k ≤ 8 := by omega
        have hle := Nat.mul_le_mul q1' he8
        obtain ⟨t, ht⟩ : ∃ t, s.length * each = t := ⟨_, rfl⟩
        rw [ht] at hle
        have hsp : spe s ep th mn coins = if coins.length ≠ t then 1 else 0 := by
          unfold spe
          rw [if_neg q1, if_neg (fun h => h q2), if_neg (fun h => h q3), hte, ht]
        have hti : ((s.length : Int) * (each : Int)) = (t : Int) := by rw [← Int.natCast_mul, ht]
        by_cases q4 : coins.length = t
        · have he : spe s ep th mn coins = 0 := by rw [hsp, if_neg (fun h => h q4)]
          have hsl : spl s ep th mn coins = (List.range k).map (psh ep th mn (pols s coins each)) := by
            unfold spl
            rw [if_pos he, hte, hmn]
            rfl
          have HP : Hid (∀ W1, Below W.heap.size W W1 → Calls Tryd.prog 33 #[.slice A1 s.length c1, .slice A2 coins.length c2, .int .i64 (each : Int)] W1 (RowL (pols s coins each) W1)) := fun W1 hb =>
            pol_any each A1 A2 c1 c2 s coins W1 (HS.out.1.up hb) (HS.out.2.1.up hb) (by rw [ht]; exact q4) (by omega) (by omega)
          have HN := Lib.hid (And.intro (pols_length s coins each) (pols_mem (s := s) (coins := coins) (each := each) (by rw [ht]; exact q4)))
          have HSL := Lib.hid (And.intro hsl he)
          subst hth hmn
          clear hsl he hsp ht hte
          generalize hps : pols s coins each = ps at *
          have HE := Lib.hid hps
          clear hps
          generalize s.length = n at *
          generalize coins.length = m at *
          have d1 : ¬ ((64 : Int) < (n : Int)) := by omega
          subst q4
          go_enter Tryd.func12, Tryd.ntmps12
          go_wp2_with fail
          refine (thr_any _ _ _).mono ?_
          rintro e w' ⟨rfl, rfl⟩
          rw [decide_eq_true (by omega)]
          go_wp2_with fail
          refine (ep_any _ _).mono ?_
          rintro e w' ⟨rfl, rfl⟩
          rw [decide_eq_true (by omega)]
          go_wp2_with fail
          have hbw : Below W.heap.size W (((W.alloc (.cells #[.int .i64 ep] 3)).alloc (.cells #[.int .i64 ((each : Int) + 1)] 3)).alloc (.cells #[.int .i64 (k : Int)] 3)) := HB.out.1
          have HBW := Lib.hid hbw
          clear hbw
          go_wp2_with fail
          refine (HP.out _ HBW.out).mono ?_
          rintro e w3 ⟨g, c3, hg, rfl, hR, hb3⟩
          rw [HN.out.1]
          have hb4 := HBW.out.trans (hb3.mono HBW.out.size)
          have e1 : w3.cell? ⟨W.heap.size, 0, none⟩ = some (.int .i64 ep) := (HB.out.2.1.below hb3).cell 0
          have e2 : w3.cell? ⟨W.heap.size + 1, 0, none⟩ = some (.int .i64 ((each : Int) + 1)) := (HB.out.2.2.1.below hb3).cell 0
          have e3 : w3.cell? ⟨W.heap.size + 1 + 1, 0, none⟩ = some (.int .i64 (k : Int)) := (HB.out.2.2.2.below hb3).cell 0
          have hb5 : Below w3.heap.size w3 (w3.alloc (.cells #[.slice (some ⟨g, 0, none⟩) n c3] 41)) := (Below.refl _ w3).alloc (Nat.le_refl _) _
          have hb6 := hb4.trans (hb5.mono hb4.size)
          have bp := Box.new w3 #[.slice (some ⟨g, 0, none⟩) n c3] 41
          have HCS : Hid (Calls Tryd.prog 23 #[.int .i64 (k : Int), .func (.func 34) #[] #[.pointer (some ⟨w3.heap.size, 0, none⟩), .pointer (some ⟨W.heap.size, 0, none⟩), .pointer (some ⟨W.heap.size + 1, 0, none⟩), .pointer (some ⟨W.heap.size + 1 + 1, 0, none⟩)]]
              (w3.alloc (.cells #[.slice (some ⟨g, 0, none⟩) n c3] 41)) (RowS ((List.range k).map (psh ep ((each : Int) + 1) k ps)) (w3.alloc (.cells #[.slice (some ⟨g, 0, none⟩) n c3] 41)))) := by
            refine collS k (by omega) _ _ _ _ (enters_of Tryd.func34 (by kernel_rfl) rfl) ?_
            intro j W2 hj hlt hb2
            have hb7 := hb5.trans (hb2.mono hb5.size)
            have hbB := hb6.trans (hb2.mono hb6.size)
            have hbe : ∀ b, b < w3.heap.size → ∀ v, w3.cell? ⟨b, 0, none⟩ = some v → W2.cell? ⟨b, 0, none⟩ = some v := fun b hb v h => (hb7.cell (p := ⟨b, 0, none⟩) hb).trans h
            refine (sp1_any j w3.heap.size W.heap.size (W.heap.size + 1) (W.heap.size + 1 + 1) (some ⟨g, 0, none⟩) c3 ps ep ((each : Int) + 1) k W2 (HS.out.2.2.below hbB) (by rw [HN.out.1]; exact (bp.below hb2).cell 0)
              (hbe _ (World.block_lt_of_cell? w3 _ e1) _ e1) (hbe _ (World.block_lt_of_cell? w3 _ e2) _ e2) (hbe _ (World.block_lt_of_cell? w3 _ e3) _ e3) (by omega) (hR.up hb7) (fun p hp => by rw [HN.out.2 p hp]; omega) (by rw [HN.out.1]; omega)).mono ?_
            rintro e w4 ⟨A, c, rfl, hs, ha, hb⟩
            exact ⟨A, c, rfl, hs, fun b off e => by have := ha b off e; omega, hb⟩
          have H6 := Lib.hid hb6
          have e3' := (hb5.cell (p := ⟨W.heap.size + 1 + 1, 0, none⟩) (World.block_lt_of_cell? w3 _ e3)).trans e3
          clear hb6 hb5 hb4 hb3 bp hR HP HB hsW
          go_wp2_with fail
          refine HCS.out.mono ?_
          rintro e w5 ⟨g5, c5, hg5, rfl, hR5, hb7⟩
          go_wp2_with fail
          go_ret2
          refine ⟨some ⟨g5, 0, none⟩, c5, ?_, ?_, H6.out.trans (hb7.mono H6.out.size)⟩
          · rw [HSL.out.1, HSL.out.2, List.length_map, List.length_range]; rfl
          · rw [HSL.out.1]; exact hR5
        · have he : spe s ep th mn coins = 1 := by rw [hsp, if_pos q4]
          have hfin : ∀ w', w' = sW W ep th mn → SplitPost s ep th mn coins W (.returned (.tuple #[.slice none 0 0, .int .i64 1])) w' := by
            rintro w' rfl
            unfold SplitPost spl
            rw [he, if_neg (by decide)]
            exact ⟨none, 0, rfl, SS.nil _, HB.out.1⟩
          have HF := Lib.hid hfin
          subst hth hmn
          clear hfin he hsp hsW HS ht hte
          generalize s.length = n at *
          generalize coins.length = m at *
          have d1 : ¬ ((64 : Int) < (n : Int)) := by omega
          have d2 : ((m : Int) != (t : Int)) = true := by simp; omega
          go_enter Tryd.func12, Tryd.ntmps12
          go_wp2_with fail
          refine (thr_any _ _ _).mono ?_
          rintro e w' ⟨rfl, rfl⟩
          rw [decide_eq_true (by omega)]
          go_wp2_with fail
          refine (ep_any _ _).mono ?_
          rintro e w' ⟨rfl, rfl⟩
          rw [decide_eq_true (by omega)]
          go_wp2_with fail
          go_ret2
          exact HF.out _ rfl
      · have he : spe s ep th mn coins = 61 := by unfold spe; rw [if_neg q1, if_neg (fun h => h q2), if_pos q3]
        have hfin : ∀ w', w' = sW W ep th mn → SplitPost s ep th mn coins W (.returned (.tuple #[.slice none 0 0, .int .i64 61])) w' := by
          rintro w' rfl
          unfold SplitPost spl
          rw [he, if_neg (by decide)]
          exact ⟨none, 0, rfl, SS.nil _, HB.out.1⟩
        have HF := Lib.hid hfin
        clear hfin he hsW HS
        generalize s.length = n at *
        generalize coins.length = m at *
        have d1 : ¬ ((64 : Int) < (n : Int)) := by omega
        go_enter Tryd.func12, Tryd.ntmps12
        go_wp2_with fail
        refine (thr_any _ _ _).mono ?_
        rintro e w' ⟨rfl, rfl⟩
        rw [decide_eq_true q2]
        go_wp2_with fail
        refine (ep_any _ _).mono ?_
        rintro e w' ⟨rfl, rfl⟩
        rw [decide_eq_false q3]
        go_wp2_with fail
        go_ret2
        exact HF.out _ rfl
    · have he : spe s ep th mn coins = 60 := by unfold spe; rw [if_neg q1, if_pos q2]
      have hfin : ∀ w', w' = sW W ep th mn → SplitPost s ep th mn coins W (.returned (.tuple #[.slice none 0 0, .int .i64 60])) w' := by
        rintro w' rfl
        unfold SplitPost spl
        rw [he, if_neg (by decide)]
        exact ⟨none, 0, rfl, SS.nil _, HB.out.1⟩
      have HF := Lib.hid hfin
      clear hfin he hsW HS
      generalize s.length = n at *
      generalize coins.length = m at *
      have d1 : ¬ ((64 : Int) < (n : Int)) := by omega
      go_enter Tryd.func12, Tryd.ntmps12
      go_wp2_with fail
      refine (thr_any _ _ _).mono ?_
      rintro e w' ⟨rfl, rfl⟩
      rw [decide_eq_false q2]
      go_wp2_with fail
      go_ret2
      exact HF.out _ rfl
end Go.Proofs.YtjkojjimlebmjaaDoor
