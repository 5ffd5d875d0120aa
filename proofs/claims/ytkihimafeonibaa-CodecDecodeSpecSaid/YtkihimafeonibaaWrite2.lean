import Derived.Test.YtkihimafeonibaaWrite
namespace Go.Proofs.Ytkihimafeonibaa
open Go.RowKit
set_option linter.unusedVariables false

set_option maxHeartbeats 400000 in
set_option maxRecDepth 100000 in
theorem writeText_any {K g B : Nat} {S : List UInt8 → World → Prop} (hK : Sink K g B S) (acc : List UInt8) (k n : Int) (s : ByteArray) (a : Option Addr) (len cap : Nat) (w : World)
    (hS : S acc w) (hl : acc.length + s.size ≤ 90000000) (hB : B ≤ w.heap.size) :
    Calls Try.prog 40 #[.agg #[wr1 K g], .agg #[.int .i64 k, .int .i64 n, .string s, .slice a len cap]] w fun e w' =>
      e = .returned (.tuple #[]) ∧ S (acc ++ num s.size ++ s.data.toList) w' ∧ Fr B g w w' := by
  have hb := ((Below.refl w.heap.size w).alloc (Nat.le_refl _) (.cells #[wr1 K g] 49)).alloc (by simp) (.cells #[.int .i64 k, .int .i64 n, .string s, .slice a len cap] 24)
  have hS1 := hK.keep acc _ _ hS hb
  have he := hK.enters
  have hgw := hK.lt _ _ hS
  have hnl := num_length s.size
  have hul : s.size < 18446744073709551616 := by omega
  have HK := Lib.hid hK
  have HU := Lib.hid hul
  clear hK hul
  have q0 := (Box.new w #[wr1 K g] 49).alloc (.cells #[.int .i64 k, .int .i64 n, .string s, .slice a len cap] 24)
  have q1 := Box.new (w.alloc (.cells #[wr1 K g] 49)) #[.int .i64 k, .int .i64 n, .string s, .slice a len cap] 24
  rw [World.size_alloc] at q1
  unfold wr1 at *
  go_enter Try.func40, Try.ntmps40
  go_wp2_with fail
  generalize (w.alloc (.cells #[.func (.func K) #[] #[.pointer (some ⟨g, 0, none⟩)]] 49)).alloc (.cells #[.int .i64 k, .int .i64 n, .string s, .slice a len cap] 24) = W2 at *
  have c0 : W2.cell? ⟨w.heap.size, 0, none⟩ = some (.func (.func K) #[] #[.pointer (some ⟨g, 0, none⟩)]) := q0.cell 0
  have c1 : W2.cell? ⟨w.heap.size + 1, 2, none⟩ = some (.string s) := q1.cell 2
  have hz := hb.drew.size
  have q0d : Box W2.drew _ _ _ := q0
  have q1d : Box W2.drew _ _ _ := q1
  have hSd := HK.out.drew _ _ hS1
  have hbd := hb.drew
  have hwr : IntKind.u64.wrap (s.size : Int) = (s.size : Int) := by rw [IntKind.wrap_u64]; omega
  have hlen : acc.length + (ByteArray.mk (num s.size).toArray).size ≤ 100000000 := by show acc.length + (num s.size).length ≤ _; omega
  have ne48 : 49 ≠ 5 := by decide
  have ne24 : 24 ≠ 5 := by decide
  go_region_held3 (fun w' => w'.cell? ⟨w.heap.size, 0, none⟩ = some (.func (.func K) #[] #[.pointer (some ⟨g, 0, none⟩)]) ∧ w'.cell? ⟨w.heap.size + 1, 2, none⟩ = some (.string s)) (first | exact ⟨p0.cell 0, p1.cell 2⟩ | go_keep)
    (first
      | (go_at_call 52; refine (numeral_any s.size _ HU.out).mono ?_; rintro e w3 ⟨rfl, hb3⟩; have hS3 := HK.out.keep acc _ _ hSd hb3; have p0 := q0d.below hb3; have p1 := q1d.below hb3; have hbw3 := hbd.trans (hb3.mono hz); have hz3 := hb3.size; have hB3 : B ≤ w3.heap.size := Nat.le_trans hB (Nat.le_trans hz hz3); have g0 : w.heap.size ≠ g := Nat.ne_of_gt hgw; have g1 : w.heap.size + 1 ≠ g := Nat.ne_of_gt (Nat.lt_succ_of_lt hgw))
      | (refine (HK.out.put acc ⟨(num s.size).toArray⟩ _ hS3 hlen hB3).mono ?_; rintro e w4 ⟨rfl, hS4, hF4⟩; have p0 := p0.fr hF4 g0 ne48; have p1 := p1.fr hF4 g1 ne24)
      | fail)
  have k0 : w4.cell? ⟨w.heap.size, 0, none⟩ = some (.func (.func K) #[] #[.pointer (some ⟨g, 0, none⟩)]) := p0.cell 0
  have k1 : w4.cell? ⟨w.heap.size + 1, 2, none⟩ = some (.string s) := p1.cell 2
  have hF := (Fr.of_below hbw3 hB).trans hF4
  have hB4 : B ≤ w4.heap.size := Nat.le_trans hB hF.size
  have hlen2 : (acc ++ num s.size).length + s.size ≤ 100000000 := by rw [List.length_append]; omega
  clear c0 c1 q0 q1 q0d q1d hS1 hSd hb hbd hbw3 hb3 hS3 hF4
  go_wp2_with fail
  refine (HK.out.put _ s _ hS4 hlen2 hB4).mono ?_
  rintro e w5 ⟨rfl, hS5, hF5⟩
  go_wp2_with fail
  go_end0
  exact ⟨rfl, hS5, hF.trans hF5⟩

end Go.Proofs.Ytkihimafeonibaa
