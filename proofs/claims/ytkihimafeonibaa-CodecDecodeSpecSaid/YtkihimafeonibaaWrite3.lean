import Derived.Test.YtkihimafeonibaaWrite
namespace Go.Proofs.Ytkihimafeonibaa
open Go.RowKit
set_option linter.unusedVariables false

theorem RdS.atB {B : Nat} {w wr : World} {len : Nat} {f : Nat → T} {a : Option Addr} (h : RdS B w len f a) (hb : Below B w wr) {i : Nat} (hi : i < len) :
    ∃ b off c0 c1 c2 c3, a = some ⟨b, off, none⟩ ∧ b < B ∧ wr.cell? ⟨b, off + i * 4, none⟩ = some c0 ∧ wr.cell? ⟨b, off + i * 4 + 1, none⟩ = some c1 ∧
      wr.cell? ⟨b, off + i * 4 + 2, none⟩ = some c2 ∧ wr.cell? ⟨b, off + i * 4 + 3, none⟩ = some c3 ∧ Rd B wr (f i) (.agg #[c0, c1, c2, c3]) := by
  obtain ⟨b, off, rfl, hbl, hc⟩ := h (by omega)
  obtain ⟨c0, c1, c2, c3, e0, e1, e2, e3, hr⟩ := hc i hi
  exact ⟨b, off, c0, c1, c2, c3, rfl, hbl, by rw [hb.cell hbl]; exact e0, by rw [hb.cell hbl]; exact e1, by rw [hb.cell hbl]; exact e2, by rw [hb.cell hbl]; exact e3, hr.below hb⟩

theorem catTo_len {p : Nat → List UInt8} {i n : Nat} (h : i < n) : (catTo p i).length + (p i).length ≤ (catTo p n).length := by
  induction n with
  | zero => omega
  | succ n ih =>
    simp only [catTo, List.length_append]
    by_cases e : i = n
    · subst e; omega
    · have := ih (by omega); omega

/-- What value does, for one value. -/
def ValOk (K g B : Nat) (S : List UInt8 → World → Prop) (p : List UInt8) (t : T) : Prop :=
  ∀ (v : Value) (acc : List UInt8) (w : World), S acc w → Rd B w t v → acc.length + p.length ≤ 80000000 → B ≤ w.heap.size →
    Calls Try.prog 27 #[.agg #[wr1 K g], v] w fun e w' => e = .returned (.tuple #[]) ∧ S (acc ++ p) w' ∧ Fr B g w w'

set_option maxHeartbeats 400000 in
set_option maxRecDepth 100000 in
theorem writeList_any {K g B : Nat} {S : List UInt8 → World → Prop} (hK : Sink K g B S) (acc : List UInt8) (k n : Int) (s : ByteArray) (a : Option Addr) (len cap : Nat) (f : Nat → T) (p : Nat → List UInt8) (w : World)
    (hS : S acc w) (h4 : len ≤ 9223372036854775807) (h5 : RdS B w len f a) (hl : acc.length + (num len ++ catTo p len).length ≤ 80000000) (hB : B ≤ w.heap.size) (hV : ∀ i, i < len → ValOk K g B S (p i) (f i)) :
    Calls Try.prog 41 #[.agg #[wr1 K g], .agg #[.int .i64 k, .int .i64 n, .string s, .slice a len cap]] w fun e w' =>
      e = .returned (.tuple #[]) ∧ S (acc ++ num len ++ catTo p len) w' ∧ Fr B g w w' := by
  have hb := ((Below.refl w.heap.size w).alloc (Nat.le_refl _) (.cells #[wr1 K g] 49)).alloc (by simp) (.cells #[.int .i64 k, .int .i64 n, .string s, .slice a len cap] 24)
  have hS1 := hK.keep acc _ _ hS hb
  have he := hK.enters
  have hgw := hK.lt _ _ hS
  have hnl := num_length len
  rw [List.length_append] at hl
  have hul : len < 18446744073709551616 := by omega
  have HK := Lib.hid hK
  have HU := Lib.hid hul
  have HV := Lib.hid hV
  clear hK hul hV
  have q0 := (Box.new w #[wr1 K g] 49).alloc (.cells #[.int .i64 k, .int .i64 n, .string s, .slice a len cap] 24)
  have q1 := Box.new (w.alloc (.cells #[wr1 K g] 49)) #[.int .i64 k, .int .i64 n, .string s, .slice a len cap] 24
  rw [World.size_alloc] at q1
  unfold wr1 at *
  go_enter Try.func41, Try.ntmps41
  go_wp2_with fail
  generalize (w.alloc (.cells #[.func (.func K) #[] #[.pointer (some ⟨g, 0, none⟩)]] 49)).alloc (.cells #[.int .i64 k, .int .i64 n, .string s, .slice a len cap] 24) = W2 at *
  have c0 : W2.cell? ⟨w.heap.size, 0, none⟩ = some (.func (.func K) #[] #[.pointer (some ⟨g, 0, none⟩)]) := q0.cell 0
  have c1 : W2.cell? ⟨w.heap.size + 1, 3, none⟩ = some (.slice a len cap) := q1.cell 3
  have hz := hb.drew.size
  have q0d : Box W2.drew _ _ _ := q0
  have q1d : Box W2.drew _ _ _ := q1
  have hSd := HK.out.drew _ _ hS1
  have hbd := hb.drew
  have hwr : IntKind.u64.wrap (len : Int) = (len : Int) := by rw [IntKind.wrap_u64]; omega
  have hlen : acc.length + (ByteArray.mk (num len).toArray).size ≤ 100000000 := by show acc.length + (num len).length ≤ _; omega
  have ne48 : 49 ≠ 5 := by decide
  have ne24 : 24 ≠ 5 := by decide
  go_region_held3 (fun w' => w'.cell? ⟨w.heap.size, 0, none⟩ = some (.func (.func K) #[] #[.pointer (some ⟨g, 0, none⟩)]) ∧ w'.cell? ⟨w.heap.size + 1, 3, none⟩ = some (.slice a len cap)) (first | exact ⟨p0.cell 0, p1.cell 3⟩ | go_keep)
    (first
      | (go_at_call 52; refine (numeral_any len _ HU.out).mono ?_; rintro e w3 ⟨rfl, hb3⟩; have hS3 := HK.out.keep acc _ _ hSd hb3; have p0 := q0d.below hb3; have p1 := q1d.below hb3; have hbw3 := hbd.trans (hb3.mono hz); have hz3 := hb3.size; have hB3 : B ≤ w3.heap.size := Nat.le_trans hB (Nat.le_trans hz hz3); have g0 : w.heap.size ≠ g := Nat.ne_of_gt hgw; have g1 : w.heap.size + 1 ≠ g := Nat.ne_of_gt (Nat.lt_succ_of_lt hgw))
      | (refine (HK.out.put acc ⟨(num len).toArray⟩ _ hS3 hlen hB3).mono ?_; rintro e w4 ⟨rfl, hS4, hF4⟩; have p0 := p0.fr hF4 g0 ne48; have p1 := p1.fr hF4 g1 ne24)
      | fail)
  have k1 : w4.cell? ⟨w.heap.size + 1, 3, none⟩ = some (.slice a len cap) := p1.cell 3
  have hF := (Fr.of_below hbw3 hB).trans hF4
  clear c0 c1 q0 q1 q0d q1d hS1 hSd hb hbd hbw3 hb3 hS3 hF4
  go_wp2_with fail
  go_loopw [17] (fun i wr => ∃ j : Nat, j ≤ len ∧ i = .int .i64 j ∧ S (acc ++ num len ++ catTo p j) wr ∧ Fr B g w wr ∧ Box wr w.heap.size #[.func (.func K) #[] #[.pointer (some ⟨g, 0, none⟩)]] 49) (fun i _ => len - (intOf i).toNat)
  case atStart => exact ⟨0, Nat.zero_le _, rfl, by simp only [catTo, List.append_nil]; exact hS4, hF, p0⟩
  case round =>
    clear k1 p0 p1 hF hS4
    obtain ⟨j, hj, rfl, hSj, hFj, hbx⟩ := hrel
    by_cases hlt : j < len
    · obtain ⟨b, off, c0, c1, c2, c3, rfl, hbl, e0, e1, e2, e3, hr⟩ := h5.atB hFj.below hlt
      obtain ⟨k1, n1, s1, a1, l1, m1, rfl, rfl, rfl, rfl⟩ := hr.form
      have hsz := hFj.size
      have hbl1 : b < wr.heap.size := by omega
      have kb : wr.cell? ⟨w.heap.size, 0, none⟩ = some (.func (.func K) #[] #[.pointer (some ⟨g, 0, none⟩)]) := hbx.cell 0
      have hbx1 : w.heap.size < wr.heap.size := hbx.lt
      have hb2 := (Below.refl wr.heap.size wr).alloc (Nat.le_refl _) (.cells #[.int .i64 k1, .int .i64 n1, .string s1, .slice a1 l1 m1] 24)
      have hS2 := HK.out.keep _ _ _ hSj hb2
      have hr2 := hr.below (hb2.mono (by omega))
      have hbx2 := hbx.below hb2
      have hcl := catTo_len (p := p) hlt
      have hx : catTo p (j + 1) = catTo p j ++ p j := rfl
      have HX := Lib.hid hx
      clear hx h5
      go_wp2_with fail
      refine (HV.out j hlt _ _ _ hS2 hr2 (by simp only [List.length_append]; omega) (by simp; omega)).mono ?_
      rintro e w5 ⟨rfl, hS5, hF5⟩
      have hbx5 := hbx2.fr hF5 (Nat.ne_of_gt hgw) ne48
      have hF6 := (hFj.trans (Fr.of_below hb2 (by omega))).trans hF5
      clear e0 e1 e2 e3 kb
      go_wp2_with fail
      go_roundw
      case rel => exact ⟨j + 1, by omega, by go_num, by rw [HX.out, ← List.append_assoc]; exact hS5, hF6, hbx5⟩
      case measure => simp [intOf]; omega
    · go_wp2_with fail
      go_end0
      have hjl : j = len := by omega
      exact ⟨rfl, by rw [← hjl]; rw [hjl] at hSj ⊢; exact hSj, hFj⟩
end Go.Proofs.Ytkihimafeonibaa
