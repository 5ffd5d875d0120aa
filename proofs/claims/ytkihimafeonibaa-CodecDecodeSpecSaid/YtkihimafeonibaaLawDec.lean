/- The law that Decode is the reference's. -/
import Derived.Test.YtkihimafeonibaaRRDec
import Derived.Test.YtkihimafeonibaaLawRound
namespace Go.Proofs.Ytkihimafeonibaa
open Go.RowKit
set_option linter.unusedVariables false

/-- What either Decode answers. -/
def DAny (o : Option T) (w : World) (e : Ending) (w' : World) : Prop :=
  ∃ k n s a m c E, e = .returned (.tuple #[.agg #[.int .i64 k, .int .i64 n, .string s, .slice a m c], .int .i64 E]) ∧ (E = match o with | none => 10 | some _ => 0) ∧
    Rd w'.heap.size w' (o.getD (.mk 0 0 ⟨#[]⟩ 0 (fun _ => .nil))) (.agg #[.int .i64 k, .int .i64 n, .string s, .slice a m c]) ∧ Below w.heap.size w w'
theorem rd_zero (w : World) : Rd w.heap.size w (.mk 0 0 ⟨#[]⟩ 0 (fun _ => .nil)) (.agg #[.int .i64 0, .int .i64 0, .string ⟨#[]⟩, .slice none 0 0]) :=
  ⟨none, 0, rfl, by unfold Fit; omega, by unfold Fit; omega, by unfold maxLen; simp [ByteArray.size], by unfold maxLen; omega, fun hl => absurd hl (by omega)⟩
theorem DPost.any {w : World} {o : Option T} {e : Ending} {w' : World} (h : DPost w o e w') : DAny o w e w' := by
  cases o with
  | none =>
    obtain ⟨rfl, hb⟩ := h
    exact ⟨_, _, _, _, _, _, _, rfl, rfl, rd_zero w', hb⟩
  | some t =>
    obtain ⟨v, rfl, hr, hb⟩ := h
    obtain ⟨k, n, s, a, m, c, rfl⟩ := hr.form
    exact ⟨_, _, _, _, _, _, _, rfl, rfl, hr.rd, hb⟩

set_option maxHeartbeats 1000000 in
set_option maxRecDepth 100000 in
theorem lawDec_any (l : List UInt8) (A : Option Addr) (c : Nat) (w : World) (hB : Bs w.heap.size w A l) (h1 : l.length ≤ c) (h2 : c ≤ maxLen) :
    Calls Try.prog 4 #[.slice A l.length c] w fun e w' => e = .returned (.bool true) ∧ Below w.heap.size w w' := by
  have HB := Lib.hid hB
  have H2 := Lib.hid h2
  clear hB h2
  go_enter Try.func4, Try.ntmps4
  go_wp2_with fail
  refine (sane_any _).mono ?_
  rintro e w1 ⟨rfl, hb1⟩
  by_cases hl : 2000 < l.length
  · have hl' : (2000 : Int) < (l.length : Int) := by omega
    go_wp2_with fail
    go_ret
    exact ⟨rfl, hb1⟩
  · have hl' : (l.length : Int) ≤ 2000 := by omega
    have hB1 : Bs w1.heap.size w1 A l := fun hp => by
      obtain ⟨b, off, rfl, hlt, hc⟩ := HB.out hp
      exact ⟨b, off, rfl, Nat.lt_of_lt_of_le hlt hb1.size, fun j u hu => (hb1.cell (p := ⟨b, off + j, none⟩) hlt).trans (hc j u hu)⟩
    have HC := Lib.hid ((decode_any l A c w1 hB1 h1 H2.out (by omega)).mono fun _ _ hp => DPost.any hp)
    have HB1 := Lib.hid hB1
    clear hB1
    go_wp2_with fail
    refine HC.out.mono ?_
    rintro e w2 ⟨k, n, s, a, m, cc, E, rfl, hE, hr, hb2⟩
    have hb3 := (Below.refl w2.heap.size w2).alloc (Nat.le_refl _) (.cells #[.int .i64 k, .int .i64 n, .string s, .slice a m cc] 24)
    have q1 := Box.new w2 #[.int .i64 k, .int .i64 n, .string s, .slice a m cc] 24
    have hr := hr.up hb3
    have hbw := (hb1.trans (hb2.mono hb1.size))
    have hbw := hbw.trans (hb3.mono hbw.size)
    have hbb := hb2.trans (hb3.mono hb2.size)
    have hB3 : Bs (w2.alloc (.cells #[.int .i64 k, .int .i64 n, .string s, .slice a m cc] 24)).heap.size (w2.alloc (.cells #[.int .i64 k, .int .i64 n, .string s, .slice a m cc] 24)) A l := fun hp => by
      obtain ⟨b, off, rfl, hlt, hc⟩ := HB1.out hp
      exact ⟨b, off, rfl, Nat.lt_of_lt_of_le hlt hbb.size, fun j u hu => (hbb.cell (p := ⟨b, off + j, none⟩) hlt).trans (hc j u hu)⟩
    have HD := Lib.hid ((rdecode_any l A c _ hB3 h1 H2.out (by omega)).mono fun _ _ hp => DPost.any hp)
    have HE := Lib.hid hE
    clear hB3 HB1 HC hb1 hb2 hb3 hbb hE
    go_wp2_with fail
    refine HD.out.mono ?_
    rintro e w3 ⟨k', n', s', a', m', cc', E', rfl, hE', hr', hb3⟩
    obtain rfl : E' = E := by rw [hE', HE.out]
    have q1 := q1.below hb3
    have hr := hr.up hb3
    have hbw := hbw.trans (hb3.mono hbw.size)
    have hb4 := (Below.refl w3.heap.size w3).alloc (Nat.le_refl _) (.cells #[.int .i64 k', .int .i64 n', .string s', .slice a' m' cc'] 24)
    have q1 := q1.below hb4
    have q2 := Box.new w3 #[.int .i64 k', .int .i64 n', .string s', .slice a' m' cc'] 24
    have hr := hr.up hb4
    have hr' := hr'.up hb4
    have hbw := hbw.trans (hb4.mono hbw.size)
    have c10 : (w3.alloc (.cells #[.int .i64 k', .int .i64 n', .string s', .slice a' m' cc'] 24)).cell? ⟨w2.heap.size, 0, none⟩ = some (.int .i64 k) := q1.cell 0
    have c11 : (w3.alloc (.cells #[.int .i64 k', .int .i64 n', .string s', .slice a' m' cc'] 24)).cell? ⟨w2.heap.size, 1, none⟩ = some (.int .i64 n) := q1.cell 1
    have c12 : (w3.alloc (.cells #[.int .i64 k', .int .i64 n', .string s', .slice a' m' cc'] 24)).cell? ⟨w2.heap.size, 2, none⟩ = some (.string s) := q1.cell 2
    have c13 : (w3.alloc (.cells #[.int .i64 k', .int .i64 n', .string s', .slice a' m' cc'] 24)).cell? ⟨w2.heap.size, 3, none⟩ = some (.slice a m cc) := q1.cell 3
    have HS := Lib.hid (refSame_any _ _ _ _ _ hr hr')
    rw [same_refl] at HS
    clear HD hb3 hb4 hE' hr hr'
    go_wp2_with fail
    refine HS.out.mono ?_
    rintro e w5 ⟨rfl, hb5⟩
    have hbw := hbw.trans (hb5.mono hbw.size)
    clear HS
    go_wp2_with fail
    all_goals
      go_ret
      exact ⟨rfl, hbw⟩
end Go.Proofs.Ytkihimafeonibaa
