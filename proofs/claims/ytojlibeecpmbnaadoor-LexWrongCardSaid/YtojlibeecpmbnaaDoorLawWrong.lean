/- LexWrong. -/
import Derived.Test.YtojlibeecpmbnaaDoorPlW
namespace Go.Proofs.YtojlibeecpmbnaaDoor
open Go.RowKit Go.Shelf
set_option linter.unusedVariables false
set_option linter.unusedSimpArgs false

theorem bs_append (a b : List UInt8) : bs a ++ bs b = bs (a ++ b) := by
  apply ByteArray.ext
  simp [bs, ByteArray.data_append]
theorem bs_sp : (⟨#[32]⟩ : ByteArray) = bs [32] := rfl
attribute [local go_sem] bs_toList bs_e bs_size bs_append bs_sp

set_option maxHeartbeats 8000000 in
set_option maxRecDepth 100000 in
theorem lawWrong_any (s X : List UInt8) (w : World) (hK : KT w ∧ PT w) (hl : s.length ≤ 140737488355328) (hm : X.length ≤ 140737488355328) :
    Calls Tryd.prog 9 #[.string (bs s), .string (bs X)] w (BoolPost true w) := by
  have HSN := Lib.hid (sane_any w hK.1 hK.2)
  have HKP := Lib.hid hK
  unfold BoolPost at HSN ⊢
  obtain ⟨L, hL⟩ : ∃ L, s.length = L := ⟨_, rfl⟩
  obtain ⟨M, hM⟩ : ∃ M, X.length = M := ⟨_, rfl⟩
  have HL := Lib.hid (And.intro hL hM)
  have hlen : ∀ wx, (Builtin.len_ #[9] 3 #[.string (bs s)]).run Tryd.prog wx = .ok (.int .i64 (L : Int)) wx := fun wx => by rw [bs_len s _ _ Tryd.underlying9, hL]
  have hlem : ∀ wx, (Builtin.len_ #[9] 3 #[.string (bs X)]).run Tryd.prog wx = .ok (.int .i64 (M : Int)) wx := fun wx => by rw [bs_len X _ _ Tryd.underlying9, hM]
  rw [hL] at hl
  rw [hM] at hm
  clear hK hL hM
  go_enter Tryd.func9, Tryd.ntmps9
  go_wp2_with fail
  refine HSN.out.mono ?_
  rintro e ws ⟨rfl, hbs⟩
  have HB := Lib.hid hbs
  clear hbs HSN
  obtain ⟨S, hS⟩ : ∃ S, L + M = S := ⟨_, rfl⟩
  have hsum : (L : Int) + (M : Int) = (S : Int) := by omega
  have hS48 : S ≤ 281474976710656 := by omega
  have HS := Lib.hid hS
  clear hS
  by_cases h3000 : 3000 < S
  case pos =>
    have hd : decide ((3000 : Int) < (S : Int)) = true := decide_eq_true (by omega)
    have hd2 : (3000 : Int) < (S : Int) := by omega
    go_wp2_with fail
    go_ret
    exact ⟨rfl, HB.out⟩
  have hd : decide ((3000 : Int) < (S : Int)) = false := decide_eq_false (by omega)
  have hd2 : ¬ (3000 : Int) < (S : Int) := by omega
  have HLX := Lib.hid (lex_any s ws (HKP.out.1.below HB.out) (by have := HL.out.1; omega))
  have HW := Lib.hid (fun j (h : lex s = .no j) => wrong_all (X := X) (by have h1 := HL.out.1; have h2 := HL.out.2; have h3 := HS.out; omega) h)
  have hlo := lxo_of (s := s) (by have h1 := HL.out.1; have h3 := HS.out; omega)
  cases hx : lex s with
  | ok ts =>
    rw [hx] at hlo
    have hlo : lxo s = (ts, 0, 0) := hlo
    rw [hlo] at HLX
    unfold LexP at HLX
    simp only at HLX
    clear hlo hx HW
    go_wp2_with fail
    refine HLX.out.mono ?_
    rintro e wl ⟨A, c, rfl, hT, hb⟩
    have HB := Lib.hid (HB.out.trans (hb.mono HB.out.size))
    clear hT hb HLX
    go_wp2_with fail
    go_ret
    exact ⟨rfl, HB.out⟩
  | no j =>
    rw [hx] at hlo
    have hlo : lxo s = ([], j, 100) := hlo
    rw [hlo] at HLX
    unfold LexP at HLX
    simp only at HLX
    have HWJ := Lib.hid (HW.out j hx)
    clear hlo hx HW
    have hjL : j < L := by have h1 := HWJ.out.1; have h2 := HL.out.1; omega
    have hj0 : decide ((j : Int) < 0) = false := decide_eq_false (by omega)
    have hj1 : decide ((L : Int) ≤ (j : Int)) = false := decide_eq_false (by omega)
    have hj2 : ¬ (L : Int) ≤ (j : Int) := by omega
    have hup : ∀ wx, (Instr.slice 9 (.string (bs s)) none (some (.int .i64 (j : Int))) none).run Tryd.prog wx = .ok (.string (bs (s.take j))) wx := fun wx => bs_upto (by have := HL.out.1; omega) _ Tryd.underlying9 wx
    have hcut : ∀ wx, (Instr.slice 9 (.string (bs s)) (some (.int .i64 (j : Int))) none none).run Tryd.prog wx = .ok (.string (bs (s.drop j))) wx := fun wx => bs_cut (by have := HL.out.1; omega) _ Tryd.underlying9 wx
    have HL1 := Lib.hid (fun V (hb : Below w.heap.size w V) => lex_any (s.take j) V (HKP.out.1.below hb) (by rw [List.length_take]; have := HL.out.1; omega))
    have HL2 := Lib.hid (fun V (hb : Below w.heap.size w V) => lex_any (s ++ [32] ++ X) V (HKP.out.1.below hb) (by have h1 := HL.out.1; have h2 := HL.out.2; simp; omega))
    have HL3 := Lib.hid (fun V (hb : Below w.heap.size w V) => lex_any (s.drop j) V (HKP.out.1.below hb) (by rw [List.length_drop]; have := HL.out.1; omega))
    obtain ⟨ts, hts⟩ := HWJ.out.2.1
    rw [hts] at HL1
    rw [HWJ.out.2.2.1, show s ++ [32] ++ X = s ++ 32 :: X by simp] at HL2
    rw [HWJ.out.2.2.2] at HL3
    unfold LexP at HL1 HL2 HL3
    simp only at HL1 HL2 HL3
    obtain ⟨s1, hs1⟩ : ∃ x, s.take j = x := ⟨_, rfl⟩
    obtain ⟨s3, hs3⟩ : ∃ x, s.drop j = x := ⟨_, rfl⟩
    rw [hs1] at hup HL1
    rw [hs3] at hcut HL3
    have hz1 : s.length = L := HL.out.1
    have hz2 : X.length = M := HL.out.2
    have hz3 : ([32] : List UInt8).length = 1 := rfl
    have hz4 : (s ++ [32]).length = L + 1 := by rw [List.length_append, hz1, hz3]
    clear hts hs1 hs3
    go_wp2_with fail
    refine HLX.out.mono ?_
    rintro e wl ⟨A, c, rfl, hT, hb⟩
    have HB := Lib.hid (HB.out.trans (hb.mono HB.out.size))
    clear hT hb HLX
    go_wp2_with fail
    refine (HL1.out wl HB.out).mono ?_
    rintro e w1 ⟨A1, c1, rfl, hT, hb⟩
    have HB := Lib.hid (HB.out.trans (hb.mono HB.out.size))
    clear hT hb HL1
    go_wp2_with fail
    refine (HL2.out w1 HB.out).mono ?_
    rintro e w2 ⟨A2, c2, rfl, hT, hb⟩
    have HB := Lib.hid (HB.out.trans (hb.mono HB.out.size))
    clear hT hb HL2
    go_wp2_with fail
    refine (HL3.out w2 HB.out).mono ?_
    rintro e w3 ⟨A3, c3, rfl, hT, hb⟩
    have HB := Lib.hid (HB.out.trans (hb.mono HB.out.size))
    clear hT hb HL3
    go_wp2_with fail
    go_ret
    exact ⟨rfl, HB.out⟩
end Go.Proofs.YtojlibeecpmbnaaDoor
