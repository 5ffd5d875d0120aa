/- Names and numbers of the program. -/
import Derived.Test.YticepaljociefaaDoorFn
import Derived.Shelf.Abstract
namespace Go.Proofs.YticepaljociefaaDoor
open Go.RowKit Go.Shelf
set_option linter.unusedVariables false

theorem bs_e : ByteArray.toList ⟨#[]⟩ = [] := ByteArray.toList_mk []
attribute [local go_sem] bs_toList bs_e
theorem tw_all (p : UInt8 → Bool) : ∀ l : List UInt8, (l.takeWhile p == l) = l.all p
  | [] => rfl
  | c :: r => by
    cases h : p c with
    | true => rw [tw_cons h, List.all_cons, h, Bool.true_and, ← tw_all p r]; simp
    | false => simp [h]
theorem tw_idem (p : UInt8 → Bool) (l : List UInt8) : (l.takeWhile p).all p = true := List.all_takeWhile

set_option maxRecDepth 100000 in
theorem name_any (l : List UInt8) (w : World) (hK : KT w) (hl : l.length ≤ 1000000) : Calls Tryd.prog 20 #[.string (bs l)] w (QBool (nm l) w) := by
  unfold QBool nm
  rw [← tw_all]
  have HBG := Lib.hid (beginning_of 40 isP l w hl (fun b => continuesName_any b w hK) (enters_of Tryd.func40 (by kernel_rfl) rfl))
  unfold QStr at HBG
  obtain ⟨L, hL⟩ : ∃ L, l.length = L := ⟨_, rfl⟩
  have hlen : ∀ wx, (Builtin.len_ #[9] 3 #[.string (bs l)]).run Tryd.prog wx = .ok (.int .i64 (L : Int)) wx := fun wx => by rw [bs_len l _ _ Tryd.underlying9, hL]
  by_cases hn : l = []
  case pos =>
    subst hn
    clear HBG hK
    go_enter Tryd.func20, Tryd.ntmps20
    go_wp2_with fail
    go_ret
    exact ⟨rfl, rfl⟩
  have hne : (l == []) = false := by simpa using hn
  have hL0 : 0 < L := by
    rw [← hL]
    exact List.length_pos_iff.2 hn
  rw [hL, decide_eq_true hL0, Bool.true_and]
  by_cases h32 : L ≤ 32
  case neg =>
    have hd : decide ((L : Int) ≤ 32) = false := decide_eq_false (by omega)
    have hd2 : ¬ (L : Int) ≤ 32 := by omega
    rw [decide_eq_false h32]
    clear HBG hK hL
    go_enter Tryd.func20, Tryd.ntmps20
    go_wp2_with fail
    go_ret
    exact ⟨rfl, rfl⟩
  have hd : decide ((L : Int) ≤ 32) = true := decide_eq_true (by omega)
  have hd2 : (L : Int) ≤ 32 := by omega
  rw [decide_eq_true h32, Bool.true_and]
  obtain ⟨b, hb⟩ : ∃ b, l[0]? = some b := ⟨_, List.getElem?_eq_getElem (by rw [hL]; exact hL0)⟩
  have hb0 : l.headD 0 = b := by
    cases l with
    | nil => exact absurd rfl hn
    | cons c r => simpa using hb
  rw [hb0]
  have hix : ∀ wx, (Instr.index 9 (.string (bs l)) (.int .i64 0)).run Tryd.prog wx = .ok (bv b) wx := fun wx => bs_idx hb _ Tryd.underlying9 wx
  have HIL := Lib.hid (isLetter_any b w hK)
  unfold QBool at HIL
  obtain ⟨q, hq⟩ : ∃ q, (l.takeWhile isP == l) = q := ⟨_, rfl⟩
  rw [hq]
  clear hb hb0 hL hK hn
  cases hi : isL b with
  | false =>
    rw [hi] at HIL
    clear hi HBG hq
    go_enter Tryd.func20, Tryd.ntmps20
    go_wp2_with fail
    refine HIL.out.mono ?_
    rintro e w' ⟨rfl, rfl⟩
    go_wp2_with fail
    go_ret
    exact ⟨rfl, rfl⟩
  | true =>
    rw [hi] at HIL
    clear hi
    obtain ⟨tw, htw⟩ : ∃ tw, l.takeWhile isP = tw := ⟨_, rfl⟩
    rw [htw] at hq HBG
    clear htw
    go_enter Tryd.func20, Tryd.ntmps20
    go_wp2_with fail
    refine HIL.out.mono ?_
    rintro e w' ⟨rfl, rfl⟩
    go_wp2_with fail
    refine HBG.out.mono ?_
    rintro e w' ⟨rfl, rfl⟩
    go_wp2_with fail
    go_ret
    exact ⟨rfl, rfl⟩

/-! Numbers. -/
theorem nv_cut : ∀ (a b : List UInt8) (n : Nat), nv n (a ++ b) = (nv n a).bind (fun m => nv m b)
  | [], b, n => rfl
  | c :: a, b, n => by
    rw [List.cons_append, nv_cons, nv_cons]
    split
    · rfl
    · exact nv_cut a b _
theorem nv_at {l : List UInt8} {j n : Nat} {b : UInt8} (hb : l[j]? = some b) (h : nv 0 (l.take j) = some n) :
    nv 0 (l.take (j + 1)) = if 1099511627776 < 10 * n + (b.toNat - 48) then none else some (10 * n + (b.toNat - 48)) := by
  rw [List.take_add_one, hb, nv_cut, h]
  exact nv_cons n b []
theorem nv_none {l : List UInt8} {j : Nat} (h : nv 0 (l.take j) = none) : nv 0 l = none := by
  rw [← List.take_append_drop j l, nv_cut, h]
  rfl
/-- A number and whether it is one. -/
def QNum (o : Option Nat) (w : World) (e : Ending) (w' : World) : Prop := e = .returned (.tuple #[.int .i64 ((o.getD 0 : Nat) : Int), .bool o.isSome]) ∧ w' = w
theorem isD_val {b : UInt8} (h : isD b = true) : 48 ≤ b.toNat ∧ b.toNat ≤ 57 := by
  unfold isD at h
  simpa using h
set_option maxRecDepth 100000 in
theorem number_any (l : List UInt8) (w : World) (hl : l.length ≤ 1000000) (h0 : 0 < l.length) (hD : l.all isD = true) : Calls Tryd.prog 56 #[.string (bs l)] w (QNum (num l) w) := by
  unfold QNum num
  obtain ⟨L, hL⟩ : ∃ L, l.length = L := ⟨_, rfl⟩
  have hlen : ∀ wx, (Builtin.len_ #[9] 3 #[.string (bs l)]).run Tryd.prog wx = .ok (.int .i64 (L : Int)) wx := fun wx => by rw [bs_len l _ _ Tryd.underlying9, hL]
  have HL := Lib.hid hL
  have HDG := Lib.hid (fun (i : Nat) (b : UInt8) (hb : l[i]? = some b) => isD_val (List.all_eq_true.1 hD b (List.mem_of_getElem? hb)))
  obtain ⟨b0, hb0⟩ : ∃ b, l[0]? = some b := ⟨_, List.getElem?_eq_getElem h0⟩
  have hb1 : l.headD 0 = b0 := by
    cases l with
    | nil => cases hb0
    | cons c r => simpa using hb0
  rw [hL, hb1]
  rw [hL] at hl h0
  have hix : ∀ wx, (Instr.index 9 (.string (bs l)) (.int .i64 0)).run Tryd.prog wx = .ok (bv b0) wx := fun wx => bs_idx hb0 _ Tryd.underlying9 wx
  unfold bv at hix
  obtain ⟨c0, hc0⟩ : ∃ c, b0.toNat = c := ⟨_, rfl⟩
  rw [hc0] at hix
  rw [hc0]
  clear hb0 hb1 hc0 hL hD
  by_cases hA : 1 < L ∧ c0 = 48
  case pos =>
    obtain ⟨hA1, rfl⟩ := hA
    rw [if_pos ⟨hA1, rfl⟩]
    have hd : decide ((1 : Int) < (L : Int)) = true := decide_eq_true (by omega)
    have hd2 : (1 : Int) < (L : Int) := by omega
    go_enter Tryd.func56, Tryd.ntmps56
    go_wp2_with fail
    refine bodyPost_ret (results_tmp2 Tryd.results56 _ _ _) rfl ?_
    exact ⟨rfl, rfl⟩
  rw [if_neg hA]
  by_cases hL1 : 1 < L
  case pos =>
    have hc48 : ¬ c0 = 48 := fun h => hA ⟨hL1, h⟩
    have hd : decide ((1 : Int) < (L : Int)) = true := decide_eq_true (by omega)
    have hd2 : (1 : Int) < (L : Int) := by omega
    have he : decide ((c0 : Int) = 48) = false := decide_eq_false (by omega)
    have he2 : ¬ (c0 : Int) = 48 := by omega
    have he3 : ((c0 : Int) == 48) = false := by simpa using he2
    clear hA
    go_enter Tryd.func56, Tryd.ntmps56
    go_wp2_with fail
    clear hix
    go_loopw [2, 4, 15] (fun v x i wr => ∃ j n : Nat, j ≤ L ∧ v = .int .i64 (n : Int) ∧ i = .int .i64 (j : Int) ∧ nv 0 (l.take j) = some n ∧ n ≤ 1099511627776 ∧ wr = w) (fun _ _ i _ => L - (intOf i).toNat)
    case atStart => exact ⟨0, 0, Nat.zero_le _, rfl, rfl, rfl, by omega, rfl⟩
    case round =>
      obtain ⟨j, n, hj, rfl, rfl, hnv, hn40, rfl⟩ := hrel
      have HNV := Lib.hid hnv
      clear hnv
      by_cases hlt : j < L
      case neg =>
        have hdj : decide ((j : Int) < (L : Int)) = false := decide_eq_false (by omega)
        have HE := Lib.hid (show nv 0 l = some n from by
          have h1 := HNV.out
          rw [List.take_of_length_le (by rw [HL.out]; omega)] at h1
          exact h1)
        go_wp2_with fail
        refine bodyPost_ret (results_tmp2 Tryd.results56 _ _ _) rfl ?_
        exact ⟨by rw [HE.out]; rfl, rfl⟩
      have hdj : decide ((j : Int) < (L : Int)) = true := decide_eq_true (by omega)
      obtain ⟨b, hb⟩ : ∃ b, l[j]? = some b := ⟨_, List.getElem?_eq_getElem (by rw [HL.out]; exact hlt)⟩
      have hD := HDG.out j b hb
      have hstep := nv_at hb HNV.out
      have hix : ∀ wx, (Instr.index 9 (.string (bs l)) (.int .i64 (j : Int))).run Tryd.prog wx = .ok (bv b) wx := fun wx => bs_idx hb _ Tryd.underlying9 wx
      unfold bv at hix
      obtain ⟨c, hc⟩ : ∃ c, b.toNat = c := ⟨_, rfl⟩
      rw [hc] at hix hD hstep
      clear hb hc
      obtain ⟨n', hn'⟩ : ∃ n', 10 * n + (c - 48) = n' := ⟨_, rfl⟩
      rw [hn'] at hstep
      have hw1 : IntKind.u8.wrap ((c : Int) - 48) = ((c - 48 : Nat) : Int) := by rw [IntKind.wrap_u8]; omega
      have hw2 : ((c : Int) - 48) % 256 = ((c - 48 : Nat) : Int) := by omega
      have hw3 : 10 * (n : Int) + ((c - 48 : Nat) : Int) = (n' : Int) := by omega
      have HST := Lib.hid hstep
      clear hstep
      by_cases hbig : 1099511627776 < n'
      case pos =>
        have hdb : decide ((1099511627776 : Int) < (n' : Int)) = true := decide_eq_true (by omega)
        have HE := Lib.hid (show nv 0 l = none from nv_none (j := j + 1) (by rw [HST.out, if_pos hbig]))
        go_wp2_with fail
        refine bodyPost_ret (results_tmp2 Tryd.results56 _ _ _) rfl ?_
        exact ⟨by rw [HE.out]; rfl, rfl⟩
      have hdb : decide ((1099511627776 : Int) < (n' : Int)) = false := decide_eq_false (by omega)
      go_wp2_with fail
      go_roundw
      case rel => exact ⟨j + 1, n', by omega, by go_num, by go_num, by rw [HST.out, if_neg hbig], by omega, trivial⟩
      case measure => simp [intOf]; omega
  case neg =>
    have hd : decide ((1 : Int) < (L : Int)) = false := decide_eq_false (by omega)
    have hd2 : ¬ (1 : Int) < (L : Int) := by omega
    clear hA
    go_enter Tryd.func56, Tryd.ntmps56
    go_wp2_with fail
    clear hix
    go_loopw [2, 4, 15] (fun v x i wr => ∃ j n : Nat, j ≤ L ∧ v = .int .i64 (n : Int) ∧ i = .int .i64 (j : Int) ∧ nv 0 (l.take j) = some n ∧ n ≤ 1099511627776 ∧ wr = w) (fun _ _ i _ => L - (intOf i).toNat)
    case atStart => exact ⟨0, 0, Nat.zero_le _, rfl, rfl, rfl, by omega, rfl⟩
    case round =>
      obtain ⟨j, n, hj, rfl, rfl, hnv, hn40, rfl⟩ := hrel
      have HNV := Lib.hid hnv
      clear hnv
      by_cases hlt : j < L
      case neg =>
        have hdj : decide ((j : Int) < (L : Int)) = false := decide_eq_false (by omega)
        have HE := Lib.hid (show nv 0 l = some n from by
          have h1 := HNV.out
          rw [List.take_of_length_le (by rw [HL.out]; omega)] at h1
          exact h1)
        go_wp2_with fail
        refine bodyPost_ret (results_tmp2 Tryd.results56 _ _ _) rfl ?_
        exact ⟨by rw [HE.out]; rfl, rfl⟩
      have hdj : decide ((j : Int) < (L : Int)) = true := decide_eq_true (by omega)
      obtain ⟨b, hb⟩ : ∃ b, l[j]? = some b := ⟨_, List.getElem?_eq_getElem (by rw [HL.out]; exact hlt)⟩
      have hD := HDG.out j b hb
      have hstep := nv_at hb HNV.out
      have hix : ∀ wx, (Instr.index 9 (.string (bs l)) (.int .i64 (j : Int))).run Tryd.prog wx = .ok (bv b) wx := fun wx => bs_idx hb _ Tryd.underlying9 wx
      unfold bv at hix
      obtain ⟨c, hc⟩ : ∃ c, b.toNat = c := ⟨_, rfl⟩
      rw [hc] at hix hD hstep
      clear hb hc
      obtain ⟨n', hn'⟩ : ∃ n', 10 * n + (c - 48) = n' := ⟨_, rfl⟩
      rw [hn'] at hstep
      have hw1 : IntKind.u8.wrap ((c : Int) - 48) = ((c - 48 : Nat) : Int) := by rw [IntKind.wrap_u8]; omega
      have hw2 : ((c : Int) - 48) % 256 = ((c - 48 : Nat) : Int) := by omega
      have hw3 : 10 * (n : Int) + ((c - 48 : Nat) : Int) = (n' : Int) := by omega
      have HST := Lib.hid hstep
      clear hstep
      by_cases hbig : 1099511627776 < n'
      case pos =>
        have hdb : decide ((1099511627776 : Int) < (n' : Int)) = true := decide_eq_true (by omega)
        have HE := Lib.hid (show nv 0 l = none from nv_none (j := j + 1) (by rw [HST.out, if_pos hbig]))
        go_wp2_with fail
        refine bodyPost_ret (results_tmp2 Tryd.results56 _ _ _) rfl ?_
        exact ⟨by rw [HE.out]; rfl, rfl⟩
      have hdb : decide ((1099511627776 : Int) < (n' : Int)) = false := decide_eq_false (by omega)
      go_wp2_with fail
      go_roundw
      case rel => exact ⟨j + 1, n', by omega, by go_num, by go_num, by rw [HST.out, if_neg hbig], by omega, trivial⟩
      case measure => simp [intOf]; omega
end Go.Proofs.YticepaljociefaaDoor
