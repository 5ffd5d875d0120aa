/- The reference's numbers. -/
import Derived.Test.YtojlibeecpmbnaaDoorRf2
namespace Go.Proofs.YtojlibeecpmbnaaDoor
open Go.RowKit Go.Shelf
set_option linter.unusedVariables false
set_option linter.unusedSimpArgs false

/-- A number and whether it is one; the number counts only then. -/
def RNumP (o : Option Nat) (w : World) (e : Ending) (w' : World) : Prop := ∃ z : Int, e = .returned (.tuple #[.int .i64 z, .bool o.isSome]) ∧ (∀ n, o = some n → z = (n : Int)) ∧ Below w.heap.size w w'
theorem RNumP.mk {o : Option Nat} {z : Int} {b : Bool} {w w' : World} (hb : b = o.isSome) (hz : ∀ n, o = some n → z = (n : Int)) (h : Below w.heap.size w w') : RNumP o w (.returned (.tuple #[.int .i64 z, .bool b])) w' := ⟨z, by rw [hb], hz, h⟩
set_option maxHeartbeats 2000000 in
set_option maxRecDepth 100000 in
theorem rnumber_any (l : List UInt8) (w : World) (hl : l.length ≤ 1000000) (h0 : 0 < l.length) (hD : l.all isD = true) : Calls Tryd.prog 29 #[.string (bs l)] w (RNumP (num l) w) := by
  obtain ⟨L, hL⟩ : ∃ L, l.length = L := ⟨_, rfl⟩
  have hlen : ∀ wx, (Builtin.len_ #[9] 3 #[.string (bs l)]).run Tryd.prog wx = .ok (.int .i64 (L : Int)) wx := fun wx => by rw [bs_len l _ _ Tryd.underlying9, hL]
  have HL := Lib.hid hL
  have HDG := Lib.hid (fun (i : Nat) (b : UInt8) (hb : l[i]? = some b) => isD_val (List.all_eq_true.1 hD b (List.mem_of_getElem? hb)))
  obtain ⟨b0, hb0⟩ : ∃ b, l[0]? = some b := ⟨_, List.getElem?_eq_getElem h0⟩
  have hb1 : l.headD 0 = b0 := by
    cases l with
    | nil => cases hb0
    | cons c r => simpa using hb0
  have hnum : num l = if 1 < L ∧ b0.toNat = 48 then none else nv 0 l := by unfold num; rw [hL, hb1]
  have hix0 : ∀ wx, (Instr.index 9 (.string (bs l)) (.int .i64 0)).run Tryd.prog wx = .ok (bv b0) wx := fun wx => bs_idx hb0 _ Tryd.underlying9 wx
  unfold bv at hix0
  obtain ⟨c0, hc0⟩ : ∃ c, b0.toNat = c := ⟨_, rfl⟩
  rw [hc0] at hix0 hnum
  obtain ⟨o, ho⟩ : ∃ o, num l = o := ⟨_, rfl⟩
  rw [ho] at hnum ⊢
  have HO := Lib.hid hnum
  have HI0 := Lib.hid hix0
  rw [hL] at hl h0
  clear hb0 hb1 hc0 hL hD hnum ho hix0
  go_enter Tryd.func29, Tryd.ntmps29
  go_wp2_with fail
  go_loopw [4, 5] (fun v i wr => ∃ j n : Nat, j ≤ L ∧ v = .int .i64 (n : Int) ∧ i = .int .i64 (j : Int) ∧ nv 0 (l.take j) = some n ∧ n ≤ 1099511627776 ∧ wr = w) (fun _ i _ => L - (intOf i).toNat)
  case atStart => exact ⟨0, 0, Nat.zero_le _, rfl, rfl, rfl, by omega, rfl⟩
  case round =>
    obtain ⟨j, n, hj, rfl, rfl, hnv, hn40, rfl⟩ := hrel
    have HNV := Lib.hid hnv
    clear hnv
    by_cases hlt : j < L
    case neg =>
      have hdj : decide ((j : Int) < (L : Int)) = false := decide_eq_false (by omega)
      have hE : nv 0 l = some n := by
        have h1 := HNV.out
        rw [List.take_of_length_le (by rw [HL.out]; omega)] at h1
        exact h1
      have hix := HI0.out
      by_cases hL1 : L = 1
      · have hd1 : ((L : Int) == 1) = true := by rw [beq_iff_eq]; omega
        have hd2 : (L : Int) = 1 := by omega
        have HE := Lib.hid (show o = some n from by rw [HO.out, if_neg (by omega), hE])
        clear hE
        subst hL1
        go_upto_region 8 with fail
        go_quiet (fail)
        go_wp2_with fail
        refine bodyPost_ret (results_tmp2 Tryd.results29 _ _ _) rfl ?_
        exact RNumP.mk (by rw [HE.out]; rfl) (fun m hm => by rw [HE.out] at hm; cases hm; rfl) (below_drewN _ nq)
      · have hd1 : ((L : Int) == 1) = false := by rw [beq_eq_false_iff_ne]; omega
        have hd2 : ¬ (L : Int) = 1 := by omega
        by_cases h48 : c0 = 48
        · subst h48
          have HE := Lib.hid (show o = none from by rw [HO.out, if_pos ⟨by omega, rfl⟩])
          clear hE
          go_upto_region 8 with fail
          go_quiet (fail)
          go_wp2_with fail
          refine bodyPost_ret (results_tmp2 Tryd.results29 _ _ _) rfl ?_
          exact RNumP.mk (by rw [HE.out]; rfl) (fun m hm => by rw [HE.out] at hm; cases hm) (below_drewN _ nq)
        · have hc1 : ((c0 : Int) == 48) = false := by rw [beq_eq_false_iff_ne]; omega
          have hc2 : ((c0 : Int) != 48) = true := by rw [bne_iff_ne]; omega
          have hc3 : ¬ (c0 : Int) = 48 := by omega
          have HE := Lib.hid (show o = some n from by rw [HO.out, if_neg (by omega), hE])
          clear hE
          go_upto_region 8 with fail
          go_quiet (fail)
          go_wp2_with fail
          refine bodyPost_ret (results_tmp2 Tryd.results29 _ _ _) rfl ?_
          exact RNumP.mk (by rw [HE.out]; first | rfl | simp [hc2]) (fun m hm => by rw [HE.out] at hm; cases hm; rfl) (below_drewN _ nq)
    have hdj : decide ((j : Int) < (L : Int)) = true := decide_eq_true (by omega)
    obtain ⟨b, hb⟩ : ∃ b, l[j]? = some b := ⟨_, List.getElem?_eq_getElem (by rw [HL.out]; exact hlt)⟩
    have hD := HDG.out j b hb
    have hstep := nv_at hb HNV.out
    have hix : ∀ wx, (Instr.index 9 (.string (bs l)) (.int .i64 (j : Int))).run Tryd.prog wx = .ok (bv b) wx := fun wx => bs_idx hb _ Tryd.underlying9 wx
    unfold bv at hix
    obtain ⟨c, hc⟩ : ∃ c, b.toNat = c := ⟨_, rfl⟩
    rw [hc] at hix hD hstep
    clear hb hc
    obtain ⟨n', hn'⟩ : ∃ n', 10 * n + (c - 48) = n' := ⟨_, rfl⟩
    rw [hn'] at hstep
    have hw1 : IntKind.u8.wrap ((c : Int) - 48) = ((c - 48 : Nat) : Int) := by rw [IntKind.wrap_u8]; omega
    have hw2 : ((c : Int) - 48) % 256 = ((c - 48 : Nat) : Int) := by omega
    have hw3 : 10 * (n : Int) + ((c - 48 : Nat) : Int) = (n' : Int) := by omega
    have HST := Lib.hid hstep
    clear hstep
    by_cases hbig : 1099511627776 < n'
    case pos =>
      have hdb : decide ((1099511627776 : Int) < (n' : Int)) = true := decide_eq_true (by omega)
      have HE := Lib.hid (show o = none from by
        have h1 := nv_none (j := j + 1) (l := l) (by rw [HST.out, if_pos hbig])
        rw [HO.out, h1]
        split <;> rfl)
      go_wp2_with fail
      refine bodyPost_ret (results_tmp2 Tryd.results29 _ _ _) rfl ?_
      exact RNumP.mk (by rw [HE.out]; rfl) (fun m hm => by rw [HE.out] at hm; cases hm) (Below.refl _ _)
    have hdb : decide ((1099511627776 : Int) < (n' : Int)) = false := decide_eq_false (by omega)
    go_wp2_with fail
    go_roundw
    case rel => exact ⟨j + 1, n', by omega, by go_num, by go_num, by rw [HST.out, if_neg hbig], by omega, trivial⟩
    case measure => simp [intOf]; omega
theorem bs_mid {l : List UInt8} {i j : Nat} (hi : i ≤ j) (hj : j ≤ l.length) (t : TypeId) (ht : Tryd.prog.underlying t = some .string) (w : World) : (Instr.slice t (.string (bs l)) (some (.int .i64 (i : Int))) (some (.int .i64 (j : Int))) none).run Tryd.prog w = .ok (.string (bs ((l.drop i).take (j - i)))) w := by
  rw [run_slice_string (h := ht) (h0 := by omega) (h1 := by omega) (h2 := by rw [bs_size]; omega), Int.toNat_natCast, Int.toNat_natCast]
  congr 2
  apply ByteArray.ext
  rw [ByteArray.data_extract]
  simp [bs, List.drop_take]
end Go.Proofs.YtojlibeecpmbnaaDoor
