/- ofOneEpoch. -/
import Derived.Test.YtjkojjimlebmjaaDoorChk1
import Derived.Deep.QuietTactic
import Derived.BigQuiet
import Derived.LoopTactic
namespace Go.Proofs.YtjkojjimlebmjaaDoor
open Go.RowKit
set_option linter.unusedVariables false

theorem ge_some {l : List Shr} {k : Nat} (h : k < l.length) : l[k]? = some l[k] := List.getElem?_eq_getElem h
/-- What the first k shares say of the epoch. -/
def sameEp (e : Int) (l : List Shr) : Bool := l.all fun u => decide (u.ep = e)
theorem sameEp_take (e : Int) (l : List Shr) (k : Nat) (h : k < l.length) : sameEp e (l.take (k + 1)) = (sameEp e (l.take k) && decide ((l[k]'h).ep = e)) := by
  unfold sameEp
  rw [List.take_succ_eq_append_getElem h, List.all_append]
  simp
theorem sameEp_no (e : Int) (l : List Shr) (k : Nat) (h : k < l.length) (hne : (l[k]'h).ep ≠ e) : sameEp e l = false := by
  unfold sameEp
  rw [List.all_eq_false]
  exact ⟨l[k], List.getElem_mem h, by simpa using hne⟩

set_option maxHeartbeats 1000000 in
set_option maxRecDepth 100000 in
theorem one_any (A : Option Addr) (c : Nat) (l : List Shr) (s0 : Shr) (w : World) (hS : SS w A l c) (h0 : l[0]? = some s0) (hl : l.length ≤ 1000000) :
    Calls Tryd.prog 39 #[.slice A l.length c] w fun e w' => e = .returned (.bool (sameEp s0.ep l && decide (0 ≤ s0.ep ∧ s0.ep ≤ 1048576))) ∧ Below w.heap.size w w' := by
  have hp : 0 < l.length := (List.getElem?_eq_some_iff.1 h0).1
  obtain ⟨b, off, rfl, hb, hat⟩ := hS.1 hp
  have H0 := Lib.hid (hat 0 s0 h0)
  have HAT := Lib.hid hat
  have HT := Lib.hid (fun k h => sameEp_take s0.ep l k h)
  have HN := Lib.hid (fun k h => sameEp_no s0.ep l k h)
  have HW : Hid (l.take l.length = l) := List.take_length
  clear hS hat h0
  obtain ⟨n, hn⟩ : ∃ n, l.length = n := ⟨_, rfl⟩
  have HL := Lib.hid hn
  rw [hn] at hp hl ⊢
  rw [hn] at HW
  clear hn
  go_enter Tryd.func39, Tryd.ntmps39
  go_wp2_with fail
  go_loopw [7] (fun i wr => ∃ k : Nat, k ≤ n ∧ i = .int .i64 k ∧ sameEp s0.ep (l.take k) = true ∧ Below w.heap.size w wr) (fun i _ => n - (intOf i).toNat)
  case atStart => exact ⟨0, Nat.zero_le _, rfl, rfl, Below.refl _ _⟩
  case round =>
    obtain ⟨k, hk, rfl, hse, hbw⟩ := hrel
    have HSE := Lib.hid (And.intro hse hbw)
    clear hse hbw
    by_cases hlt : k < n
    · have hlk : k < l.length := by rw [HL.out]; exact hlt
      obtain ⟨A1, c1, k0, k1, k2, k3, k4, hs1⟩ := (HAT.out k _ (ge_some hlk)).up hb HSE.out.2
      obtain ⟨A2, c2, z0, z1, z2, z3, z4, hs2⟩ := H0.out.up hb HSE.out.2
      have HTK := HT.out k hlk
      have HNK := HN.out k hlk
      generalize l[k] = s at *
      rw [HSE.out.1] at HTK
      have HX := Lib.hid (And.intro HTK HNK)
      simp only [Nat.zero_mul, Nat.add_zero] at z0 z1 z2 z3 z4
      have hbb := HSE.out.2.alloc HSE.out.2.size (.cells #[.int .i64 s.ep, .int .i64 s.ix, .int .i64 s.th, .int .i64 s.mn, .slice A1 s.data.length c1] 36)
      have z0' := (((Below.refl wr.heap.size wr).alloc (Nat.le_refl _) (.cells #[.int .i64 s.ep, .int .i64 s.ix, .int .i64 s.th, .int .i64 s.mn, .slice A1 s.data.length c1] 36)).cell (p := ⟨b, off, none⟩) (Nat.lt_of_lt_of_le hb HSE.out.2.size)).trans z0
      have HBB := Lib.hid hbb
      have i1 : (0 : Int) < (n : Int) := by omega
      clear hs1 hs2 z1 z2 z3 z4 HTK HNK hbb
      obtain ⟨e1, x1, t1, m1, d1⟩ := s
      obtain ⟨e0, x0, t0, m0, d0⟩ := s0
      simp only at *
      generalize d1.length = dl at *
      by_cases he : e1 = e0
      · subst he
        go_wp2_with fail
        go_quiet (fail)
        go_wp2_with fail
        go_roundw
        case rel => exact ⟨k + 1, by omega, by go_num, by rw [HX.out.1]; simp, HBB.out.trans ((below_drewN _ _).mono HBB.out.size)⟩
        case measure => simp [intOf]; omega
      · have hd : (e1 != e0) = true := by simpa using he
        have HE := Lib.hid (HX.out.2 he)
        clear he
        go_wp2_with fail
        go_quiet (fail)
        go_wp2_with fail
        go_ret
        exact ⟨ret_bool (by rw [HE.out]; rfl), HBB.out.trans ((below_drewN _ _).mono HBB.out.size)⟩
    · obtain rfl : k = n := by omega
      obtain ⟨A2, c2, z0, z1, z2, z3, z4, hs2⟩ := H0.out.up hb HSE.out.2
      simp only [Nat.zero_mul, Nat.add_zero] at z0 z1 z2 z3 z4
      have hfin : sameEp s0.ep l = true := by
        have := HSE.out.1
        rwa [HW.out] at this
      have HF := Lib.hid hfin
      have i1 : (0 : Int) < (k : Int) := by omega
      clear z1 z2 z3 z4 hs2 hfin
      go_wp2_with fail
      refine (ep_any _ _).mono ?_
      rintro e w5 ⟨rfl, rfl⟩
      go_wp2_with fail
      go_ret
      exact ⟨ret_bool (by rw [HF.out]; simp), HSE.out.2⟩
end Go.Proofs.YtjkojjimlebmjaaDoor
