/- The reference's Order and Same. -/
import Derived.Test.YtobchecnfkocdaaRCo
import Derived.Test.YtobchecnfkocdaaTail
import Derived.Deep.QuietTactic
import Derived.Deep.RegionHeld3
import Derived.Deep.Cut
import Derived.Deep.CutRange
import Derived.LoopTactic
namespace Go.Proofs.Ytobchecnfkocdaa
open Go.RowKit
set_option linter.unusedVariables false
set_option linter.unusedSimpArgs false

/-- The lexicographic order. -/
def ord : List Int → List Int → Int
  | [], [] => 0
  | [], _ :: _ => -1
  | _ :: _, [] => 1
  | x :: a, y :: b => if x < y then -1 else if y < x then 1 else ord a b
theorem ord_self : ∀ a : List Int, ord a a = 0
  | [] => rfl
  | x :: a => by
    unfold ord
    rw [if_neg (by omega), if_neg (by omega)]
    exact ord_self a
theorem ord_zero : ∀ {a b : List Int}, ord a b = 0 → a = b
  | [], [], _ => rfl
  | [], _ :: _, h => by unfold ord at h; omega
  | _ :: _, [], h => by unfold ord at h; omega
  | x :: a, y :: b, h => by
    unfold ord at h
    split at h
    · omega
    · split at h
      · omega
      · rw [ord_zero h, show x = y by omega]
theorem ord_drop {a b : List Int} {j : Nat} {x y : Int} (hx : a[j]? = some x) (hy : b[j]? = some y) : ord (a.drop j) (b.drop j) = if x < y then -1 else if y < x then 1 else ord (a.drop (j + 1)) (b.drop (j + 1)) := by
  obtain ⟨h1, rfl⟩ := List.getElem?_eq_some_iff.1 hx
  obtain ⟨h2, rfl⟩ := List.getElem?_eq_some_iff.1 hy
  rw [List.drop_eq_getElem_cons h1, List.drop_eq_getElem_cons h2]
  rfl
theorem ord_end {a b : List Int} {j : Nat} (h : ¬ (j < a.length ∧ j < b.length)) (h1 : j ≤ a.length) (h2 : j ≤ b.length) : ord (a.drop j) (b.drop j) = if a.length < b.length then -1 else if b.length < a.length then 1 else 0 := by
  rcases Nat.lt_trichotomy a.length b.length with h3 | h3 | h3
  · obtain rfl : j = a.length := by omega
    rw [if_pos h3, List.drop_length, List.drop_eq_getElem_cons h3]
    rfl
  · obtain rfl : j = a.length := by omega
    rw [if_neg (by omega), if_neg (by omega), List.drop_length, h3, List.drop_length]
    rfl
  · obtain rfl : j = b.length := by omega
    rw [if_neg (by omega), if_pos h3, List.drop_length, List.drop_eq_getElem_cons h3]
    rfl
def QI (z : Int) (w : World) (e : Ending) (w' : World) : Prop := e = .returned (.int .i64 z) ∧ ∃ m, w' = w.drewN m

set_option maxHeartbeats 4000000 in
set_option maxRecDepth 100000 in
theorem order_any (A : Option Addr) (c : Nat) (a : List Int) (B : Option Addr) (d : Nat) (b : List Int) (w : World) (hA : Si w A a c) (hB : Si w B b d) :
    Calls Try.prog 31 #[.slice A a.length c, .slice B b.length d] w (QI (ord a b) w) := by
  have hl1 := hA.le
  have hl2 := hB.le
  have HS := Lib.hid (And.intro hA hB)
  unfold QI
  obtain ⟨o, ho⟩ : ∃ o, ord a b = o := ⟨_, rfl⟩
  have HO := Lib.hid ho
  rw [ho]
  obtain ⟨n, hn⟩ : ∃ n, a.length = n := ⟨_, rfl⟩
  obtain ⟨m, hm⟩ : ∃ m, b.length = m := ⟨_, rfl⟩
  have HN := Lib.hid (And.intro hn hm)
  rw [hn, hm]
  rw [hn] at hl1
  rw [hm] at hl2
  clear hA hB ho hn hm
  go_enter Try.func31, Try.ntmps31
  go_wp2_with fail
  go_loopw [5] (fun i wr => ∃ j : Nat, j ≤ n ∧ j ≤ m ∧ i = .int .i64 (j : Int) ∧ ord (a.drop j) (b.drop j) = o ∧ ∃ q, wr = w.drewN q) (fun i _ => n - (intOf i).toNat)
  case atStart => exact ⟨0, Nat.zero_le _, Nat.zero_le _, rfl, HO.out, 0, rfl⟩
  case round =>
    obtain ⟨j, hj, hk, rfl, hoj, q, rfl⟩ := hrel
    have HOJ := Lib.hid hoj
    clear hoj
    by_cases hlt : j < n ∧ j < m
    case neg =>
      have he := ord_end (a := a) (b := b) (j := j) (by rw [HN.out.1, HN.out.2]; exact hlt) (by rw [HN.out.1]; exact hj) (by rw [HN.out.2]; exact hk)
      rw [HN.out.1, HN.out.2, HOJ.out] at he
      have HE := Lib.hid he
      clear he
      have hfin : ∀ (z : Int), o = z → (Ending.returned (.int .i64 z) = .returned (.int .i64 o) ∧ ∃ m, w.drewN q = w.drewN m) := fun z h => ⟨by rw [h], q, rfl⟩
      have HF := Lib.hid hfin
      clear hfin
      by_cases hjn : j < n
      · have d0 : decide ((j : Int) < (n : Int)) = true := decide_eq_true (by omega)
        have d1 : decide ((j : Int) < (m : Int)) = false := decide_eq_false (by omega)
        have d2 : decide ((n : Int) < (m : Int)) = false := decide_eq_false (by omega)
        have d3 : decide ((m : Int) < (n : Int)) = true := decide_eq_true (by omega)
        have HZ := Lib.hid (show o = 1 from by rw [HE.out, if_neg (by omega), if_pos (by omega)])
        go_wp2_with fail
        go_ret
        exact HF.out _ HZ.out
      · have d0 : decide ((j : Int) < (n : Int)) = false := decide_eq_false (by omega)
        by_cases hnm : n < m
        · have d2 : decide ((n : Int) < (m : Int)) = true := decide_eq_true (by omega)
          have HZ := Lib.hid (show o = -1 from by rw [HE.out, if_pos hnm])
          go_wp2_with fail
          go_ret
          exact HF.out _ HZ.out
        · have d2 : decide ((n : Int) < (m : Int)) = false := decide_eq_false (by omega)
          have d3 : decide ((m : Int) < (n : Int)) = false := decide_eq_false (by omega)
          have HZ := Lib.hid (show o = 0 from by rw [HE.out, if_neg hnm, if_neg (by omega)])
          go_wp2_with fail
          go_ret
          exact HF.out _ HZ.out
    have d0 : decide ((j : Int) < (n : Int)) = true := decide_eq_true (by omega)
    have d1 : decide ((j : Int) < (m : Int)) = true := decide_eq_true (by omega)
    obtain ⟨x, hx⟩ : ∃ x, a[j]? = some x := ⟨_, List.getElem?_eq_getElem (by rw [HN.out.1]; exact hlt.1)⟩
    obtain ⟨y, hy⟩ : ∃ y, b[j]? = some y := ⟨_, List.getElem?_eq_getElem (by rw [HN.out.2]; exact hlt.2)⟩
    obtain ⟨ba, oa, rfl, hba, z0⟩ := HS.out.1.at_ hx
    obtain ⟨bb, ob, rfl, hbb, z1⟩ := HS.out.2.at_ hy
    have hst := ord_drop hx hy
    rw [HOJ.out] at hst
    have HST := Lib.hid hst
    have i0 : (0 : Int) ≤ (j : Int) := by omega
    have i1 : (j : Int) < (n : Int) := by omega
    have i2 : (j : Int) < (m : Int) := by omega
    have hfin : ∀ (r : Nat) (z : Int), o = z → (Ending.returned (.int .i64 z) = .returned (.int .i64 o) ∧ ∃ m, ((w.drewN q).drewN r) = w.drewN m) := fun r z h => ⟨by rw [h], q + r, by rw [World.drewN_drewN]⟩
    have HF := Lib.hid hfin
    have hfin2 : ∀ (r : Nat) (z : Int), o = z → (Ending.returned (.int .i64 z) = .returned (.int .i64 o) ∧ ∃ m, w.drewN r = w.drewN m) := fun r z h => ⟨by rw [h], r, rfl⟩
    have HF2 := Lib.hid hfin2
    have HDD := Lib.hid (fun r => (World.drewN_drewN w q r))
    have z0 : (w.drewN q).cell? ⟨ba, oa + j, none⟩ = some (.int .i64 x) := z0
    have z1 : (w.drewN q).cell? ⟨bb, ob + j, none⟩ = some (.int .i64 y) := z1
    clear hx hy hba hbb hst hlt hfin hfin2
    by_cases hxy : x < y
    · have e0 : decide (x < y) = true := decide_eq_true hxy
      have HZ := Lib.hid (show o = -1 from by rw [HST.out, if_pos hxy])
      go_upto_region 4 with fail
      go_quiet (fail)
      go_wp2_with fail
      go_ret
      exact HF.out _ _ HZ.out
    have e0 : decide (x < y) = false := decide_eq_false hxy
    by_cases hyx : y < x
    · have e1 : decide (y < x) = true := decide_eq_true hyx
      have HZ := Lib.hid (show o = 1 from by rw [HST.out, if_neg hxy, if_pos hyx])
      go_upto_region 4 with fail
      go_quiet (fail)
      go_upto_region 6 with fail
      go_quiet (fail)
      go_wp2_with fail
      go_ret
      exact HF2.out _ _ HZ.out
    have e1 : decide (y < x) = false := decide_eq_false hyx
    have HZ := Lib.hid (show ord (a.drop (j + 1)) (b.drop (j + 1)) = o from by rw [HST.out, if_neg hxy, if_neg hyx])
    go_upto_region 4 with fail
    go_quiet (fail)
    go_upto_region 6 with fail
    go_quiet (fail)
    go_wp2_with fail
    go_roundw
    case rel =>
      exact ⟨j + 1, by omega, by omega, by go_num, HZ.out, _, rfl⟩
    case measure => simp [intOf]; omega
theorem same_any (A : Option Addr) (c : Nat) (a : List Int) (B : Option Addr) (d : Nat) (b : List Int) (w : World) (hA : Si w A a c) (hB : Si w B b d) :
    Calls Try.prog 17 #[.slice A a.length c, .slice B b.length d] w (fun e w' => e = .returned (.bool (decide (a = b))) ∧ ∃ m, w' = w.drewN m) := by
  have HO := Lib.hid (order_any A c a B d b w hA hB)
  unfold QI at HO
  by_cases h : a = b
  · rw [decide_eq_true h]
    subst h
    rw [ord_self] at HO
    generalize a.length = n at *
    go_enter Try.func17, Try.ntmps17
    go_wp2_with fail
    refine HO.out.mono ?_
    rintro e w1 ⟨rfl, hb⟩
    have HB := Lib.hid hb
    clear hb
    go_wp2_with fail
    go_ret
    exact ⟨rfl, HB.out⟩
  · rw [decide_eq_false h]
    have hz : (ord a b == 0) = false := by rw [beq_eq_false_iff_ne]; exact fun e => h (ord_zero e)
    have hz2 : ¬ ord a b = 0 := fun e => h (ord_zero e)
    generalize ord a b = z at *
    generalize a.length = n at *
    generalize b.length = m at *
    go_enter Try.func17, Try.ntmps17
    go_wp2_with fail
    refine HO.out.mono ?_
    rintro e w1 ⟨rfl, hb⟩
    have HB := Lib.hid hb
    clear hb
    go_wp2_with fail
    go_ret
    exact ⟨rfl, HB.out⟩
end Go.Proofs.Ytobchecnfkocdaa
