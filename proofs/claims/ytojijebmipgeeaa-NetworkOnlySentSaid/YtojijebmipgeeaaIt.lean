/- others, slices.AppendSeq, slices.Collect. -/
import Derived.RangeFuncNested
import Derived.RangeFuncBound
import Derived.RangeFuncCalls
import Derived.RangeFuncLeaves
import Derived.RangeFuncBox
import Derived.Shelf.Abstract
import Derived.Shelf.RegionOpen
import Derived.WalkKit
import Derived.OwnWalkIn
import Derived.TacticsInMore
import Derived.LoopNIn
import Derived.LoopIn
import Derived.Maps.AppendAt
import Derived.Test.YtojijebmipgeeaaCk
namespace Go.Proofs.Ytojijebmipgeeaa
open Go.RowKit Go.Shelf
set_option linter.unusedVariables false

attribute [local go_sem] Oper.semAt_some
attribute [local go_sem ↓] eql_pair neq_pair
attribute [local go_sem] guard_pair

theorem oth_snoc (l : List (Int × Int)) (x y : Int × Int) : oth (l ++ [y]) x = oth l x ++ (if y == x then [] else [y]) := by
  unfold oth
  rw [List.filter_append]
  cases h : y == x <;> simp [h]
theorem oth_le (l : List (Int × Int)) (x : Int × Int) : (oth l x).length ≤ l.length := List.length_filter_le _ _
theorem take_snoc' {α : Type} {l : List α} {k : Nat} {y : α} (h : l[k]? = some y) : l.take (k + 1) = l.take k ++ [y] := by
  rw [List.take_add_one, h]
  rfl
theorem neqp_beq (x y : Int × Int) : neqp x.1 x.2 y.1 y.2 = !(x == y) := rfl
def encp (x : Int × Int) : Array Value := #[.agg #[.int .i64 x.1, .int .i64 x.2]]
/-- Pairs that lie below n₀. -/
def PPn (n₀ : Nat) (W : World) (A : Option Addr) (l : List (Int × Int)) : Prop := 0 < l.length → ∃ b off, A = some ⟨b, off, none⟩ ∧ b < n₀ ∧ ∀ j u, (prc l)[j]? = some u → W.cell? ⟨b, off + j, none⟩ = some u
theorem PPn.below {n₀ : Nat} {W W' : World} {A : Option Addr} {l : List (Int × Int)} (h : PPn n₀ W A l) (hb : Below n₀ W W') : PPn n₀ W' A l := fun hp => by
  obtain ⟨b, off, e, hlt, hc⟩ := h hp
  exact ⟨b, off, e, hlt, fun j u hj => (hb.cell (p := ⟨b, off + j, none⟩) hlt).trans (hc j u hj)⟩
theorem PPn.at_ {n₀ : Nat} {W : World} {A : Option Addr} {l : List (Int × Int)} {i : Nat} {x : Int × Int} (h : PPn n₀ W A l) (hi : l[i]? = some x) : ∃ b off, A = some ⟨b, off, none⟩ ∧ W.cell? ⟨b, off + i * 2, none⟩ = some (.int .i64 x.1) ∧ W.cell? ⟨b, off + i * 2 + 1, none⟩ = some (.int .i64 x.2) := by
  have hlt := (List.getElem?_eq_some_iff.1 hi).1
  obtain ⟨b, off, e, hb, hc⟩ := h (by omega)
  obtain ⟨h1, h2⟩ := prc_at hi
  exact ⟨b, off, e, hc _ _ h1, hc _ _ h2⟩

set_option maxRecDepth 100000 in
set_option maxHeartbeats 2000000 in
theorem oth1_in (m : Nat) (hm : 1 ≤ m) (l Bl Bk n₀ c : Nat) (A : Option Addr) (L : List (Int × Int)) (x1 x2 : Int) (hl : L.length ≤ 1000000) (hBl : Bl < n₀) (hBk : Bk < n₀) (J Jx : List (Int × Int) → World → Prop)
    (hY : ∀ pre x W, J pre W → pre.length < L.length → YieldAt Fence.wide (m - 1) Try.prog l (encp x) W fun e W' =>
      (e = .returned (.bool true) ∧ J (pre ++ [x]) W' ∧ Below n₀ W W') ∨ (e = .returned (.bool false) ∧ Jx (pre ++ [x]) W'))
    (W : World) (hn₀ : n₀ ≤ W.heap.size) (hAb : AbidesFrom W.heap.size J) (h0 : W.cell? ⟨Bl, 0, none⟩ = some (.slice A L.length c)) (hk0 : W.cell? ⟨Bk, 0, none⟩ = some (.int .i64 x1)) (hk1 : W.cell? ⟨Bk, 1, none⟩ = some (.int .i64 x2)) (hP : PPn n₀ W A L) (hJ : J [] W) :
    CallsIn Fence.wide m Try.prog 48 #[.func (.yield l) #[] #[], .pointer (some ⟨Bl, 0, none⟩), .pointer (some ⟨Bk, 0, none⟩)] W fun e W' => (∃ v, e = .returned v) ∧
      ((∃ ys, ys = oth L (x1, x2) ∧ J ys W') ∨ (∃ pre : List (Int × Int), True ∧ Jx pre W')) := by
  obtain ⟨n, hn⟩ : ∃ n, L.length = n := ⟨_, rfl⟩
  have HN := Lib.hid hn
  rw [hn] at h0 hl hY
  clear hn
  have HP := Lib.hid hP
  have HG := Lib.hid (fun k (h : k < L.length) => (List.getElem?_eq_getElem h : L[k]? = some L[k]))
  have HK := Lib.hid (And.intro hk0 hk1)
  have HJA := Lib.hid hAb
  clear hP
  refine callsIn_of_wp Try.func48 rfl trivial ?_ rfl
  simp only [Try.ntmps48, List.size_toArray, List.length_cons, List.length_nil, Nat.reduceAdd, Nat.reduceSub, Array.replicate_succ, Array.replicate_zero, List.push_toArray, List.append_toArray, List.nil_append, List.cons_append]
  gi_wp2
  clear h0 hk0 hk1 hAb
  gi_loopw [8] (fun i wr => ∃ k : Nat, k ≤ n ∧ i = .int .i64 k ∧ J (oth (L.take k) (x1, x2)) wr ∧ Below n₀ W wr) (fun i _ => n - (intOf i).toNat)
  case atStart => exact ⟨0, Nat.zero_le _, rfl, hJ, Below.refl _ _⟩
  case round =>
    obtain ⟨k, hk, rfl, hJs, hb⟩ := hrel
    by_cases hlt : k < n
    · have hkl : k < L.length := by have := HN.out; omega
      obtain ⟨b, off, rfl, g0, g1⟩ := (HP.out.below hb).at_ (HG.out k hkl)
      obtain ⟨y, hy⟩ : ∃ y, L[k]'hkl = y := ⟨_, rfl⟩
      have HY := Lib.hid ((HG.out k hkl).trans (congrArg some hy))
      rw [hy] at g0 g1
      clear hy
      obtain ⟨y1, y2⟩ := y
      simp only at g0 g1
      have q0 := (hb.cell (p := ⟨Bk, 0, none⟩) hBk).trans HK.out.1
      have q1 := (hb.cell (p := ⟨Bk, 1, none⟩) hBk).trans HK.out.2
      have hsz : n₀ ≤ wr.heap.size := Nat.le_trans hn₀ hb.size
      have hba : Below n₀ wr (wr.alloc (.cells #[.int .i64 y1, .int .i64 y2] 55)) := (Below.refl _ wr).alloc hsz _
      have HB2 := Lib.hid (hb.trans hba)
      have hJ2 : J (oth (L.take k) (x1, x2)) (wr.alloc (.cells #[.int .i64 y1, .int .i64 y2] 55)) := HJA.out _ _ _ none hJs (World.grownBy_alloc wr _ none) (fun r e => by cases e)
      have HSN := Lib.hid (take_snoc' HY.out)
      have hlen : (oth (L.take k) (x1, x2)).length < n := by
        have h1 := oth_le (L.take k) (x1, x2)
        rw [List.length_take] at h1
        omega
      have q0' := (hba.cell (p := ⟨Bk, 0, none⟩) hBk).trans q0
      have q1' := (hba.cell (p := ⟨Bk, 1, none⟩) hBk).trans q1
      have hnb : neqp y1 y2 x1 x2 = !((y1, y2) == (x1, x2)) := rfl
      cases hng : neqp y1 y2 x1 x2
      · rw [hng] at hnb
        have HO := Lib.hid (show oth (L.take (k + 1)) (x1, x2) = oth (L.take k) (x1, x2) by
          rw [HSN.out, oth_snoc]
          have : ((y1, y2) == (x1, x2)) = true := by simpa using hnb
          rw [if_pos this, List.append_nil])
        have HJ2 := Lib.hid hJ2
        clear hJ2 hnb hJs hb
        gi_wp2
        refine ⟨fun _ h => (by cases h), ?_⟩
        gi_wp2
        go_roundw
        case rel => exact ⟨k + 1, by omega, by go_num, by rw [HO.out]; exact HJ2.out, HB2.out⟩
        case measure => simp [intOf]; omega
      · rw [hng] at hnb
        have HO := Lib.hid (show oth (L.take (k + 1)) (x1, x2) = oth (L.take k) (x1, x2) ++ [(y1, y2)] by
          rw [HSN.out, oth_snoc]
          have : ((y1, y2) == (x1, x2)) = false := by simpa using hnb
          rw [if_neg (by rw [this]; simp)])
        obtain ⟨fn, tmps, assign, body, hy, hR⟩ := hY _ (y1, y2) _ hJ2 hlen
        dsimp only [encp] at hy
        clear hnb hJs hb
        gi_wp2
        refine hR.mono ?_
        rintro e W3 (⟨rfl, hJ3, hk3⟩ | ⟨rfl, hJx3⟩)
        · gi_wp2
          go_roundw
          case rel => exact ⟨k + 1, by omega, by simp, by rw [HO.out]; exact hJ3, HB2.out.trans hk3⟩
          case measure => simp [intOf]; omega
        · gi_wp2
          refine bodyPost_ret (results_none rfl _ _ _) rfl ?_
          exact ⟨⟨_, rfl⟩, .inr ⟨_, trivial, hJx3⟩⟩
    · obtain rfl : k = n := by omega
      have HT := Lib.hid (show L.take k = L from List.take_of_length_le (by rw [HN.out]; exact Nat.le_refl _))
      rw [HT.out] at hJs
      gi_wp2
      go_end0
      exact ⟨⟨_, rfl⟩, .inl ⟨_, rfl, hJs⟩⟩

theorem oth_stops (m : Nat) (hm : 1 ≤ m) (Bl Bk n₀ c : Nat) (A : Option Addr) (L : List (Int × Int)) (x1 x2 : Int) (hl : L.length ≤ 1000000) (hBl : Bl < n₀) (hBk : Bk < n₀)
    (w : World) (hn₀ : n₀ ≤ w.heap.size) (h0 : w.cell? ⟨Bl, 0, none⟩ = some (.slice A L.length c)) (hk0 : w.cell? ⟨Bk, 0, none⟩ = some (.int .i64 x1)) (hk1 : w.cell? ⟨Bk, 1, none⟩ = some (.int .i64 x2)) (hP : PPn n₀ w A L) :
    SeqStopsK Fence.wide m Try.prog 48 #[.pointer (some ⟨Bl, 0, none⟩), .pointer (some ⟨Bk, 0, none⟩)] encp (Below n₀) (fun ys => ys = oth L (x1, x2)) (fun _ => True) L.length w := fun l J Jx W hW hJ hJx hY hJ0 =>
  oth1_in m hm l Bl Bk n₀ c A L x1 x2 hl hBl hBk J Jx hY W (Nat.le_trans hn₀ hW.size) hJ
    ((hW.cell (p := ⟨Bl, 0, none⟩) (Nat.lt_of_lt_of_le hBl hn₀)).trans h0) ((hW.cell (p := ⟨Bk, 0, none⟩) (Nat.lt_of_lt_of_le hBk hn₀)).trans hk0) ((hW.cell (p := ⟨Bk, 1, none⟩) (Nat.lt_of_lt_of_le hBk hn₀)).trans hk1)
    (hP.below ⟨hW.os, hW.tape, hW.output, hW.size, fun k hk => hW.block k (by omega)⟩) hJ0

theorem others_any (A : Option Addr) (n c : Nat) (x1 x2 : Int) (w : World) :
    Calls Try.prog 37 #[.slice A n c, .agg #[.int .i64 x1, .int .i64 x2]] w fun e w' => e = .returned (.func (.func 48) #[] #[.pointer (some ⟨w.heap.size, 0, none⟩), .pointer (some ⟨w.heap.size + 1, 0, none⟩)]) ∧
      (w.alloc (.cells #[.slice A n c] 23)).alloc (.cells #[.int .i64 x1, .int .i64 x2] 55) = w' := by
  go_enter Try.func37, Try.ntmps37
  go_wp2_with fail
  go_ret
  exact ⟨rfl, rfl⟩

/-- A row of the call's own with pairs. -/
def OwnP (base : Nat) (l : List (Int × Int)) (w : World) (e : Ending) (w' : World) : Prop := ∃ v, e = .returned v ∧ w'.ownsRow base 55 2 v l.length (prc l) ∧ Below w.heap.size w w'

set_option maxRecDepth 100000 in
set_option maxHeartbeats 4000000 in
theorem appendSeq_in (Bl Bk c : Nat) (A : Option Addr) (L : List (Int × Int)) (x1 x2 : Int) (hl : L.length ≤ 1000000)
    (w : World) (hBl : Bl < w.heap.size) (hBk : Bk < w.heap.size) (h0 : w.cell? ⟨Bl, 0, none⟩ = some (.slice A L.length c)) (hk0 : w.cell? ⟨Bk, 0, none⟩ = some (.int .i64 x1)) (hk1 : w.cell? ⟨Bk, 1, none⟩ = some (.int .i64 x2)) (hP : PPn w.heap.size w A L) :
    CallsIn Fence.wide 5 Try.prog 47 #[.slice none 0 0, .func (.func 48) #[] #[.pointer (some ⟨Bl, 0, none⟩), .pointer (some ⟨Bk, 0, none⟩)]] w (OwnP w.heap.size (oth L (x1, x2)) w) := by
  obtain ⟨i0, hi0, hz0, hz1, hz2⟩ := info_parts pr_info
  refine callsIn_of_wp_marks Try.func47 rfl trivial ?_ rfl
  simp only [Try.ntmps47, List.size_toArray, List.length_cons, List.length_nil, Nat.reduceAdd, Nat.reduceSub, Array.replicate_succ, Array.replicate_zero, List.push_toArray, List.append_toArray, List.nil_append, List.cons_append]
  have hst := oth_stops (5 - 1) (by decide) Bl Bk w.heap.size c A L x1 x2 hl hBl hBk w (Nat.le_refl _) h0 hk0 hk1 hP
  clear h0 hk0 hk1 hP
  unfold OwnP
  have hno : ∀ W : World, ∀ Bx cs t, Box W Bx cs t → ∀ W' row, W.grownBy W' row → (∀ r, row = some r → w.heap.size + 1 ≤ r ∧ ∃ o : Obj, W.heap[r]? = some o ∧ o.isCells = false) → Box W' Bx cs t := fun W Bx cs t hx W' row hg hr => hx.grown hg (fun e => by
    obtain ⟨_, o, ho, hc⟩ := hr Bx e.symm
    rw [show W.heap[Bx]? = _ from hx] at ho
    cases ho
    cases hc)
  have HNO := Lib.hid hno
  have HL := Lib.hid hl
  clear hno
  gi_wp2
  have bS := Boxed.new w 23 (.slice none 0 0)
  have hB0 : Below w.heap.size w (w.alloc (.cells #[.slice none 0 0] 23)) := (Below.refl _ w).alloc (Nat.le_refl _) _
  refine wpIn_rangeFunc_ownH rfl (by decide) (gf := 48) (lb := #[.pointer (some ⟨Bl, 0, none⟩), .pointer (some ⟨Bk, 0, none⟩)]) rfl trivial (enters_of Try.func48 (by kernel_rfl) rfl)
    hst belowK_t (belowK_b (by simp)) hB0 (fun _ => rfl)
    (fun pre W => (∃ v, Boxed W w.heap.size 23 v ∧ W.ownsRow w.heap.size 55 2 v pre.length (prc pre) ∧ True) ∧ Below w.heap.size w W)
    (fun _ _ _ => False)
    (OwnFrom.and (Own.from (holdsRow_own w.heap.size w.heap.size 23 55 2 (fun pre : List (Int × Int) => pre.length) (fun pre => prc pre) (fun _ _ => True)) _) (ownFrom_below (Nat.le_refl _) (by simp)))
    (fun _ _ _ _ _ hs _ _ => hs)
    ⟨⟨_, bS, World.ownsRow_nil _ _ _ _, trivial⟩, hB0⟩
    (fun x a' W => ∃ Bx, Box W Bx #[.int .i64 x.1, .int .i64 x.2] 55 ∧ a' = { tmps := #[.slice none 0 0, .func (.func 48) #[] #[.pointer (some ⟨Bl, 0, none⟩), .pointer (some ⟨Bk, 0, none⟩)], .pointer (some ⟨w.heap.size, 0, none⟩), undef, .slice none 0 0, .pointer (some ⟨Bx, 0, none⟩), .func (.func 48) #[] #[.pointer (some ⟨Bl, 0, none⟩), .pointer (some ⟨Bk, 0, none⟩)], .agg #[.int .i64 x.1, .int .i64 x.2], undef, undef, undef, undef, undef], defers := [] })
    (fun x a' _ W W' row ⟨Bx, hx, e⟩ hg hr => ⟨Bx, HNO.out W Bx _ _ hx W' row hg (fun r h => by have := hr r h; simpa using this), e⟩) ?assign ?body ?done ?stop
  case assign =>
    rintro lp pre x W K ⟨⟨v, hv, hr, _⟩, hB⟩ hK
    dsimp only [encp]
    gi_wp2
    exact hK _ _ ((KeepsOthers.alloc _ _).from _) ((Below.refl w.heap.size W).alloc hB.size _) ⟨⟨v, hv.alloc _, hr.alloc _, trivial⟩, hB.trans ((Below.refl w.heap.size W).alloc hB.size _)⟩ ⟨W.heap.size, Box.new W _ _, rfl⟩
  case body =>
    rintro lp pre ⟨x1, x2⟩ a' W hlp _ ⟨⟨v, hv, hrow, _⟩, hB⟩ ⟨Bx, hX, rfl⟩ hlt
    have c0 := hX.cell 0
    have c1 := hX.cell 1
    simp only [List.getElem?_toArray, List.getElem?_cons_zero, List.getElem?_cons_succ] at c0 c1
    have hvc := hv.cell
    have hvf := hv.frozen
    have hle : w.heap.size ≤ w.heap.size := Nat.le_refl _
    have HPL := Lib.hid (show pre.length + 1 ≤ 1000000 by have := HL.out; omega)
    have HPA := Lib.hid (prc_app pre [(x1, x2)])
    gi_wp2_with (gi_at_builtin; refine wpListIn_append_own _ rfl _ _ 23 rfl w.heap.size 55 i0 (.agg #[.int .i64 0, .int .i64 0]) 2 16 Try.underlying23 hi0 hz0 hz1 hz2 rfl (by decide) _ _ _ rfl (hrow.alloc _) ⟨W.heap.size, 0, none⟩ 1 1 [.int .i64 x1, .int .i64 x2] rfl rfl (World.news_of_block (Box.new W #[.int .i64 x1, .int .i64 x2] 55)) (by simp [Value.oneCell']) (le_maxLen (by have := HPL.out; omega)) (by have := HPL.out; omega) (by have := hB.size; simp; omega) ?_; intro v' w1 hown' hgrow _; obtain ⟨g', cap', rfl⟩ := ownsRow_succ hown'; obtain ⟨hv1, hv2, hr2, hk2, hb2⟩ := hv.appended (by decide) hrow hB.size hle hown' hgrow; have hc1 := hv1.cell; have hf1 := hv1.frozen)
    have hr3 : (w1.setCell ⟨w.heap.size, 0, none⟩ (.slice (some ⟨g', 0, none⟩) (pre.length + 1) cap')).ownsRow w.heap.size 55 2 (.slice (some ⟨g', 0, none⟩) (pre.length + 1) cap') (pre ++ [(x1, x2)]).length (prc (pre ++ [(x1, x2)])) := by
      rw [HPA.out, List.length_append]
      exact hr2
    exact ⟨hk2.from _, hb2, ⟨_, hv2, hr3⟩, hB.trans hb2⟩
  case done =>
    rintro D ys W hD rfl ⟨⟨v, hv, hr, _⟩, hB⟩ hK
    have hvc := hv.cell
    gi_wp2
    refine ⟨by simp, .inl ⟨_, _, rfl, run_takeDeferred hK, ?_⟩⟩
    exact ⟨_, results_tmp rfl _ _ _, v, rfl, ownsRow_putObj hr _ hK rfl, hB.trans (belowK_b (w := w) (Nat.le_refl _) W D _ _ (by simp at hD; omega) hK rfl rfl)⟩
  case stop =>
    rintro D c pre W _ _ h _
    exact h.elim

set_option maxRecDepth 100000 in
set_option maxHeartbeats 2000000 in
theorem collect_any (Bl Bk c : Nat) (A : Option Addr) (L : List (Int × Int)) (x1 x2 : Int) (hl : L.length ≤ 1000000)
    (w : World) (hBl : Bl < w.heap.size) (hBk : Bk < w.heap.size) (h0 : w.cell? ⟨Bl, 0, none⟩ = some (.slice A L.length c)) (hk0 : w.cell? ⟨Bk, 0, none⟩ = some (.int .i64 x1)) (hk1 : w.cell? ⟨Bk, 1, none⟩ = some (.int .i64 x2)) (hP : PPn w.heap.size w A L) :
    Calls Try.prog 36 #[.func (.func 48) #[] #[.pointer (some ⟨Bl, 0, none⟩), .pointer (some ⟨Bk, 0, none⟩)]] w (OwnP w.heap.size (oth L (x1, x2)) w) := by
  have HA := Lib.hid (callsIn_wide.1 (appendSeq_in Bl Bk c A L x1 x2 hl w hBl hBk h0 hk0 hk1 hP))
  clear h0 hk0 hk1 hP
  unfold OwnP at *
  go_enter Try.func36, Try.ntmps36
  go_wp2_with (refine HA.out.mono ?_; rintro e w1 ⟨v, rfl, hr, hb⟩)
  go_ret
  exact ⟨v, rfl, hr, hb⟩
end Go.Proofs.Ytojijebmipgeeaa
