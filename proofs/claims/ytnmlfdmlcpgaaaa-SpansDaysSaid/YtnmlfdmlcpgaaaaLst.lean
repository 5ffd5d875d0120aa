/- The statements' own list; Same; Few. -/
import Derived.Test.YtnmlfdmlcpgaaaaList
import Derived.Test.YtnmlfdmlcpgaaaaTail
import Derived.LoopTactic
import Derived.Deep.RegionHeld3
namespace Go.Proofs.Ytnmlfdmlcpgaaaa
open Go.RowKit
set_option linter.unusedVariables false

/-- Pairs of numbers. -/
def prs : List Int → List (Int × Int)
  | a :: b :: r => (a, b) :: prs r
  | _ => []
theorem prs_get : ∀ (zs : List Int) (k : Nat) (a b : Int), zs[2 * k]? = some a → zs[2 * k + 1]? = some b → (prs zs)[k]? = some (a, b)
  | [], k, a, b, h, _ => by simp at h
  | [x], k, a, b, _, h => by simp at h
  | x :: y :: r, 0, a, b, h, h' => by
    simp at h h'
    subst h h'
    rfl
  | x :: y :: r, k + 1, a, b, h, h' => by
    have e1 : r[2 * k]? = some a := by rw [show 2 * (k + 1) = 2 * k + 1 + 1 by omega] at h; simpa using h
    have e2 : r[2 * k + 1]? = some b := by rw [show 2 * (k + 1) + 1 = 2 * k + 1 + 1 + 1 by omega] at h'; simpa using h'
    have := prs_get r k a b e1 e2
    simpa [prs] using this
theorem prs_length : ∀ (zs : List Int), (prs zs).length = zs.length / 2
  | [] => rfl
  | [x] => by simp [prs]
  | x :: y :: r => by
    have := prs_length r
    simp only [prs, List.length_cons, this]
    omega
theorem take_next {α : Type} (l : List α) (k : Nat) (x : α) (h : l[k]? = some x) : l.take (k + 1) = l.take k ++ [x] := by
  obtain ⟨hlt, he⟩ := List.getElem?_eq_some_iff.1 h
  rw [List.take_succ_eq_append_getElem hlt, he]

/-- append of one span, in a region that draws. -/
theorem step_append_sp {base : Nat} {w : World} {ops : Array Oper} {o : Oper} {a : Act} {K : Act → World → Prop} {Q : Exit → Act → World → Prop} {E : Prop} (hgd : o.guard = none) (s x : Operand)
    (ho : o.op = .call { callee := .builtin .append, args := #[s, x], argTypes := #[22, 22] })
    (v : Value) (n : Nat) (xs : List Value) (hs : a.eval s = v) (hown : w.ownsRow base 31 2 v n xs)
    (g : Nat) (p q : Value) (hp : p.oneCell' = true) (hq : q.oneCell' = true) (hx : a.eval x = .slice (some ⟨g, 0, none⟩) 1 1) (hb : Box w g #[p, q] 31) (hn : n ≤ 1000000) (hbase : base ≤ w.heap.size)
    (h : ∀ A' c' w', w'.ownsRow base 31 2 (.slice A' (n + 1) c') (n + 1) (xs ++ [p, q]) → w.grownBy w' v.ownBlock → K (a.put o.dst (.slice A' (n + 1) c')) w') :
    if Region.wanted o (yielded ops a.tmps) = true then Oper.wp Try.prog o a w K Q else E := by
  have hw : Region.wanted o (yielded ops a.tmps) = true := by simp [Region.wanted, hgd]
  rw [if_pos hw]
  obtain ⟨i0, hi0, hz0, hz1, hz2⟩ := info_parts span_info
  refine wp_append_own w s x 22 ho base 31 i0 (.agg #[.int .i64 0, .int .i64 0]) 2 16 Try.underlying22 hi0 hz0 hz1 hz2 rfl (by decide) v n xs hs hown ⟨g, 0, none⟩ 1 1 [p, q] hx rfl (World.news_of_block (cs := #[p, q]) hb) (by simp [hp, hq]) (le_maxLen (by omega)) (by omega) hbase ?_
  intro v' w' ho' hg' _
  obtain ⟨A1, c1, rfl⟩ := own_form ho'
  exact h A1 c1 w' ho' hg'

set_option maxHeartbeats 1000000 in
set_option maxRecDepth 100000 in
theorem mklist_any (zs : List Int) (g c : Nat) (t : TypeId) (w : World) (hx : Box w g (zs.map (Value.int .i64)).toArray t) (hl : zs.length ≤ 1000) :
    Calls Try.prog 24 #[.slice (some ⟨g, 0, none⟩) zs.length c] w (RowPost (prs zs) w) := by
  obtain ⟨i0, hi, hz0, hz1, hz2⟩ := info_parts span_info
  have HX := Lib.hid hx
  have hpl := prs_length zs
  have HPL := Lib.hid hpl
  clear hx hpl
  go_enter Try.func24, Try.ntmps24
  go_wp2_with fail
  go_loopw [2, 3] (fun v i wr => ∃ k : Nat, 2 * k ≤ zs.length ∧ i = .int .i64 ((2 * k : Nat) : Int) ∧ wr.ownsRow w.heap.size 31 2 v k (svs ((prs zs).take k)) ∧ Below w.heap.size w wr) (fun _ i _ => zs.length - (intOf i).toNat)
  case atStart => exact ⟨0, by omega, rfl, World.ownsRow_nil _ _ _ _, Below.refl _ _⟩
  case round =>
    obtain ⟨k, hk, rfl, hrow, hbw⟩ := hrel
    by_cases hlt : 2 * k + 1 < zs.length
    · obtain ⟨a, ha⟩ : ∃ a, zs[2 * k]? = some a := ⟨_, List.getElem?_eq_getElem (by omega)⟩
      obtain ⟨b, hb⟩ : ∃ b, zs[2 * k + 1]? = some b := ⟨_, List.getElem?_eq_getElem (by omega)⟩
      have hg := (HX.out.below hbw)
      have hq : (zs.map (Value.int .i64)).toArray[2 * k]? = some (.int .i64 a) ∧ (zs.map (Value.int .i64)).toArray[2 * k + 1]? = some (.int .i64 b) := by
        rw [List.getElem?_toArray, List.getElem?_map, ha, List.getElem?_toArray, List.getElem?_map, hb]
        exact ⟨rfl, rfl⟩
      have c1 := (hg.cell (2 * k)).trans hq.1
      have c2 := (hg.cell (2 * k + 1)).trans hq.2
      have HQ := Lib.hid hq
      clear hq
      have hp := take_next _ _ _ (prs_get zs k a b ha hb)
      have HP := Lib.hid hp
      have HA := Lib.hid hrow
      obtain ⟨Av, cv, hv⟩ := own_form hrow
      subst hv
      have b1 : (0 : Int) ≤ ((2 * k : Nat) : Int) ∧ ((2 * k : Nat) : Int) < (zs.length : Int) := by omega
      have b2 : (0 : Int) ≤ ((2 * k : Nat) : Int) + 1 ∧ ((2 * k : Nat) : Int) + 1 < (zs.length : Int) := by omega
      clear ha hb hg hp hrow
      have hkb : k ≤ 1000 := by omega
      generalize hK : 2 * k = K at *
      have HK := Lib.hid hK
      clear hK
      have d1 : decide ((K : Int) + 1 < (zs.length : Int)) = true := decide_eq_true (by omega)
      have j2 : ((K : Int) + 1).toNat = K + 1 := by omega
      have j1 : IntKind.i64.wrap ((K : Int) + 1) = (K : Int) + 1 := IntWalk.i64_in _ (by omega)
      go_wp2_with fail
      have HB0 := Lib.hid ((below_drewN hbw 1).alloc (by have := hbw.size; exact this) (.cells #[.int .i64 a, .int .i64 b] 31))
      have HO : Hid ((wr.drew.alloc (.cells #[.int .i64 a, .int .i64 b] 31)).ownsRow w.heap.size 31 2 (.slice Av k cv) k (svs ((prs zs).take k))) := Lib.hid (World.ownsRow.alloc (w := wr.drew) HA.out _)
      have HN : Hid (Box (wr.drew.alloc (.cells #[.int .i64 a, .int .i64 b] 31)) wr.heap.size #[.int .i64 a, .int .i64 b] 31) := Lib.hid (Box.new wr.drew _ _)
      have k1 : wr.drew.cell? ⟨g, K, none⟩ = some (.int .i64 a) := c1
      have k2 : wr.drew.cell? ⟨g, K + 1, none⟩ = some (.int .i64 b) := c2
      go_region_held3 (fun w' => w'.cell? ⟨g, K, none⟩ = some (.int .i64 a) ∧ w'.cell? ⟨g, K + 1, none⟩ = some (.int .i64 b)) (first | exact ⟨k1, k2⟩ | exact ⟨k3, k4⟩ | go_keep)
        (first
          | ((refine step_append_sp (by rfl) (.tmp 11) (.tmp 22) (by rfl) _ k _ (by rfl) HO.out wr.heap.size (.int .i64 a) (.int .i64 b) rfl rfl (by rfl) HN.out (by omega) (by have := HB0.out.size; exact this) ?_); intro A9 p9 w1 hown' hgrow; have hb1 := HB0.out.grown hgrow HB0.out.size (fun i hi => (HO.out.lt i hi).1); have hgx := HX.out.below hb1; have k3 := (hgx.cell K).trans HQ.out.1; have k4 := (hgx.cell (K + 1)).trans HQ.out.2)
          | fail)
      go_wp2_with fail
      go_roundw
      case rel =>
        refine ⟨k + 1, by have := HK.out; omega, ?_, ?_, hb1⟩
        · rw [show ((2 * (k + 1) : Nat) : Int) = (K : Int) + 2 by have := HK.out; omega]
        · rw [HP.out, svs_snoc]
          exact hown'
      case measure => simp [intOf]; omega
    · have d1 : decide (((2 * k : Nat) : Int) + 1 < (zs.length : Int)) = false := decide_eq_false (by omega)
      have hkl : k = (prs zs).length := by rw [HPL.out]; omega
      have hrow' := hrow
      rw [hkl, List.take_length] at hrow'
      obtain ⟨A, c', rfl, hS⟩ := Sl.of_own hrow'
      clear hrow hrow'
      generalize 2 * k = K at *
      go_wp2_with fail
      go_ret
      exact ⟨A, c', rfl, hS, hbw⟩

/-! ### Same, Few -/
set_option maxHeartbeats 1000000 in
set_option maxRecDepth 100000 in
theorem few_any (A : Option Addr) (c n : Nat) (w : World) :
    Calls Try.prog 8 #[.slice A n c] w fun e w' => e = .returned (.bool (decide (n ≤ 40))) ∧ w = w' := by
  go_enter Try.func8, Try.ntmps8
  go_wp2_with fail
  go_ret
  refine ⟨ret_bool ?_, rfl⟩
  rw [decide_eq_decide]
  omega
end Go.Proofs.Ytnmlfdmlcpgaaaa
