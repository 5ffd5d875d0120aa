/- The small functions: isParty, canTalk, isPacket, between, inOrder; pairs compared. -/
import Derived.Test.YtojijebmipgeeaaNt
import Derived.Laws.StructEq
import Derived.Deep.RegionHeld3
import Derived.Sort.Row
import Derived.Sort.Grow
namespace Go.Proofs.Ytojijebmipgeeaa
open Go.RowKit Go.Sort
set_option linter.unusedVariables false

theorem bcell {W w1 : World} (hb : Below W.heap.size W w1) : (∀ b o, b < W.heap.size → w1.cell? ⟨b, o, none⟩ = W.cell? ⟨b, o, none⟩) ∧ (∀ b o, b < W.heap.size → w1.frozen? ⟨b, o, none⟩ = W.frozen? ⟨b, o, none⟩) :=
  ⟨fun b o h => hb.cell (p := ⟨b, o, none⟩) h, fun b o h => hb.frozen (p := ⟨b, o, none⟩) h⟩

theorem isParty_any (n : Int) (w : World) : Calls Try.prog 46 #[.int .i64 n] w fun e w' => e = .returned (.bool (site n)) ∧ w = w' := by
  unfold site
  by_cases h1 : 0 ≤ n
  · by_cases h2 : n < 16
    · rw [decide_eq_true ⟨h1, h2⟩]
      go_enter Try.func46, Try.ntmps46
      go_wp2_with fail
      go_ret
      exact ⟨rfl, rfl⟩
    · rw [decide_eq_false (fun h => h2 h.2)]
      have hd : decide (n < 16) = false := decide_eq_false h2
      go_enter Try.func46, Try.ntmps46
      go_wp2_with fail
      go_ret
      exact ⟨rfl, rfl⟩
  · rw [decide_eq_false (fun h => h1 h.1)]
    have hd : decide (0 ≤ n) = false := decide_eq_false h1
    go_enter Try.func46, Try.ntmps46
    go_wp2_with fail
    go_ret
    exact ⟨rfl, rfl⟩
theorem canTalk_any (a b : Int) (w : World) : Calls Try.prog 34 #[.int .i64 a, .int .i64 b] w fun e w' => e = .returned (.bool (talk a b)) ∧ w = w' := by
  have ht : talk a b = (site a && site b && !(a == b)) := rfl
  have HA := Lib.hid (isParty_any a w)
  have HB := Lib.hid (isParty_any b w)
  have hab : (a != b) = !(a == b) := rfl
  rw [ht]
  cases h1 : site a <;> rw [h1] at HA <;> cases h2 : site b <;> rw [h2] at HB <;> cases h3 : a == b <;> rw [h3] at hab <;> clear h1 h2 h3 ht
  all_goals
    go_enter Try.func34, Try.ntmps34
    go_wp2_with (first | ((with_reducible refine HA.out.mono ?_); rintro e w1 ⟨rfl, rfl⟩) | ((with_reducible refine HB.out.mono ?_); rintro e w1 ⟨rfl, rfl⟩))
    go_ret
    exact ⟨rfl, rfl⟩
theorem isPacket_any (p : Pk) (D : Option Addr) (d : Nat) (w : World) (hl : p.da.length ≤ 9223372036854775807) : Calls Try.prog 28 #[pkv p D d] w fun e w' => e = .returned (.bool (okp p)) ∧ Below w.heap.size w w' := by
  have hv : okp p = (talk p.fr p.to && decide (p.da.length ≤ 1048576)) := rfl
  have HB := Lib.hid ((Below.refl w.heap.size w).alloc (Nat.le_refl _) (.cells (pkc p D d) 28))
  have HT := Lib.hid (fun W => canTalk_any p.fr p.to W)
  unfold pkv pkc at *
  generalize p.da.length = n at *
  generalize p.fr = a at *
  generalize p.to = b at *
  rw [hv]
  cases h1 : talk a b <;> rw [h1] at HT <;> clear h1 hv
  · go_enter Try.func28, Try.ntmps28
    go_wp2_with ((with_reducible refine (HT.out _).mono ?_); rintro e w1 ⟨rfl, rfl⟩)
    go_ret
    exact ⟨rfl, HB.out⟩
  · by_cases h2 : n ≤ 1048576
    · rw [decide_eq_true h2]
      have hd : decide ((n : Int) ≤ 1048576) = true := decide_eq_true (by omega)
      go_enter Try.func28, Try.ntmps28
      go_wp2_with ((with_reducible refine (HT.out _).mono ?_); rintro e w1 ⟨rfl, rfl⟩)
      go_ret
      exact ⟨rfl, HB.out⟩
    · rw [decide_eq_false h2]
      have hd : decide ((n : Int) ≤ 1048576) = false := decide_eq_false (by omega)
      go_enter Try.func28, Try.ntmps28
      go_wp2_with ((with_reducible refine (HT.out _).mono ?_); rintro e w1 ⟨rfl, rfl⟩)
      go_ret
      exact ⟨rfl, HB.out⟩

theorem prv_def (x : Int × Int) : prv x = .agg #[.int .i64 x.1, .int .i64 x.2] := rfl
/-- Pairs compared. -/
theorem eqIn_pair (w : World) (a b c d : Int) (m : Nat) : (Op.equalIn (m + 2) 55 (.agg #[.int .i64 a, .int .i64 b]) (.agg #[.int .i64 c, .int .i64 d])).run Try.prog w = .ok (a == c && b == d) w := by
  have hs : ∀ w, (sizeOf 3).run Try.prog w = .ok 1 w := fun w => by kernel_rfl
  have he := Try.underlying3
  have ht := Try.underlying55
  have p0 : ∀ x y : Int, (part 3 #[.int .i64 x, .int .i64 y] (0 * 1)).run Try.prog w = .ok (.int .i64 x) w := fun x y => by simp [part, isAgg, run_underlying he]
  have p1 : ∀ x y : Int, (part 3 #[.int .i64 x, .int .i64 y] (1 * 1)).run Try.prog w = .ok (.int .i64 y) w := fun x y => by simp [part, isAgg, run_underlying he]
  have pe : ∀ x y : Int, (Op.equalIn (m + 1) 3 (.int .i64 x) (.int .i64 y)).run Try.prog w = .ok (x == y) w := fun x y => run_equalIn_int w m _ _ _ _ _ he
  rw [Op.equalIn]
  simp only [Sem.run_bind, run_underlying ht, Result.andThen_ok, hs, Std.Legacy.Range.forIn_eq_forIn_range', Std.Legacy.Range.size, Nat.sub_zero, Nat.add_sub_cancel, Nat.div_one]
  rw [show List.range' 0 2 1 = [0, 1] from rfl]
  simp only [List.forIn_cons, List.forIn_nil, Sem.run_bind, p0, pe, Result.andThen_ok]
  cases a == c <;> cases h2 : b == d <;> simp [p1, pe, h2]
def neqp (a b c d : Int) : Bool := !(a == c && b == d)
theorem eql_pair (w : World) (a b c d : Int) : (binOp .eql 55 (.agg #[.int .i64 a, .int .i64 b]) (.agg #[.int .i64 c, .int .i64 d])).run Try.prog w = .ok (.bool (a == c && b == d)) w := by
  rw [run_eql_struct, show (10000 : Nat) = 9998 + 2 from rfl, eqIn_pair]
  rfl
theorem neq_pair (w : World) (a b c d : Int) : (binOp .neq 55 (.agg #[.int .i64 a, .int .i64 b]) (.agg #[.int .i64 c, .int .i64 d])).run Try.prog w = .ok (.bool (neqp a b c d)) w := by
  rw [run_neq_struct, show (10000 : Nat) = 9998 + 2 from rfl, eqIn_pair]
  rfl
theorem guard_pair : Try.prog.eqGuardType Try.prog.depth 55 = false := by kernel_rfl

def btc (a b : Int) : Array Value := #[.int .i64 (min a b), .int .i64 (max a b)]
theorem pr_size (v0 v1 : Value) : (Try.prog.info? 55).map (·.size) = some (#[v0, v1] : Array Value).size := by
  have h := pr_info
  cases hi : Try.prog.info? 55 with
  | none => rw [hi] at h; cases h
  | some i =>
    rw [hi] at h
    simp only [Option.map_some, Option.some.injEq, Prod.mk.injEq] at h
    simp [h.2.1]
theorem pr_ret {fn : Func} {p : Tmp} (h : fn.results = #[.cell p 55]) {v0 v1 : Value} {tmps : Array Value} {w : World} {g : Nat} (hp : tmps.getD p undef = .pointer (some ⟨g, 0, none⟩)) (hb : Box w g #[v0, v1] 55) :
    (results fn tmps).run Try.prog w = .ok (.agg #[v0, v1]) w :=
  results_cell_row h tmps w g 55 #[v0, v1] (0, 0) _ hp hb Try.underlying55 rfl (pr_size _ _)
theorem between_any (a b : Int) (w : World) : Calls Try.prog 35 #[.int .i64 a, .int .i64 b] w fun e w' => e = .returned (prv (btw a b)) ∧ ∃ os, w' = grow w os := by
  unfold prv btw
  simp only
  rcases (show a < b ∨ b < a ∨ a = b by omega) with h | h | rfl
  · have h2 : ¬ b < a := by omega
    rw [show min a b = a by omega, show max a b = b by omega]
    go_enter Try.func35, Try.ntmps35
    go_wp2_with fail
    exact bodyPost_ret (pr_ret Try.results35 rfl (Box.new w _ _)) rfl ⟨rfl, _, alloc_eq_grow _ _⟩
  · have h2 : ¬ a < b := by omega
    rw [show min a b = b by omega, show max a b = a by omega]
    go_enter Try.func35, Try.ntmps35
    go_wp2_with fail
    exact bodyPost_ret (pr_ret Try.results35 rfl (Box.new w _ _)) rfl ⟨rfl, _, alloc_eq_grow _ _⟩
  · have h2 : ¬ a < a := by omega
    rw [show min a a = a by omega, show max a a = a by omega]
    go_enter Try.func35, Try.ntmps35
    go_wp2_with fail
    exact bodyPost_ret (pr_ret Try.results35 rfl (Box.new w _ _)) rfl ⟨rfl, _, alloc_eq_grow _ _⟩
theorem below_grow (w : World) (os : Array Obj) : Below w.heap.size w (grow w os) := by
  refine ⟨rfl, rfl, rfl, by simp [grow], fun k hk => ?_⟩
  show (w.heap ++ os)[k]? = _
  rw [Array.getElem?_append_left hk]

def cmpi (a b : Int) : Int := if a < b then -1 else if b < a then 1 else 0
def ori (x y : Int) : Int := if x = 0 then y else x
theorem cmpp_ori (x y : Int × Int) : cmpp x y = ori (cmpi x.1 y.1) (cmpi x.2 y.2) := by
  unfold cmpp ori cmpi
  by_cases h1 : x.1 < y.1
  · simp [h1]
  · by_cases h2 : y.1 < x.1
    · simp [h1, h2]
    · simp [h1, h2]
theorem compare_any (a b : Int) (w : World) : Calls Try.prog 52 #[.int .i64 a, .int .i64 b] w fun e w' => e = .returned (.int .i64 (cmpi a b)) ∧ w = w' := by
  unfold cmpi
  rcases (show a < b ∨ b < a ∨ a = b by omega) with h | h | rfl
  · have h2 : ¬ b < a := by omega
    rw [if_pos h]
    go_enter Try.func52, Try.ntmps52
    go_wp2
    go_ret
    exact ⟨rfl, rfl⟩
  · have h2 : ¬ a < b := by omega
    rw [if_neg h2, if_pos h]
    go_enter Try.func52, Try.ntmps52
    go_wp2
    go_ret
    exact ⟨rfl, rfl⟩
  · have h2 : ¬ a < a := by omega
    rw [if_neg h2, if_neg h2]
    go_enter Try.func52, Try.ntmps52
    go_wp2
    go_ret
    exact ⟨rfl, rfl⟩
set_option maxHeartbeats 1000000 in
theorem or_any (x y : Int) (w : World) : Calls Try.prog 51 #[.slice (some ⟨w.heap.size, 0, none⟩) 2 2] (w.alloc (.cells #[.int .i64 x, .int .i64 y] 3)) fun e w' => e = .returned (.int .i64 (ori x y)) ∧ w.alloc (.cells #[.int .i64 x, .int .i64 y] 3) = w' := by
  have hb := Box.new w #[.int .i64 x, .int .i64 y] 3
  have c0 := hb.cell 0
  have c1 := hb.cell 1
  simp only [List.getElem?_toArray, List.getElem?_cons_zero, List.getElem?_cons_succ] at c0 c1
  generalize w.alloc _ = W at *
  clear hb
  unfold ori
  by_cases hx : x = 0
  · subst hx
    rw [if_pos rfl]
    by_cases hy : y = 0
    · subst hy
      go_enter Try.func51, Try.ntmps51
      go_wp2_with fail
      refine wp_loop_rounds 3 ?_
      rw [rounds_succ]
      go_wp2_with fail
      rw [rounds_succ]
      go_wp2_with fail
      rw [rounds_succ]
      go_wp2_with fail
      go_ret
      exact ⟨rfl, rfl⟩
    · have hy2 : (y != 0) = true := by simpa using hy
      go_enter Try.func51, Try.ntmps51
      go_wp2_with fail
      refine wp_loop_rounds 3 ?_
      rw [rounds_succ]
      go_wp2_with fail
      rw [rounds_succ]
      go_wp2_with fail
      go_ret
      exact ⟨rfl, rfl⟩
  · rw [if_neg hx]
    have hx2 : (x != 0) = true := by simpa using hx
    go_enter Try.func51, Try.ntmps51
    go_wp2_with fail
    refine wp_loop_rounds 3 ?_
    rw [rounds_succ]
    go_wp2_with fail
    go_ret
    exact ⟨rfl, rfl⟩

def OrdPost (c : Int) (w : World) (e : Ending) (w' : World) : Prop := e = .returned (.int .i64 c) ∧ ∃ q os, w' = grow (w.drewN q) os
theorem drewN_one (w : World) : w.drew = w.drewN 1 := rfl
set_option maxHeartbeats 1000000 in
theorem inOrder_any (x y : Int × Int) (w : World) : Calls Try.prog 39 #[prv x, prv y] w (OrdPost (cmpp x y) w) := by
  rw [cmpp_ori]
  unfold prv OrdPost
  obtain ⟨x1, x2⟩ := x
  obtain ⟨y1, y2⟩ := y
  simp only
  have hX := Box.alloc (Box.new w #[.int .i64 x1, .int .i64 x2] 55) (.cells #[.int .i64 y1, .int .i64 y2] 55)
  have hY := Box.new (w.alloc (.cells #[.int .i64 x1, .int .i64 x2] 55)) #[.int .i64 y1, .int .i64 y2] 55
  rw [World.size_alloc] at hY
  have x0 := hX.cell 0
  have x1' := hX.cell 1
  have y0 := hY.cell 0
  have y1' := hY.cell 1
  simp only [List.getElem?_toArray, List.getElem?_cons_zero, List.getElem?_cons_succ] at x0 x1' y0 y1'
  have HG := Lib.hid (show (w.alloc (.cells #[.int .i64 x1, .int .i64 x2] 55)).alloc (.cells #[.int .i64 y1, .int .i64 y2] 55) = grow w #[.cells #[.int .i64 x1, .int .i64 x2] 55, .cells #[.int .i64 y1, .int .i64 y2] 55] by rw [alloc_eq_grow, alloc_eq_grow, grow_grow]; rfl)
  clear hX hY
  have HC := Lib.hid compare_any
  go_enter Try.func39, Try.ntmps39
  go_wp2_with fail
  generalize World.alloc _ _ = W at *
  have HQ := Lib.hid (show W.drew.cell? ⟨w.heap.size, 0, none⟩ = some (.int .i64 x1) ∧ W.drew.cell? ⟨w.heap.size, 1, none⟩ = some (.int .i64 x2) ∧ W.drew.cell? ⟨w.heap.size + 1, 0, none⟩ = some (.int .i64 y1) ∧ W.drew.cell? ⟨w.heap.size + 1, 1, none⟩ = some (.int .i64 y2) from ⟨x0, x1', y0, y1'⟩)
  have hlt : w.heap.size + 1 < W.heap.size := World.block_lt_of_cell? _ _ y0
  have HK := Lib.hid (fun o => show (W.alloc o).drew.cell? ⟨w.heap.size, 0, none⟩ = some (.int .i64 x1) ∧ (W.alloc o).drew.cell? ⟨w.heap.size, 1, none⟩ = some (.int .i64 x2) ∧ (W.alloc o).drew.cell? ⟨w.heap.size + 1, 0, none⟩ = some (.int .i64 y1) ∧ (W.alloc o).drew.cell? ⟨w.heap.size + 1, 1, none⟩ = some (.int .i64 y2) from
    have hb : Below W.heap.size W (W.alloc o).drew := ((Below.refl _ W).alloc (Nat.le_refl _) o).drew
    ⟨(hb.cell (p := ⟨w.heap.size, 0, none⟩) (Nat.lt_of_succ_lt hlt)).trans x0, (hb.cell (p := ⟨w.heap.size, 1, none⟩) (Nat.lt_of_succ_lt hlt)).trans x1', (hb.cell (p := ⟨w.heap.size + 1, 0, none⟩) hlt).trans y0, (hb.cell (p := ⟨w.heap.size + 1, 1, none⟩) hlt).trans y1'⟩)
  have HO := Lib.hid (fun x y => show Calls Try.prog 51 #[.slice (some ⟨W.heap.size, 0, none⟩) 2 2] (W.alloc (.cells #[.int .i64 x, .int .i64 y] 3)).drew fun e w' => e = .returned (.int .i64 (ori x y)) ∧ (W.alloc (.cells #[.int .i64 x, .int .i64 y] 3)).drew = w' from or_any x y W.drew)
  clear x0 x1' y0 y1'
  go_region_held3 (fun w' => w'.cell? ⟨w.heap.size, 0, none⟩ = some (.int .i64 x1) ∧ w'.cell? ⟨w.heap.size, 1, none⟩ = some (.int .i64 x2) ∧ w'.cell? ⟨w.heap.size + 1, 0, none⟩ = some (.int .i64 y1) ∧ w'.cell? ⟨w.heap.size + 1, 1, none⟩ = some (.int .i64 y2))
    (with_reducible first | exact HQ.out | exact HK.out _)
    (first
      | (go_at_call 52; ((with_reducible refine (HC.out _ _ _).mono ?_); rintro e w1 ⟨rfl, rfl⟩))
      | (go_at_call 51; ((with_reducible refine (HO.out _ _).mono ?_); rintro e w1 ⟨rfl, rfl⟩))
      | fail)
  all_goals
    go_wp2_with fail
    all_goals
      go_ret
      exact ⟨rfl, 1, _, by rw [alloc_eq_grow, HG.out, grow_grow]; rfl⟩
end Go.Proofs.Ytojijebmipgeeaa
