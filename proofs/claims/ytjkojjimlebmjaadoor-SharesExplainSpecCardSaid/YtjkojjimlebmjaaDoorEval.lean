/- Eval. -/
import Derived.Test.YtjkojjimlebmjaaDoorPow
import Derived.Test.YtjkojjimlebmjaaDoorSl
namespace Go.Proofs.YtjkojjimlebmjaaDoor
open Go.RowKit Go.Shelf
set_option linter.unusedVariables false

attribute [local go_sem] Oper.semAt_some

theorem xor_u8 (a b : UInt8) : bits .xor .u8 (a.toNat : Int) (b.toNat : Int) = ((a ^^^ b).toNat : Int) := by
  rw [xor_b _ _ (u8_lt a) (u8_lt b), UInt8.toNat_xor]
/-- The sum over what has come. -/
def ac (l : List UInt8) (at_ : UInt8) {n : Nat} (pre : List (Fin n)) : UInt8 := pre.foldl (fun y i => y ^^^ gm (l.getD i.1 0) (pw at_ i.1)) 0
theorem ac_snoc (l : List UInt8) (at_ : UInt8) {n : Nat} (pre : List (Fin n)) (x : Fin n) : ac l at_ (pre ++ [x]) = ac l at_ pre ^^^ gm (l.getD x.1 0) (pw at_ x.1) := by simp [ac]
theorem ac_fin (l : List UInt8) (at_ : UInt8) (n : Nat) : ∀ k, k ≤ n → ac l at_ (fin n k) = ek l at_ k
  | 0, _ => rfl
  | k + 1, h => by
    rw [fin_succ n k h, ac_snoc, ac_fin l at_ n k (by omega)]
    rfl

theorem ev_close (W w : World) (sv v u : Value) (hcl : W.cell? ⟨w.heap.size, 0, none⟩ = some sv) (hcy : W.cell? ⟨w.heap.size + 1, 0, none⟩ = some u) (hfy : W.frozen? ⟨w.heap.size + 1, 0, none⟩ = false) (hB : Below w.heap.size w W) :
    (∀ B, KeepsFrom B W (W.setCell ⟨w.heap.size + 1, 0, none⟩ v).drew) ∧ Kp w.heap.size (w.heap.size + 1 + 1) W (W.setCell ⟨w.heap.size + 1, 0, none⟩ v).drew ∧
      (((W.setCell ⟨w.heap.size + 1, 0, none⟩ v).drew.cell? ⟨w.heap.size, 0, none⟩ = some sv ∧ (W.setCell ⟨w.heap.size + 1, 0, none⟩ v).drew.cell? ⟨w.heap.size + 1, 0, none⟩ = some v ∧ (W.setCell ⟨w.heap.size + 1, 0, none⟩ v).drew.frozen? ⟨w.heap.size + 1, 0, none⟩ = false) ∧ Below w.heap.size w (W.setCell ⟨w.heap.size + 1, 0, none⟩ v).drew) := by
  have hg := set_grown_at W (w.heap.size + 1) 0 v
  have hb1 : Below w.heap.size W (W.setCell ⟨w.heap.size + 1, 0, none⟩ v).drew := ((Below.refl _ W).setCell (p := ⟨w.heap.size + 1, 0, none⟩) (Nat.le_succ _) v).drew
  have c0 : (W.setCell ⟨w.heap.size + 1, 0, none⟩ v).cell? ⟨w.heap.size, 0, none⟩ = W.cell? ⟨w.heap.size, 0, none⟩ := (hg.cell hcl (by simp)).trans hcl.symm
  have c2 : (W.setCell ⟨w.heap.size + 1, 0, none⟩ v).cell? ⟨w.heap.size + 1 + 1, 0, none⟩ = W.cell? ⟨w.heap.size + 1 + 1, 0, none⟩ := by
    unfold World.cell?
    rw [show (W.setCell ⟨w.heap.size + 1, 0, none⟩ v).heap[w.heap.size + 1 + 1]? = W.heap[w.heap.size + 1 + 1]? from Below.heap_setCell _ _ _ _ (by show w.heap.size + 1 + 1 ≠ w.heap.size + 1; omega)]
  exact ⟨fun _ => ((KeepsOthers.setCell _ _ _).trans (KeepsOthers.drew _)).from _, ⟨hb1, c2⟩, ⟨c0.trans hcl, World.cell?_setCell_same' _ _ _ (by rw [hcy]; rfl), by rw [frozen_drew_own, World.frozen?_setCell]; exact hfy⟩, hB.trans hb1⟩

set_option maxRecDepth 100000 in
set_option maxHeartbeats 4000000 in
theorem eval_in (A : Option Addr) (c : Nat) (l : List UInt8) (at_ : UInt8) (w : World) (hK : KT w) (hS : Sl w A l c) (hl : l.length ≤ 1000000) :
    CallsIn Fence.wide 5 Tryd.prog 37 #[.slice A l.length c, bv at_] w fun e w' => e = .returned (bv (hv l at_)) ∧ Below w.heap.size w w' := by
  rw [← ek_hv, ← ac_fin l at_ l.length l.length (Nat.le_refl _)]
  have hcell : ∀ (x : Fin l.length) W, Below w.heap.size w W → ∃ b off, A = some ⟨b, off, none⟩ ∧ W.cell? ⟨b, off + x.1, none⟩ = some (.int .u8 ((l.getD x.1 0).toNat : Int)) := by
    intro x W hb
    obtain ⟨b, off, e, hlt, hc⟩ := hS.1 (by have := x.2; omega)
    refine ⟨b, off, e, (hb.cell (p := ⟨b, off + x.1, none⟩) hlt).trans ?_⟩
    have := hc x.1 l[x.1] (by simp)
    rw [this, List.getD_eq_getElem?_getD, List.getElem?_eq_getElem x.2]
    rfl
  have HC := Lib.hid hcell
  have hM : ∀ (a b : UInt8) W, Below w.heap.size w W → Calls Tryd.prog 49 #[.int .u8 (a.toNat : Int), .int .u8 (b.toNat : Int)] W fun e w' => e = .returned (.int .u8 ((gm a b).toNat : Int)) ∧ W = w' := fun a b W hb => mul_any a b W (hK.under hK.1 hb)
  have HM := Lib.hid hM
  have h0 := hK.1
  have HK := Lib.hid hK
  clear hcell hM hK hS
  generalize hn : l.length = n at *
  refine callsIn_of_wp_marks Tryd.func37 rfl trivial ?_ rfl
  simp only [Tryd.ntmps37, List.size_toArray, List.length_cons, List.length_nil, Nat.reduceAdd, Nat.reduceSub, Array.replicate_succ, Array.replicate_zero, List.push_toArray, List.append_toArray, List.nil_append, List.cons_append]
  gi_wp2
  refine ⟨trivial, (pows_in _ n at_ _).mono ?_⟩
  rintro e w' ⟨rfl, rfl⟩
  gi_wp2
  have bY := Boxed.new (w.alloc (.cells #[.slice A n c] 23)) 5 (.int .u8 0)
  have bL := Boxed.new w 23 (.slice A n c)
  rw [World.size_alloc] at bY
  have bA := Boxed.new ((w.alloc (.cells #[.slice A n c] 23)).alloc (.cells #[.int .u8 0] 5)) 5 (bv at_)
  have bN := Boxed.new (((w.alloc (.cells #[.slice A n c] 23)).alloc (.cells #[.int .u8 0] 5)).alloc (.cells #[bv at_] 5)) 3 (.int .i64 (n : Int))
  simp only [World.size_alloc] at bA bN
  have hB0 : Below w.heap.size w ((((w.alloc (.cells #[.slice A n c] 23)).alloc (.cells #[.int .u8 0] 5)).alloc (.cells #[bv at_] 5)).alloc (.cells #[.int .i64 (n : Int)] 3)) :=
    ((((Below.refl _ w).alloc (Nat.le_refl _) _).alloc (by simp) _).alloc (by simp; omega) _).alloc (by simp; omega) _
  refine wpIn_rangeFunc_ownG rfl (by decide) (gf := 67) (lb := #[.pointer (some ⟨w.heap.size + 1 + 1 + 1, 0, none⟩), .pointer (some ⟨w.heap.size + 1 + 1, 0, none⟩)]) rfl trivial (enters_of Tryd.func67 (by kernel_rfl) rfl)
    (pows_stops (5 - 1) (by decide) (w.heap.size + 1 + 1 + 1) (w.heap.size + 1 + 1) w.heap.size n at_ hl h0 _ (by simp; omega) (HK.out.under h0 hB0) bN.cell (bA.alloc _).cell (by simp) (by simp)) ?hKt ?hKb (Below.refl _ _) (fun _ => rfl)
    (fun pre W => (W.cell? ⟨w.heap.size, 0, none⟩ = some (.slice A n c) ∧ W.cell? ⟨w.heap.size + 1, 0, none⟩ = some (.int .u8 ((ac l at_ pre).toNat : Int)) ∧ W.frozen? ⟨w.heap.size + 1, 0, none⟩ = false) ∧ Below w.heap.size w W)
    (fun _ _ _ => False)
    (OwnFrom.and (Own.from (fun s A B row hs hg hr => ⟨cell_kept hs.1 hg hr, cell_kept hs.2.1 hg hr, (frozen_kept hs.2.1 hg hr).trans hs.2.2⟩) _) (ownFrom_below (Nat.le_refl _) (by simp; omega)))
    (fun _ _ _ _ _ hs _ _ => hs)
    ⟨⟨(((bL.alloc _).alloc _).alloc _).cell, ((bY.alloc _).alloc _).cell, ((bY.alloc _).alloc _).frozen⟩, hB0⟩
    (fun x => { tmps := #[.slice A n c, bv at_, .pointer (some ⟨w.heap.size, 0, none⟩), undef, .pointer (some ⟨w.heap.size + 1, 0, none⟩), .int .i64 (x.1 : Int), bv (pw at_ x.1), bv at_, .slice A n c, .int .i64 (n : Int), .func (.func 67) #[] #[.pointer (some ⟨w.heap.size + 1 + 1 + 1, 0, none⟩), .pointer (some ⟨w.heap.size + 1 + 1, 0, none⟩)], .int .i64 (x.1 : Int), bv (pw at_ x.1), undef, undef, undef, undef, undef, undef, undef, undef, undef], defers := [] }) ?assign ?body ?done ?stop
  case hKt =>
    intro A B C h1 h2
    exact ⟨h1.1.trans h2.1, h2.2.trans h1.2⟩
  case hKb =>
    intro W l o o' hl ho h1 h2
    refine ⟨belowK_b (by simp; omega) W l o o' hl ho h1 h2, ?_⟩
    exact (belowK_b (n₀ := w.heap.size + 1 + 1 + 1) (by simp) W l o o' hl ho h1 h2).cell (p := ⟨w.heap.size + 1 + 1, 0, none⟩) (Nat.lt_succ_self _)
  case assign =>
    intro l x W K hK
    dsimp only [pe]
    gi_wp2
    exact hK
  case body =>
    rintro lp pre x W ⟨⟨hcl, hcy, hfy⟩, hB⟩ _
    obtain ⟨b, off, rfl, hx⟩ := HC.out x W hB
    have hx1 := x.2
    have hmx : Tryd.prog.follows .mixedOrders = true := by kernel_rfl
    have hMM := HM.out (l.getD x.1 0) (pw at_ x.1) W.drew (hB.trans ((Below.refl _ W).drew))
    have hcl0 := ev_close W w _ (.int .u8 ((ac l at_ (pre ++ [x])).toNat : Int)) _ hcl hcy hfy hB
    rw [show ((ac l at_ (pre ++ [x])).toNat : Int) = bits .xor .u8 ((ac l at_ pre).toNat : Int) ((gm (l.getD x.1 0) (pw at_ x.1)).toNat : Int) by rw [ac_snoc, xor_u8]] at hcl0
    have HF := Lib.hid hcl0
    have HE := Lib.hid (show ((ac l at_ (pre ++ [x])).toNat : Int) = bits .xor .u8 ((ac l at_ pre).toNat : Int) ((gm (l.getD x.1 0) (pw at_ x.1)).toNat : Int) by rw [ac_snoc, xor_u8])
    clear hcl0
    unfold bv
    obtain ⟨xi, hxi⟩ := x
    simp only at hx hx1 hMM HF HE ⊢
    generalize l.getD xi 0 = lx at *
    generalize pw at_ xi = px at *
    gi_wp2
    gi_region_with_o (refine ⟨trivial, ?_⟩; gi_at_call 49; refine (CallsIn.inRound lp (callsIn_wide.2 hMM)).mono ?_; rintro e w' ⟨rfl, rfl⟩)
    all_goals gi_wp2
    all_goals
      refine ⟨HF.out.1 _, HF.out.2.1, ⟨HF.out.2.2.1.1, ?_, HF.out.2.2.1.2.2⟩, HF.out.2.2.2⟩
      rw [HE.out]
      exact HF.out.2.2.1.2.1
  case done =>
    rintro D ys W hD rfl ⟨⟨hcl, hcy, hfy⟩, hB⟩ hK
    gi_wp2
    unfold bv
    generalize ((ac l at_ (fin n n)).toNat : Int) = Y at *
    have hK' := (KeepsOthers.setCell W ⟨w.heap.size + 1, 0, none⟩ (.int .u8 Y)).same D _ hK rfl
    refine ⟨by simp, .inl ⟨_, _, rfl, run_takeDeferred hK', ?_⟩⟩
    have hc5 := cell_kept (World.cell?_setCell_same' W ⟨w.heap.size + 1, 0, none⟩ (.int .u8 Y) (by rw [hcy]; rfl)) (grownBy_putObj' _ D (.deferred none)) (fun r e => by cases e; exact ⟨_, hK', rfl⟩)
    refine ⟨.int .u8 Y, ?_, rfl, (hB.setCell (p := ⟨w.heap.size + 1, 0, none⟩) (by simp) _).trans (belowK_b (w := w) (Nat.le_refl _) _ D _ _ (by simp at hD; omega) hK' rfl rfl)⟩
    simp [results, Tryd.f37, go_sem, hc5]
  case stop =>
    rintro D c pre W _ _ h _
    exact h.elim

theorem eval_any (A : Option Addr) (c : Nat) (l : List UInt8) (at_ : UInt8) (w : World) (hK : KT w) (hS : Sl w A l c) (hl : l.length ≤ 1000000) :
    Calls Tryd.prog 37 #[.slice A l.length c, bv at_] w fun e w' => e = .returned (bv (hv l at_)) ∧ Below w.heap.size w w' :=
  callsIn_wide.1 (eval_in A c l at_ w hK hS hl)
end Go.Proofs.YtjkojjimlebmjaaDoor
