/- Explain: the coins of one byte. -/
import Derived.Test.YtjkojjimlebmjaaDoorApp2
import Derived.Test.YtjkojjimlebmjaaDoorThru
import Derived.Test.YtjkojjimlebmjaaDoorPol
import Derived.Deep.RegionHeld3
namespace Go.Proofs.YtjkojjimlebmjaaDoor
open Go.RowKit
set_option linter.unusedVariables false

theorem Sl.drop' {w : World} {A : Option Addr} {l : List UInt8} {c : Nat} (h : Sl w A l c) (k : Nat) (hk : k ≤ l.length) : Sl w (if c = k then A else A.map (fun x => x.add k)) (l.drop k) (c - k) := by
  have h1 := h.2.1
  have h2 := h.2.2.1
  by_cases e : c = k
  · rw [if_pos e, List.drop_eq_nil_of_le (by omega)]
    exact ⟨Bs.none_, Nat.zero_le _, by omega, fun _ => ⟨rfl, by omega⟩⟩
  · rw [if_neg e]
    refine ⟨h.1.drop, by simp; omega, by omega, fun hA => ?_⟩
    cases A with
    | none => have := (h.2.2.2 rfl); exact ⟨by rw [this.1]; simp, by omega⟩
    | some a => cases hA

/-- The values at the other places. -/
def othv (x : UInt8) (q : Nat) : List UInt8 := x :: List.replicate (q - 1) 0
theorem othv_length (x : UInt8) (q : Nat) (h : 0 < q) : (othv x q).length = q := by simp [othv]; omega
theorem othv_cells (x : UInt8) (q : Nat) (h : 0 < q) : (List.replicate q (Value.int .u8 0)).set 0 (bv x) = (othv x q).map bv := by
  obtain ⟨m, rfl⟩ : ∃ m, q = m + 1 := ⟨q - 1, by omega⟩
  simp [othv, List.replicate_succ, bv]

set_option maxHeartbeats 2000000 in
set_option maxRecDepth 100000 in
theorem ex1_any (place q n Bm Bs Bx Bn : Nat) (As Ax A2 : Option Addr) (cs cx c2 : Nat) (s xs ys : List UInt8) (W : World) (hK : KT W) (hm : W.cell? ⟨Bm, 0, none⟩ = some (.int .i64 (q : Int))) (hs : W.cell? ⟨Bs, 0, none⟩ = some (.slice As s.length cs))
    (hx : W.cell? ⟨Bx, 0, none⟩ = some (.slice Ax xs.length cx)) (hn : W.cell? ⟨Bn, 0, none⟩ = some (.int .i64 (n : Int))) (hSs : Sl W As s cs) (hSx : Sl W Ax xs cx) (hSy : Sl W A2 ys c2) (hp : place < s.length) (hn0 : 0 < n) (hq : 0 < q) (hq2 : q ≤ 100) (hn2 : n ≤ 100) (hyl : ys.length = n) (hxl : xs.length = n + q) (hnd : xs.Nodup) :
    Calls Tryd.prog 18 #[.int .i64 (place : Int), .slice A2 n c2, .pointer (some ⟨Bm, 0, none⟩), .pointer (some ⟨Bs, 0, none⟩), .pointer (some ⟨Bx, 0, none⟩), .pointer (some ⟨Bn, 0, none⟩)] W
      fun e w' => ∃ A c, e = .returned (.slice A (n + q - 1) c) ∧ Sl w' A ((co xs (ys ++ othv (s.getD place 0) q)).drop 1) c ∧ (∀ b off, A = some ⟨b, off, none⟩ → W.heap.size ≤ b) ∧ Below W.heap.size W w' := by
  obtain ⟨i0, hi0, hz0, hz1, hz2⟩ := info_parts u8_info
  obtain ⟨b, off, rfl, hb, hcell⟩ := hSs.1 (by omega)
  have hxc : W.cell? ⟨b, off + place, none⟩ = some (bv (s.getD place 0)) := hcell place _ (getD_cell hp)
  have hcap := hSy.2.1
  rw [hyl] at hcap
  have hol : ∀ x, (ys ++ othv x q).length = n + q := fun x => by rw [List.length_append, hyl, othv_length x q hq]
  have hco : ∀ x, (co xs (ys ++ othv x q)).length = n + q ∧ coe xs (ys ++ othv x q) = 0 := fun x => by
    have hh : xs.length = (ys ++ othv x q).length ∧ xs.Nodup := ⟨by rw [hxl, hol], hnd⟩
    unfold co coe
    rw [if_pos hh, if_pos hh, lk_length]
    exact ⟨hxl, rfl⟩
  generalize s.getD place 0 = x at *
  have HCO := Lib.hid (hco x)
  have HF := Lib.hid (fun A1 c1 w1 (hb1 : Below W.heap.size W w1) (hs1 : Sl w1 A1 (ys ++ othv x q) c1) => coef_any Ax cx xs A1 c1 (ys ++ othv x q) w1 (hK.below hb1) (hSx.up hb1) hs1 (by omega) (by rw [hol x]; omega))
  rw [hol x] at HF
  rw [hxl] at HF hx
  unfold CoPost at HF
  rw [(hco x).1, (hco x).2] at HF
  have HOL := Lib.hid (hol x)
  have HS := Lib.hid (And.intro hSy hyl)
  have HW0 := Lib.hid (fun w' (h : Below W.heap.size W w') => And.intro ((h.cell (p := ⟨Bx, 0, none⟩) (World.block_lt_of_cell? W _ hx)).trans hx) ((h.cell (p := ⟨Bn, 0, none⟩) (World.block_lt_of_cell? W _ hn)).trans hn))
  have HW1 := Lib.hid (fun w' (h : Below W.heap.size W w') => And.intro ((h.cell (p := ⟨Bs, 0, none⟩) (World.block_lt_of_cell? W _ hs)).trans hs) ((h.cell (p := ⟨b, off + place, none⟩) hb).trans hxc))
  have i1 : (0 : Int) ≤ (place : Int) := by omega
  have i2 : (place : Int) < (s.length : Int) := by omega
  have i3 : (0 : Int) < (q : Int) := by omega
  have i4 : (n : Int) ≤ (c2 : Int) := by omega
  have i5 : (0 : Int) ≤ (n : Int) := by omega
  clear hSs hSx hSy hcell hxc hco hol hyl hxl hnd hK hs hx hn hcap
  generalize co xs (ys ++ othv x q) = C at *
  generalize s.length = sl at *
  go_enter Tryd.func18, Tryd.ntmps18
  go_wp2_with (refine wpList_make_full _ rfl (.tmp 12) (.tmp 12) 23 rfl W.heap.size 5 i0 (.int .u8 0) 1 Tryd.underlying23 hi0 hz0 hz1 .i64 .i64 q q q rfl rfl rfl rfl (by rw [hz2]; omega) (le_maxLen (by omega)) (Nat.le_refl _) ?_; intro w1 hown hgr; have hW1 := HW1.out w1 (grown_below hgr); obtain ⟨hs1, hx1⟩ := hW1; unfold bv at hx1; rw [Nat.mul_one, show (Value.int .u8 0).cells = #[.int .u8 0] from rfl, toList_madeCells_one] at hown; have hz1c := World.ownsRow.cellAt hown 0 (by omega); have hf1 := World.ownsRow.frozenAt hown 0; have H1 := Lib.hid (And.intro hown (grown_below hgr)); rw [List.getElem?_replicate, if_pos (by omega)] at hz1c; clear hown hgr)
  have hst := World.ownsRow.stored H1.out.1 0 (bv x)
  rw [othv_cells x q hq] at hst
  have hb2 : Below W.heap.size W (w1.setCell ⟨W.heap.size, 0, none⟩ (bv x)) := H1.out.2.grown hst.2 H1.out.2.size (fun j e => by cases e; exact Nat.le_refl _)
  have hsl2 := Sl.of_own' hst.1 (othv_length x q hq).symm
  have hS2 := HW0.out _ hb2
  unfold bv at hb2 hsl2 hS2
  have H2 := Lib.hid (And.intro hb2 hsl2)
  have hSy2 := (HS.out.1.up hb2)
  have HS2 := Lib.hid hS2
  have HSY := Lib.hid (And.intro hSy2 HS.out.2)
  clear hst hb2 hsl2 hSy2 hS2 hz1c hf1 hs1 hx1 H1 HW1
  generalize w1.setCell ⟨W.heap.size, 0, none⟩ (.int .u8 (x.toNat : Int)) = w2 at *
  have hd2 : Sl w2.drew A2 ys c2 ∧ Sl w2.drew (some ⟨W.heap.size, 0, none⟩) (othv x q) q ∧ Below W.heap.size W w2.drew := ⟨HSY.out.1, H2.out.2, H2.out.1.drew⟩
  have hn3 : Sl w2.drew A2 ys n := ⟨hd2.1.1, by rw [HS.out.2]; exact Nat.le_refl _, by have := hd2.1.2.1; have := hd2.1.2.2.1; omega, fun hA => ⟨(hd2.1.2.2.2 hA).1, by have := (hd2.1.2.2.2 hA).1; have h3 := HS.out.2; rw [this] at h3; simpa using h3.symm⟩⟩
  have HD2 := Lib.hid (And.intro hn3 hd2.2)
  clear hd2 hn3
  have HOV := Lib.hid (othv_length x q hq)
  go_region_held3 (fun w' => w'.cell? ⟨Bx, 0, none⟩ = some (.slice Ax (n + q) cx) ∧ w'.cell? ⟨Bn, 0, none⟩ = some (.int .i64 (n : Int)))
    (first | exact HS2.out | exact S3.out | exact S5.out | go_keep)
    (first
      | (refine step_append_two (by rfl) (.tmp 25) (.tmp 26) (by rfl) A2 ys n n HS.out.2 (by rfl) HD2.out.1 (some ⟨W.heap.size, 0, none⟩) (othv x q) q q HOV.out (by rfl) HD2.out.2.1 hq (by omega) (n + q) rfl (by omega) ?_; intro A3 c3 w3 ho3 hb3; have hb3' := HD2.out.2.2.trans (hb3.mono HD2.out.2.2.size); have S3 := Lib.hid (HW0.out _ hb3'); have H3 := Lib.hid (And.intro (Sl.of_own' ho3 HOL.out.symm) hb3'); clear ho3 hb3 hb3')
      | (go_at_call 19; (with_reducible refine (HF.out A3 c3 _ H3.out.2 H3.out.1).mono ?_); rintro e w5 ⟨A5, c5, rfl, ho5, hb5⟩; have hb6 := H3.out.2.trans (hb5.mono H3.out.2.size); have S5 := Lib.hid (HW0.out _ hb6); have H5 := Lib.hid (And.intro (own_base ho5 H3.out.2.size) hb6); clear ho5 hb5 hb6)
      | fail)
  all_goals
    obtain ⟨g, rfl⟩ : ∃ g, A5 = some ⟨g, 0, none⟩ := by
      rcases H5.out.1.2 with ⟨_, h0⟩ | ⟨g, cap, cur, hv, _⟩
      · omega
      · injection hv with hv
        exact ⟨g, hv⟩
    have hsl5 := Sl.of_own' H5.out.1 HCO.out.1.symm
    have hdr := hsl5.drop' 1 (by rw [HCO.out.1]; omega)
    have hcap5 := hsl5.2.1
    rw [HCO.out.1] at hcap5
    have hc5 : ¬ c5 = 1 := by omega
    rw [if_neg hc5, Option.map_some, add_off] at hdr
    have HG := Lib.hid (And.intro hdr (World.ownsRow.lt H5.out.1 g rfl).1)
    clear hdr hsl5
    obtain ⟨N, hN⟩ : ∃ N, n + q = N := ⟨_, rfl⟩
    rw [hN] at hcap5 ⊢
    have i6 : (1 : Int) ≤ (N : Int) := by omega
    have i7 : (N : Int) ≤ (c5 : Int) := by omega
    have i8 : (1 : Int) ≤ (c5 : Int) := by omega
    have HN := Lib.hid hN
    clear hN
    go_wp2_with fail
    go_ret
    exact ⟨some ⟨g, 0 + 1, none⟩, c5 - 1, by rw [HN.out]; rfl, HG.out.1, fun b off e => by cases e; exact HG.out.2, H5.out.2⟩
end Go.Proofs.YtjkojjimlebmjaaDoor
