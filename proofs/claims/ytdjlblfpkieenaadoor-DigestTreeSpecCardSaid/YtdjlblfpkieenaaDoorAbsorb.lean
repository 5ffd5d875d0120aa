/- A block is absorbed. -/
import Derived.Test.YtdjlblfpkieenaaDoorSched
namespace Go.Proofs.YtdjlblfpkieenaaDoor
open Go.RowKit
set_option linter.unusedVariables false

/-- The table of the numbers K lies in block 0. -/
def KT (w : World) : Prop := 0 < w.heap.size ∧ ∀ i, i < 64 → w.cell? ⟨0, i, none⟩ = some (.int .u32 (u (kk i)))
theorem KT.below {w w' : World} (h : KT w) (hb : Below w.heap.size w w') : KT w' :=
  ⟨Nat.lt_of_lt_of_le h.1 hb.size, fun i hi => (hb.cell (p := ⟨0, i, none⟩) h.1).trans (h.2 i hi)⟩
theorem KT.grown {w w' : World} {r : Nat} (h : KT w) (hb : w.grownBy w' (some r)) (hr : 0 < r) : KT w' :=
  ⟨Nat.lt_of_lt_of_le h.1 hb.size, fun i hi => hb.cell (h.2 i hi) (fun e => by injection e with e; simp at e; omega)⟩
/-- The cells of a state. -/
def hcells (s : S8) : Array Value := #[.int .u32 (u s.a), .int .u32 (u s.b), .int .u32 (u s.c), .int .u32 (u s.d), .int .u32 (u s.e), .int .u32 (u s.f), .int .u32 (u s.g), .int .u32 (u s.h)]

/-- Word number j of a state. -/
def hg (s : S8) (j : Nat) : U := [s.a, s.b, s.c, s.d, s.e, s.f, s.g, s.h].getD j 0
/-- A state, to the first i words of which those of z have been added. -/
def hpart (s z : S8) (i : Nat) : Array Value := ((List.range 8).map fun j => Value.int .u32 (u (if j < i then hg s j + hg z j else hg s j))).toArray
theorem hpart_zero (s z : S8) : hpart s z 0 = hcells s := rfl
theorem hpart_all (s z : S8) : hpart s z 8 = hcells (add8 s z) := rfl
theorem hpart_set (s z : S8) (i : Nat) (h : i < 8) : (hpart s z i).setIfInBounds i (.int .u32 (u (hg s i + hg z i))) = hpart s z (i + 1) := by
  match i, h with
  | 0, _ => rfl
  | 1, _ => rfl
  | 2, _ => rfl
  | 3, _ => rfl
  | 4, _ => rfl
  | 5, _ => rfl
  | 6, _ => rfl
  | 7, _ => rfl
theorem hpart_get (s z : S8) (i : Nat) (h : i < 8) : (hpart s z i)[i]? = some (.int .u32 (u (hg s i))) := by
  match i, h with
  | 0, _ => rfl
  | 1, _ => rfl
  | 2, _ => rfl
  | 3, _ => rfl
  | 4, _ => rfl
  | 5, _ => rfl
  | 6, _ => rfl
  | 7, _ => rfl
theorem index8 (z : S8) (i : Nat) (h : i < 8) (w : World) : (Instr.index 56 (.agg #[.int .u32 (u z.a), .int .u32 (u z.b), .int .u32 (u z.c), .int .u32 (u z.d), .int .u32 (u z.e), .int .u32 (u z.f), .int .u32 (u z.g), .int .u32 (u z.h)]) (.int .i64 (i : Int))).run Tryd.prog w = .ok (.int .u32 (u (hg z i))) w := by
  have hi : i = 0 ∨ i = 1 ∨ i = 2 ∨ i = 3 ∨ i = 4 ∨ i = 5 ∨ i = 6 ∨ i = 7 := by omega
  rcases hi with rfl | rfl | rfl | rfl | rfl | rfl | rfl | rfl <;> rfl

set_option maxHeartbeats 1000000 in
set_option maxRecDepth 100000 in
theorem absorb_any (h : Nat) (A : Option Addr) (c : Nat) (l : List UInt8) (s : S8) (w : World) (hK : KT w) (h0 : 0 < h) (hS : Box w h (hcells s) 66) (hB : Bs w.heap.size w A l) (hl : l.length = 64) (h1 : 64 ≤ c) (h2 : c ≤ maxLen) :
    Calls Tryd.prog 45 #[.pointer (some ⟨h, 0, none⟩), .slice A 64 c] w fun e w' => e = .returned (.tuple #[]) ∧ Box w' h (hcells (block l s)) 66 ∧ w.grownBy w' (some h) := by
  have hlt := hS.lt
  have HC := Lib.hid (sched_any A c l w hB hl h1 h2)
  have hsz := wcells_size (sched l 64) (by rw [sched_length]; omega)
  have hi := size64 hsz
  have hone := wcells_one (sched l 64)
  have hget : ∀ i, i < 64 → (wcells (sched l 64))[i]? = some (.int .u32 (u ((sched l 64).getD i 0))) := fun i hi => wcells_get _ _ (by rw [sched_length]; exact hi)
  have hbk : block l s = add8 s (rounds (sched l 64) 64 s) := rfl
  generalize wcells (sched l 64) = CS at *
  generalize sched l 64 = ws at *
  have HBK := Lib.hid hbk
  have HG := Lib.hid hget
  have HSZ := Lib.hid hsz
  have HI := Lib.hid hi
  have HONE := Lib.hid hone
  clear hsz hi hone hget hB hl hbk
  go_enter Tryd.func45, Tryd.ntmps45
  go_wp2_with fail
  refine HC.out.mono ?_
  rintro e w1 ⟨rfl, hb1⟩
  have HST := Lib.hid (Box.new w1 (wcells []) 67)
  clear HC
  go_wp2_with (first
    | (refine wpList_store_row rfl 67 (.tmp 4) (.tmp 19) rfl w1.heap.size CS rfl rfl 67 (wcells []) HST.out HI.out HSZ.out.symm HONE.out ?_))
  go_frame
  generalize hW : World.setRow _ _ CS = W2
  have hb2 : Below w.heap.size w W2 := by
    rw [← hW]
    exact (hb1.alloc hb1.size (.cells (wcells []) 67)).trans (below_grown (setRow_grown _ w1.heap.size CS) hb1.size (by simp; have := hb1.size; omega))
  have hbG : Box W2 w1.heap.size CS 67 := by rw [← hW]; exact Box.setRow HST.out
  have hbS : Box W2 h (hcells s) 66 := hS.below hb2
  have hKT : KT W2 := hK.below hb2
  have hGh : h < w1.heap.size := Nat.lt_of_lt_of_le hlt hb1.size
  clear hW HST hb1 hK hS
  generalize w1.heap.size = G at *
  have s0 : W2.cell? ⟨h, 0, none⟩ = some (.int .u32 (u s.a)) := hbS.cell 0
  have s1 : W2.cell? ⟨h, 1, none⟩ = some (.int .u32 (u s.b)) := hbS.cell 1
  have s2 : W2.cell? ⟨h, 2, none⟩ = some (.int .u32 (u s.c)) := hbS.cell 2
  have s3 : W2.cell? ⟨h, 3, none⟩ = some (.int .u32 (u s.d)) := hbS.cell 3
  have s4 : W2.cell? ⟨h, 4, none⟩ = some (.int .u32 (u s.e)) := hbS.cell 4
  have s5 : W2.cell? ⟨h, 5, none⟩ = some (.int .u32 (u s.f)) := hbS.cell 5
  have s6 : W2.cell? ⟨h, 6, none⟩ = some (.int .u32 (u s.g)) := hbS.cell 6
  have s7 : W2.cell? ⟨h, 7, none⟩ = some (.int .u32 (u s.h)) := hbS.cell 7
  go_quiet (fail)
  generalize hwn : W2.drewN nq = W3
  have hb3 : Below w.heap.size w W3 := by rw [← hwn]; exact hb2.trans ((below_drewN W2 nq).mono hb2.size)
  have hbG3 : Box W3 G CS 67 := by rw [← hwn]; exact hbG
  have hbS3 : Box W3 h (hcells s) 66 := by rw [← hwn]; exact hbS
  have hKT3 : KT W3 := by rw [← hwn]; exact hKT
  clear hwn s0 s1 s2 s3 s4 s5 s6 s7 hb2 hbG hbS hKT
  go_wp2_with fail
  go_loopw [5, 6, 7, 8, 9, 10, 11, 12, 60] (fun v5 v6 v7 v8 v9 v10 v11 v12 i wr => ∃ (t : Nat) (z : S8), t ≤ 64 ∧ z = rounds ws t s ∧ i = .int .i64 t ∧ v5 = .int .u32 (u z.a) ∧ v6 = .int .u32 (u z.b) ∧ v7 = .int .u32 (u z.c) ∧ v8 = .int .u32 (u z.d) ∧
      v9 = .int .u32 (u z.e) ∧ v10 = .int .u32 (u z.f) ∧ v11 = .int .u32 (u z.g) ∧ v12 = .int .u32 (u z.h) ∧ Below w.heap.size w wr ∧ Box wr G CS 67 ∧ Box wr h (hcells s) 66 ∧ KT wr) (fun _ _ _ _ _ _ _ _ i _ => 64 - (intOf i).toNat)
  case atStart => exact ⟨0, s, by omega, rfl, rfl, rfl, rfl, rfl, rfl, rfl, rfl, rfl, rfl, hb3, hbG3, hbS3, hKT3⟩
  case round =>
    clear hb3 hbG3 hbS3 hKT3
    obtain ⟨t, z, ht, hz, rfl, rfl, rfl, rfl, rfl, rfl, rfl, rfl, rfl, hbw, hbG, hbS, hKT⟩ := hrel
    have HZ := Lib.hid hz
    clear hz
    by_cases hlt : t < 64
    · have hk := hKT.2 t hlt
      have hw : wr.cell? ⟨G, t, none⟩ = some (.int .u32 (u (ws.getD t 0))) := by rw [hbG.cell t]; exact HG.out t hlt
      have hrn : rounds ws (t + 1) s = rnd (kk t) (ws.getD t 0) z := by rw [HZ.out]; rfl
      have HRN := Lib.hid hrn
      have HKT := Lib.hid hKT
      clear hrn hKT
      generalize kk t = kt at *
      generalize ws.getD t 0 = wt at *
      obtain ⟨za, zb, zc, zd, ze, zf, zg, zh⟩ := z
      simp only
      have hsg : IntKind.u32.signed = false := rfl
      go_wp2_with fail
      go_quiet ((go_at_call 52; exact quietL (ror_any _ _ _ (by decide) (by decide))))
      generalize hwn : wr.drewN nq = wn
      have hbn : Below w.heap.size w wn := by rw [← hwn]; exact hbw.trans ((below_drewN wr nq).mono hbw.size)
      have hbGn : Box wn G CS 67 := by rw [← hwn]; exact hbG
      have hbSn : Box wn h (hcells s) 66 := by rw [← hwn]; exact hbS
      have hKTn : Hid (KT wn) := by rw [← hwn]; exact HKT.out
      clear hwn hbw hbG hbS hk hw HKT hsg
      simp only [xor_u, and_u, notm_u, addm_u, add3_u, add4_u]
      rw [show zh + (rr ze 6 ^^^ rr ze 11 ^^^ rr ze 25) + (ze &&& zf ^^^ ~~~ze &&& zg) + kt + wt = pOf kt wt ⟨za, zb, zc, zd, ze, zf, zg, zh⟩ from rfl]
      generalize hp : pOf kt wt ⟨za, zb, zc, zd, ze, zf, zg, zh⟩ = p
      have HP := Lib.hid hp
      clear hp
      go_wp2_with (first | (go_at_call 52; (with_reducible refine (ror_any _ _ _ (by decide) (by decide)).mono ?_); rintro e w' ⟨rfl, rfl⟩))
      go_roundw
      case rel =>
        refine ⟨t + 1, rnd kt wt ⟨za, zb, zc, zd, ze, zf, zg, zh⟩, by omega, HRN.out.symm, by go_num, ?_, rfl, rfl, rfl, ?_, rfl, rfl, rfl, hbn, hbGn, hbSn, hKTn.out⟩
        · show _ = Value.int .u32 (u (pOf kt wt ⟨za, zb, zc, zd, ze, zf, zg, zh⟩ + qOf ⟨za, zb, zc, zd, ze, zf, zg, zh⟩))
          rw [HP.out]
          unfold qOf
          simp only [xor_u, and_u, addm_u]
        · show _ = Value.int .u32 (u (zd + pOf kt wt ⟨za, zb, zc, zd, ze, zf, zg, zh⟩))
          rw [HP.out, addm_u]
      case measure => simp [intOf]; omega
    · obtain rfl : t = 64 := by omega
      have hbk := HBK.out
      rw [← HZ.out] at hbk
      have HBK := Lib.hid hbk
      clear hbk hbG HZ HG HI HONE HSZ hlt
      have hbP : Hid (Box wr h (hpart s z 0) 66) := Lib.hid hbS
      have HIX := Lib.hid (index8 z)
      clear hbS hKT
      go_wp2_with fail
      rw [show ((64 : Nat) : Int) = 64 from rfl]
      go_loopw [132] (fun i wr => ∃ k : Nat, k ≤ 8 ∧ i = .int .i64 k ∧ w.grownBy wr (some h) ∧ Box wr h (hpart s z k) 66) (fun i _ => 8 - (intOf i).toNat)
      case atStart => exact ⟨0, by omega, rfl, below_row hbw _, hbP.out⟩
      case round =>
        clear hbP hbw
        obtain ⟨k, hk, rfl, hgw, hb⟩ := hrel
        have HBP := Lib.hid hb
        by_cases hlt : k < 8
        · have hcell : wr.cell? ⟨h, k, none⟩ = some (.int .u32 (u (hg s k))) := by rw [hb.cell k]; exact hpart_get s z k hlt
          have hfz : wr.frozen? ⟨h, k, none⟩ = false := hb.frozen k
          have hix := HIX.out k hlt
          have i0 : (0 : Int) ≤ (k : Int) := by omega
          have i8 : (k : Int) < 8 := by omega
          clear hb HIX
          go_wp2_with fail
          clear hix
          refine region_tail_drew 11 (by kernel_rfl) (by kernel_rfl) ?_
          simp only [List.take_succ_cons, List.take_zero, List.drop_succ_cons, List.drop_zero]
          repeat (quiet_step (fail))
          refine wpQuiet_nil ?_
          intro _ hw'
          obtain ⟨nq2, rfl⟩ := hw'
          go_wp2_with fail
          go_roundw
          case rel =>
            refine ⟨k + 1, by omega, by go_num, grown_trans (grown_trans hgw (below_row (below_drewN wr nq2) _)) (set_grown_at _ h k _), ?_⟩
            have hbx : Box (wr.drewN nq2) h (hpart s z k) 66 := HBP.out
            have := hbx.set (i := k) (v := .int .u32 (u (hg s k + hg z k)))
            rw [hpart_set s z k hlt] at this
            rw [addm_u]
            exact this
          case measure => simp [intOf]; omega
        · obtain rfl : k = 8 := by omega
          clear hb
          go_wp2_with fail
          go_end0
          refine ⟨rfl, ?_, hgw⟩
          rw [HBK.out, ← hpart_all]
          exact HBP.out
end Go.Proofs.YtdjlblfpkieenaaDoor
