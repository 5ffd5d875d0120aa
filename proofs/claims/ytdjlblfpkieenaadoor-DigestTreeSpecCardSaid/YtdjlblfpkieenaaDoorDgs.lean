/- digestsOf. -/
import Derived.Test.YtdjlblfpkieenaaDoorApp
namespace Go.Proofs.YtdjlblfpkieenaaDoor
open Go.RowKit Go.Sort
set_option linter.unusedVariables false

/-- Digest number i of a script. -/
def dg (l : List UInt8) (i : Nat) : List UInt8 := (l.getD i 0 % 4) :: UInt8.ofNat (i / 8) :: List.replicate 30 0
theorem dg_length (l : List UInt8) (i : Nat) : (dg l i).length = 32 := rfl
/-- The first k digests of a script. -/
def dgk (l : List UInt8) (k : Nat) : List (List UInt8) := (List.range k).map (dg l)
theorem dgk_length (l : List UInt8) (k : Nat) : (dgk l k).length = k := by simp [dgk]
/-- Digests as cells. -/
def flat (ds : List (List UInt8)) : List Value := ds.flatMap fun d => d.map bv
theorem flat_step (l : List UInt8) (k : Nat) : flat (dgk l (k + 1)) = flat (dgk l k) ++ (dg l k).map bv := by
  unfold flat dgk
  rw [List.range_succ, List.map_append, List.flatMap_append]
  simp

/-- The cells of a digest that begins with two numbers. -/
def litD (a b : Int) : Array Value := #[.int .u8 a, .int .u8 b, .int .u8 0, .int .u8 0, .int .u8 0, .int .u8 0, .int .u8 0, .int .u8 0, .int .u8 0, .int .u8 0, .int .u8 0, .int .u8 0, .int .u8 0, .int .u8 0, .int .u8 0, .int .u8 0, .int .u8 0, .int .u8 0, .int .u8 0, .int .u8 0, .int .u8 0, .int .u8 0, .int .u8 0, .int .u8 0, .int .u8 0, .int .u8 0, .int .u8 0, .int .u8 0, .int .u8 0, .int .u8 0, .int .u8 0, .int .u8 0]
theorem dg_cells (l : List UInt8) (k x : Nat) (hx : (l.getD k 0).toNat = x) (hk : k < 24) : (dg l k).map bv = (litD ((x : Int) % 4) ((k : Int) / 8)).toList := by
  have e1 : bv (l.getD k 0 % 4) = .int .u8 ((x : Int) % 4) := by
    unfold bv
    congr 1
    rw [UInt8.toNat_mod, hx]
    rfl
  have e2 : bv (UInt8.ofNat (k / 8)) = .int .u8 ((k : Int) / 8) := by
    unfold bv
    congr 1
    rw [UInt8.toNat_ofNat']
    omega
  unfold dg
  rw [List.map_cons, List.map_cons, e1, e2]
  rfl

theorem dig_info : (Tryd.prog.info? 26).map (fun i => (i.zero, i.size, i.bytes)) = some (some (.agg dz), 32, 32) := by kernel_rfl

set_option maxHeartbeats 1000000 in
set_option maxRecDepth 100000 in
theorem digestsOf_any (A : Option Addr) (c : Nat) (l : List UInt8) (w : World) (hS : Sl w A l c) :
    Calls Tryd.prog 16 #[.slice A l.length c] w fun e w' => ∃ A' c', e = .returned (.slice A' (min l.length 24) c') ∧ w'.ownsRow w.heap.size 26 32 (.slice A' (min l.length 24) c') (min l.length 24) (flat (dgk l (min l.length 24))) ∧ Below w.heap.size w w' := by
  have ho := World.ownsRow_lit (base := w.heap.size) (e := 26) (size := 32) w #[] 0 (Nat.le_refl _) (by unfold maxLen; omega) rfl
  have hb := (Below.refl w.heap.size w).alloc (Nat.le_refl _) (.cells #[] 26)
  have HS := Lib.hid hS
  have HO := Lib.hid ho
  have HB := Lib.hid hb
  clear hS ho hb
  obtain ⟨n, hn⟩ : ∃ n, l.length = n := ⟨_, rfl⟩
  have HN := Lib.hid hn
  rw [hn]
  clear hn
  go_enter Tryd.func16, Tryd.ntmps16
  go_wp2_with fail
  go_loopw [3, 4] (fun v i wr => ∃ (k : Nat) (A' : Option Addr) (c' : Nat), k ≤ n ∧ k ≤ 24 ∧ i = .int .i64 k ∧ v = .slice A' k c' ∧ wr.ownsRow w.heap.size 26 32 (.slice A' k c') k (flat (dgk l k)) ∧ Below w.heap.size w wr) (fun _ i _ => 24 - (intOf i).toNat)
  case atStart => exact ⟨0, some ⟨w.heap.size, 0, none⟩, 0, Nat.zero_le _, Nat.zero_le _, rfl, rfl, HO.out, HB.out⟩
  case round =>
    obtain ⟨k, A', c', hkn, hk24, rfl, rfl, ho, hb⟩ := hrel
    have HO1 := Lib.hid ho
    have HB1 := Lib.hid hb
    clear ho hb
    by_cases hlt : k < n ∧ k < 24
    · obtain ⟨h1, h2⟩ := hlt
      obtain ⟨b, off, rfl, hbl, hc⟩ := (HS.out.up HB1.out).1 (by rw [HN.out]; omega)
      have hcell : wr.cell? ⟨b, off + k, none⟩ = some (.int .u8 ((l.getD k 0).toNat : Int)) := hc k _ (by rw [List.getD_eq_getElem?_getD, List.getElem?_eq_getElem (by rw [HN.out]; exact h1)]; rfl)
      have hd := (l.getD k 0).toNat_lt
      clear hc
      generalize hx : (l.getD k 0).toNat = x at *
      have hd' : (x : Int) < 256 := by omega
      have hcs := dg_cells l k x hx h2
      obtain ⟨i0, hi0, hz0, hz1, hz2⟩ : ∃ i, Tryd.prog.info? 26 = some i ∧ i.zero = some (.agg dz) ∧ i.size = 32 ∧ i.bytes = 32 := by
        have h := dig_info
        cases hi : Tryd.prog.info? 26 with
        | none => rw [hi] at h; cases h
        | some i =>
          rw [hi] at h
          simp only [Option.map_some, Option.some.injEq, Prod.mk.injEq] at h
          exact ⟨i, rfl, h.1, h.2.1, h.2.2⟩
      have hba : Below wr.heap.size wr (wr.alloc (.cells (litD ((x : Int) % 4) ((k : Int) / 8)) 26)) := (Below.refl wr.heap.size wr).alloc (Nat.le_refl _) _
      have hnw : ∀ j v, ((dg l k).map bv)[j]? = some v → (wr.alloc (.cells (litD ((x : Int) % 4) ((k : Int) / 8)) 26)).cell? ((⟨wr.heap.size, 0, none⟩ : Addr).add j) = some v := by
        rw [hcs]
        exact World.news_of_block (heap_alloc_new wr _)
      have HOA := Lib.hid (own_below HO1.out hba)
      have HBA := Lib.hid (HB1.out.trans (hba.mono HB1.out.size))
      have HNW := Lib.hid hnw
      have hdl : ((dg l k).map bv).length = 1 * 32 := rfl
      have hone := bv_one (dg l k)
      have HFS := Lib.hid (flat_step l k)
      clear hnw hba hcs hx hd
      generalize (dg l k).map bv = DN at *
      generalize flat (dgk l k) = FK at *
      have HDL := Lib.hid hdl
      have HONE := Lib.hid hone
      have HIF := Lib.hid (And.intro hi0 (And.intro hz0 (And.intro hz1 hz2)))
      have HKB : Hid (k + 1 ≤ n ∧ k + 1 ≤ 24 ∧ k + 1 ≤ maxLen ∧ (k + 1) * 32 ≤ 140737488355328) := Lib.hid ⟨by omega, by omega, by unfold maxLen; omega, by omega⟩
      clear hdl hone hi0 hz0 hz1 hz2
      go_wp2_with (at_builtin; first
        | (refine wpList_append_own _ rfl (.tmp 16) (.tmp 26) 30 rfl w.heap.size 26 i0 (.agg dz) 32 32 Tryd.underlying30 HIF.out.1 HIF.out.2.1 HIF.out.2.2.1 HIF.out.2.2.2 rfl (by decide) _ k FK rfl HOA.out ⟨wr.heap.size, 0, none⟩ 1 1 DN rfl HDL.out HNW.out HONE.out HKB.out.2.2.1 HKB.out.2.2.2 HBA.out.size ?_; intro v1 w2 ho2 hg2 _; have hb2 : Below w.heap.size w w2 := HBA.out.grown hg2 HBA.out.size (fun i hi => (HOA.out.lt i hi).1); obtain ⟨A2, c2, hv2⟩ := own_form ho2; subst hv2; have HO2 := Lib.hid ho2; have HB2 := Lib.hid hb2; clear ho2 hb2 hg2))
      go_roundw
      case rel => exact ⟨k + 1, A2, c2, HKB.out.1, HKB.out.2.1, by go_num, rfl, by rw [HFS.out]; exact HO2.out, HB2.out⟩
      case measure => simp [intOf]; omega
    · have hke : k = min n 24 := by omega
      subst hke
      go_wp2_with fail
      all_goals
        go_ret
        exact ⟨A', c', rfl, HO1.out, HB1.out⟩
end Go.Proofs.YtdjlblfpkieenaaDoor
