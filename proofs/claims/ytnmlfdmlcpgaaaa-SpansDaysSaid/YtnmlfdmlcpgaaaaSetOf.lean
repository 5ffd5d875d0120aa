/- setOf. -/
import Derived.Test.YtnmlfdmlcpgaaaaRowS
import Derived.Deep.QuietTactic
import Derived.BigQuiet
import Derived.LoopTactic
namespace Go.Proofs.Ytnmlfdmlcpgaaaa
open Go.RowKit
set_option linter.unusedVariables false

def SetPost (f : Nat → Bool) (w : World) (e : Ending) (w' : World) : Prop := e = .returned (.agg (bcells f)) ∧ Below w.heap.size w w'

set_option maxHeartbeats 1000000 in
set_option maxRecDepth 100000 in
theorem setOf_any (A : Option Addr) (c : Nat) (l : List (Int × Int)) (w : World) (hS : Sl w A l c) (hl : l.length ≤ 1000000) :
    Calls Try.prog 25 #[.slice A l.length c] w (SetPost (hasB l) w) := by
  have hz1 := zero_set
  have hz2 := zero_chg
  have hn1 := bcells_ne fun _ => false
  have hn2 := icells_ne fun _ => 0
  have HS := Lib.hid hS
  have hx1 := (Box.new w (bcells fun _ => false) 40).alloc (.cells (icells fun _ => 0) 51)
  have hx2 := Box.new (w.alloc (.cells (bcells fun _ => false) 40)) (icells fun _ => 0) 51
  have hb0 := ((Below.refl w.heap.size w).alloc (Nat.le_refl _) (.cells (bcells fun _ => false) 40)).alloc (by simp) (.cells (icells fun _ => 0) 51)
  rw [World.size_alloc] at hx2
  have HX := Lib.hid (And.intro hx1 (And.intro hx2 hb0))
  clear hS hx1 hx2 hb0
  generalize hZ1 : bcells (fun _ => false) = Z1 at *
  generalize hZ2 : icells (fun _ => 0) = Z2 at *
  have HZ1 := Lib.hid hZ1
  have HZ2 := Lib.hid hZ2
  clear hZ1 hZ2
  go_enter Try.func25, Try.ntmps25
  go_wp2_with fail
  go_loopw [12] (fun i wr => ∃ k : Nat, k ≤ l.length ∧ i = .int .i64 k ∧ Box wr (w.heap.size + 1) (icells (chg (l.take k))) 51 ∧ Box wr w.heap.size Z1 40 ∧ Below w.heap.size w wr) (fun i _ => l.length - (intOf i).toNat)
  case atStart =>
    refine ⟨0, Nat.zero_le _, rfl, ?_, HX.out.1, HX.out.2.2⟩
    rw [show chg (l.take 0) = fun _ => 0 from rfl, HZ2.out]
    exact HX.out.2.1
  case round =>
    obtain ⟨k, hk, rfl, hxc, hxs, hbw⟩ := hrel
    clear HX
    by_cases hlt : k < l.length
    · obtain ⟨b, off, rfl, hbl, hc⟩ := HS.out.1 (by omega)
      obtain ⟨sp, hsp⟩ : ∃ sp, l[k]? = some sp := ⟨_, List.getElem?_eq_getElem hlt⟩
      obtain ⟨h1, h2⟩ := hc k sp hsp
      have c1 := (hbw.cell (p := ⟨b, off + k * 2, none⟩) hbl).trans h1
      have c2 := (hbw.cell (p := ⟨b, off + k * 2 + 1, none⟩) hbl).trans h2
      have HC := Lib.hid hxc
      have HXS := Lib.hid hxs
      have HSP := Lib.hid hsp
      have hW0 : Below w.heap.size w (wr.alloc (.cells #[.int .i64 sp.1, .int .i64 sp.2] 31)) := hbw.alloc hbw.size _
      have HC := Lib.hid (hxc.alloc (.cells #[.int .i64 sp.1, .int .i64 sp.2] 31))
      have HXS := Lib.hid (hxs.alloc (.cells #[.int .i64 sp.1, .int .i64 sp.2] 31))
      have htk : l.take (k + 1) = l.take k ++ [sp] := by
        rw [List.take_succ_eq_append_getElem hlt]
        congr 2
        have := List.getElem?_eq_getElem hlt
        rw [hsp] at this
        exact (Option.some.inj this).symm
      have HTK := Lib.hid htk
      have HW0 := Lib.hid hW0
      clear hc h1 h2 hxc hxs hsp htk hW0
      have hlen : (l.take k).length ≤ 1000000 := by rw [List.length_take]; omega
      have hcb := chg_bd (l.take k)
      by_cases hlh : lo sp < hi sp
      · obtain ⟨p, hp⟩ : ∃ p : Nat, lo sp = (p : Int) := ⟨(lo sp).toNat, by have : 0 ≤ lo sp := by unfold lo; omega
                                                                            omega⟩
        obtain ⟨q, hq⟩ : ∃ q : Nat, hi sp = (q : Int) := ⟨(hi sp).toNat, by omega⟩
        have hq2 : q ≤ 1024 := by have : hi sp ≤ 1024 := by unfold hi; omega
                                  omega
        have hpq : p < q := by omega
        have e1 : (if sp.1 < 0 then 0 else sp.1) = (p : Int) := by unfold lo at hp; rw [← hp]; split <;> omega
        have e2 : (if 1024 < sp.2 then 1024 else sp.2) = (q : Int) := by unfold hi at hq; rw [← hq]; split <;> omega
        have hbp := hcb p
        have hbq := hcb q
        have hs1 : ∀ d, chg (l.take (k + 1)) d = if d = q then chg (l.take k) q - 1 else if d = p then chg (l.take k) p + 1 else chg (l.take k) d := by
          intro d
          rw [HTK.out, chg_snoc]
          unfold one
          rw [if_pos hlh, hp, hq]
          by_cases a1 : d = q
          · subst a1; rw [if_pos rfl, if_neg (by omega), if_pos rfl]; omega
          · rw [if_neg a1]
            by_cases a2 : d = p
            · subst a2; rw [if_pos rfl, if_pos rfl, if_neg (by omega)]; omega
            · rw [if_neg a2, if_neg (by omega), if_neg (by omega)]; omega
        have HS1 := Lib.hid hs1
        have cp := HC.out.cell p
        have cq := HC.out.cell q
        rw [show (icells (chg (l.take k)))[p]? = some (.int .i64 (chg (l.take k) p)) from arr_get _ _ _ (by omega)] at cp
        rw [show (icells (chg (l.take k)))[q]? = some (.int .i64 (chg (l.take k) q)) from arr_get _ _ _ (by omega)] at cq
        have fp := HC.out.frozen p
        have fq := HC.out.frozen q
        have hne : ¬ q = p := by omega
        clear hs1 hp hq hlh hcb
        generalize chg (l.take k) p = X at *
        generalize chg (l.take k) q = Y at *
        have b1 : (0 : Int) ≤ (p : Int) ∧ (p : Int) < 1025 := by omega
        have b2 : (0 : Int) ≤ (q : Int) ∧ (q : Int) < 1025 := by omega
        go_wp2_with fail
        go_quiet (fail)
        go_wp2_with fail
        go_roundw
        case rel =>
          have hx : Box ((wr.alloc (.cells #[.int .i64 sp.1, .int .i64 sp.2] 31)).drewN nq) (w.heap.size + 1) (icells (chg (l.take k))) 51 := HC.out
          have hy : Box ((wr.alloc (.cells #[.int .i64 sp.1, .int .i64 sp.2] 31)).drewN nq) w.heap.size Z1 40 := HXS.out
          have hb1 : Below w.heap.size w ((wr.alloc (.cells #[.int .i64 sp.1, .int .i64 sp.2] 31)).drewN nq) := below_drewN HW0.out nq
          refine ⟨k + 1, by omega, by go_num, ?_, ?_, ?_⟩
          · have hs := (hx.set (i := p) (v := .int .i64 (X + 1))).set (i := q) (v := .int .i64 (Y - 1))
            unfold icells at hs ⊢
            rw [arr_set, arr_set] at hs
            rw [arr_congr (g := fun j => if j = q then .int .i64 (Y - 1) else if j = p then .int .i64 (X + 1) else .int .i64 (chg (l.take k) j))]
            · exact hs
            · intro d _
              rw [HS1.out d]
              split
              · rfl
              · split <;> rfl
          · exact (hy.grown (set_grown_at _ (w.heap.size + 1) p _) (by simp)).grown (set_grown_at _ (w.heap.size + 1) q _) (by simp)
          · exact (hb1.setCell (by simp) _).setCell (by simp) _
        case measure => simp [intOf]; omega
      · have hs1 : ∀ d, chg (l.take (k + 1)) d = chg (l.take k) d := by
          intro d
          rw [HTK.out, chg_snoc]
          unfold one
          rw [if_neg hlh]
          omega
        have HS1 := Lib.hid hs1
        obtain ⟨P, e1⟩ : ∃ P, (if sp.1 < 0 then 0 else sp.1) = P := ⟨_, rfl⟩
        obtain ⟨Q, e2⟩ : ∃ Q, (if 1024 < sp.2 then 1024 else sp.2) = Q := ⟨_, rfl⟩
        have hno : ¬ P < Q := by
          rw [← e1, ← e2]
          unfold lo hi at hlh
          intro h
          apply hlh
          split at h <;> split at h <;> omega
        have hd : decide (P < Q) = false := decide_eq_false hno
        clear hs1 hlh hcb
        go_wp2_with fail
        go_quiet (fail)
        go_wp2_with fail
        go_roundw
        case rel =>
          have hx : Box ((wr.alloc (.cells #[.int .i64 sp.1, .int .i64 sp.2] 31)).drewN nq) (w.heap.size + 1) (icells (chg (l.take k))) 51 := HC.out
          have hy : Box ((wr.alloc (.cells #[.int .i64 sp.1, .int .i64 sp.2] 31)).drewN nq) w.heap.size Z1 40 := HXS.out
          refine ⟨k + 1, by omega, by go_num, ?_, hy, below_drewN HW0.out nq⟩
          rw [show icells (chg (l.take (k + 1))) = icells (chg (l.take k)) from arr_congr fun d _ => by rw [HS1.out d]]
          exact hx
        case measure => simp [intOf]; omega
    · obtain rfl : k = l.length := by omega
      rw [List.take_length] at hxc
      have HC := Lib.hid hxc
      have HXS := Lib.hid hxs
      clear hxc hxs
      go_wp2_with fail
      go_loopw [8, 36] (fun o i wr => ∃ k : Nat, k ≤ 1024 ∧ i = .int .i64 k ∧ o = .int .i64 (opn (chg l) k) ∧ Box wr (w.heap.size + 1) (icells (chg l)) 51 ∧ Box wr w.heap.size (bcells fun d => decide (d < k) && hasB l d) 40 ∧ Below w.heap.size w wr) (fun _ i _ => 1024 - (intOf i).toNat)
      case atStart =>
        refine ⟨0, by omega, rfl, rfl, HC.out, ?_, hbw⟩
        rw [show (bcells fun d => decide (d < 0) && hasB l d) = Z1 by rw [← HZ1.out]; exact bcells_congr fun d _ => by simp]
        exact HXS.out
      case round =>
        clear HC HXS hbw
        obtain ⟨k, hk, rfl, rfl, hxc, hxs, hbw⟩ := hrel
        have HXS := Lib.hid hxs
        clear hxs
        by_cases hlt : k < 1024
        · have cp := hxc.cell k
          rw [show (icells (chg l))[k]? = some (.int .i64 (chg l k)) from arr_get _ _ _ (by omega)] at cp
          have cs := HXS.out.cell k
          rw [show (bcells fun d => decide (d < k) && hasB l d)[k]? = some (.bool (decide (k < k) && hasB l k)) from arr_get _ _ _ (by omega)] at cs
          have fs := HXS.out.frozen k
          have ho := opn_bd l k
          have ho1 := opn_bd l (k + 1)
          have hc1 := chg_bd l k
          have hh := opn_has l k hlt
          have he : opn (chg l) (k + 1) = opn (chg l) k + chg l k := rfl
          have HH := Lib.hid hh
          have HE := Lib.hid he
          rw [he] at ho1
          have HC := Lib.hid hxc
          clear hh he hxc
          generalize chg l k = Y at *
          generalize opn (chg l) k = X at *
          have b1 : (0 : Int) ≤ (k : Int) ∧ (k : Int) < 1024 := by omega
          go_wp2_with fail
          go_roundw
          case rel =>
            refine ⟨k + 1, by omega, by go_num, by rw [HE.out], HC.out.grown (set_grown_at _ w.heap.size k _) (by simp), ?_, hbw.setCell (Nat.le_refl _) _⟩
            have hs := HXS.out.set (i := k) (v := .bool (decide (0 < X + Y)))
            unfold bcells at hs ⊢
            rw [arr_set] at hs
            rw [arr_congr (g := fun j => if j = k then .bool (decide (0 < X + Y)) else .bool (decide (j < k) && hasB l j))]
            · exact hs
            · intro d _
              show Value.bool (decide (d < k + 1) && hasB l d) = _
              by_cases e : d = k
              · subst e
                rw [if_pos rfl, ← HH.out, HE.out]
                simp
              · rw [if_neg e]
                have : decide (d < k + 1) = decide (d < k) := by rw [decide_eq_decide]; omega
                rw [this]
          case measure => simp [intOf]; omega
        · obtain rfl : k = 1024 := by omega
          have hxs := HXS.out
          rw [bcells_congr (g := hasB l) fun d hd => by simp [hd]] at hxs
          have hi := size_set (hasB l)
          have hone := bcells_one (hasB l)
          generalize hCS : bcells (hasB l) = CS at *
          have HCS := Lib.hid hCS
          have HI := Lib.hid hi
          have HONE := Lib.hid hone
          have HBX := Lib.hid hxs
          clear hCS hi hone hxs HXS HZ1 HZ2 hz1 hz2 hn1 hn2
          go_wp2_with (first
            | (refine wpList_load_row rfl 40 (.tmp 2) rfl w.heap.size rfl 40 CS (0, 0) _ HBX.out Try.underlying40 rfl HI.out ?_)
            | (refine wpList_store_row rfl 40 (.tmp 2) (.tmp 49) rfl w.heap.size CS rfl rfl 40 CS HBX.out HI.out rfl HONE.out ?_))
          refine bodyPost_ret (v := .agg CS) ?_ rfl ?_
          · exact results_cell_row Try.results25 _ _ w.heap.size 40 CS (0, 0) _ rfl (Box.setRow HBX.out) Try.underlying40 rfl HI.out
          · exact ⟨by rw [HCS.out], hbw.trans (below_grown (setRow_grown wr w.heap.size CS) (Nat.le_refl _) hbw.size)⟩
end Go.Proofs.Ytnmlfdmlcpgaaaa
