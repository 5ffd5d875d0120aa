/- orbitsOf. -/
import Derived.Test.YtobchecnfkocdaaPgO
import Derived.Test.YtobchecnfkocdaaOl
namespace Go.Proofs.Ytobchecnfkocdaa
open Go.RowKit
set_option linter.unusedVariables false
set_option linter.unusedSimpArgs false

/-- slices.Sort of a row of numbers of the call's own. -/
def SortI : Prop := ∀ (B g n c : Nat) (l : List Int) (w : World), w.ownsRow B 3 1 (.slice (some ⟨g, 0, none⟩) n c) n (l.map iv) → n ≤ 1000000 →
  Calls Try.prog 46 #[.slice (some ⟨g, 0, none⟩) n c] w (fun e w' => e = .returned (.tuple #[]) ∧ w'.ownsRow B 3 1 (.slice (some ⟨g, 0, none⟩) n c) n ((l.mergeSort (fun x y => decide (x ≤ y))).map iv) ∧ w.grownBy w' (some g))
theorem rd_zero (gens : List (List Nat)) : (bcs fun _ => false) = bcs (rd gens 0) := bcs_eq fun i _ => by
  cases e : rd gens 0 i with
  | false => rfl
  | true =>
    obtain ⟨x, hx, _⟩ := rd_iff.1 e
    omega
theorem zc_bool2 : Try.zeroCells60 = bcs fun _ => false := by kernel_rfl
theorem ints_append (a : List Nat) (x : Nat) : ints (a ++ [x]) = ints a ++ [(x : Int)] := by
  unfold ints
  rw [List.map_append]
  rfl
theorem grown_up {w w' : World} {B : Nat} (h : w.grownBy w' (some B)) (hz : B ≤ w.heap.size) : Below B w w' := below_grown h (Nat.le_refl _) hz

set_option maxHeartbeats 8000000 in
set_option maxRecDepth 100000 in
theorem orbitsOf_any (hsort : SortI) (n : Nat) (A : Option Addr) (c : Nat) (gens : List (List Nat)) (w : World) (hn : n ≤ 256) (hg : ∀ g ∈ gens, Pm n g) (hA : RI w A (gens.map ints) c) :
    Calls Try.prog 39 #[.int .i64 (n : Int), .slice A gens.length c] w (fun e w' => ∃ A' m c', e = .returned (.slice A' m c') ∧ OL w.heap.size w' A' m c' ((orbs n gens n).map ints) ∧ Below w.heap.size w w') := by
  have HS := Lib.hid hA
  have HG := Lib.hid (And.intro hg hsort)
  have hgl := hA.le
  rw [List.length_map] at hgl
  obtain ⟨G, hG⟩ : ∃ G, gens.length = G := ⟨_, rfl⟩
  have HGL := Lib.hid hG
  rw [hG] at hgl ⊢
  clear hA hg hsort hG
  go_enter Try.func39, Try.ntmps39
  go_wp2_with fail
  rw [zc_bool2, rd_zero gens]
  obtain ⟨B, hB⟩ : ∃ B, w.heap.size = B := ⟨_, rfl⟩
  have HX := Lib.hid (show Box (w.alloc (.cells (bcs (rd gens 0)) 60)) B (bcs (rd gens 0)) 60 from hB ▸ Box.new w _ _)
  have HB := Lib.hid (show Below B w (w.alloc (.cells (bcs (rd gens 0)) 60)) from hB ▸ (Below.refl w.heap.size w).alloc (Nat.le_refl _) _)
  have HBE := Lib.hid hB
  rw [hB]
  clear hB
  generalize w.alloc (.cells (bcs (rd gens 0)) 60) = V at *
  go_loopw [4, 13] (fun v i wr => ∃ (t m c' : Nat) (A' : Option Addr), t ≤ n ∧ m ≤ t ∧ v = .slice A' m c' ∧ i = .int .i64 (t : Int) ∧ OL B wr A' m c' ((orbs n gens t).map ints) ∧ Box wr B (bcs (rd gens t)) 60 ∧ Below B w wr) (fun _ i _ => n - (intOf i).toNat)
  case atStart => exact ⟨0, 0, 0, none, Nat.zero_le _, Nat.le_refl _, rfl, rfl, OL.nil B _, HX.out, HB.out⟩
  case round =>
    obtain ⟨t, m, c', A', ht, hm, rfl, rfl, hol, hbx, hb⟩ := hrel
    obtain ⟨WL, rfl⟩ : ∃ WL, WL = wr := ⟨_, rfl⟩
    have KR := Lib.hid (And.intro hol (And.intro hbx hb))
    clear hol hbx hb HX HB
    by_cases hlt : t < n
    case neg =>
      have hdj : decide ((t : Int) < (n : Int)) = false := decide_eq_false (by omega)
      obtain rfl : t = n := by omega
      have HF := Lib.hid (And.intro KR.out.1 (show Below w.heap.size w WL from by rw [HBE.out]; exact KR.out.2.2))
      go_wp2_with fail
      go_ret
      exact ⟨A', m, c', rfl, by rw [HBE.out]; exact HF.out.1, HF.out.2⟩
    have hdj : decide ((t : Int) < (n : Int)) = true := decide_eq_true (by omega)
    have i0 : (0 : Int) ≤ (t : Int) := by omega
    have i1 : (t : Int) < 256 := by omega
    have z0 : WL.cell? ⟨B, t, none⟩ = some (.bool (rd gens t t)) := (KR.out.2.1.cell t).trans (bcs_at _ (by omega))
    cases hr : rd gens t t with
    | true =>
      rw [hr] at z0
      have HF := Lib.hid (And.intro (show orbs n gens (t + 1) = orbs n gens t from orbs_no (rd_not hr)) (show bcs (rd gens t) = bcs (rd gens (t + 1)) from bcs_eq fun i _ => (rd_same hr i).symm))
      clear hr
      go_wp2_with fail
      go_roundw
      case rel => exact ⟨t + 1, m, c', A', by omega, by omega, rfl, by go_num, by rw [HF.out.1]; exact KR.out.1, by rw [← HF.out.2]; exact KR.out.2.1, KR.out.2.2⟩
      case measure => simp [intOf]; omega
    | false =>
    rw [hr] at z0
    have HR := Lib.hid hr
    clear hr
    have f0 := KR.out.2.1.frozen t
    have hst := KR.out.2.1.set (i := t) (v := .bool true)
    rw [bcs_set, bcs_eq (g := rdo gens t [t]) (fun i _ => rdo_start gens t i)] at hst
    have hBW : B < WL.heap.size := KR.out.2.1.lt
    have hgr := set_grown_at WL B t (.bool true)
    obtain ⟨V1, hV1⟩ : ∃ V1, WL.setCell ⟨B, t, none⟩ (.bool true) = V1 := ⟨_, rfl⟩
    rw [hV1] at hst hgr
    obtain ⟨B2, hB2⟩ : ∃ B2, WL.heap.size = B2 := ⟨_, rfl⟩
    have hV1s : V1.heap.size = B2 := by rw [← hV1, ← hB2]; exact (by simp [World.setCell])
    have hba := (Below.refl V1.heap.size V1).alloc (Nat.le_refl _) (.cells #[.int .i64 (t : Int)] 3)
    have hown := World.ownsRow_lit (base := B2) (e := 3) (size := 1) V1 #[.int .i64 (t : Int)] 1 (by omega) (by unfold maxLen; omega) rfl
    rw [hV1s] at hown
    have K1 := Lib.hid (And.intro (hst.below hba) (And.intro hown (grown_trans hgr (below_row hba (some B)))))
    have HB2 := Lib.hid (And.intro hB2 (And.intro hV1s hBW))
    clear hst hgr hba hown
    go_upto_region 8 with fail
    clear hV1 hV1s hBW hB2 z0 f0
    generalize V1.alloc (.cells #[.int .i64 (t : Int)] 3) = V2 at *
    go_wp2_with fail
    go_loopw [7, 8] (fun v i wx => ∃ (ii k g c2 : Nat) (ob : List Nat), ob.length = k ∧ ii ≤ k ∧ v = .slice (some ⟨g, 0, none⟩) k c2 ∧ i = .int .i64 (ii : Int) ∧ Orb n gens t ob ∧ wx.ownsRow B2 3 1 (.slice (some ⟨g, 0, none⟩) k c2) k ((ints ob).map iv) ∧ Box wx B (bcs (rdo gens t ob)) 60 ∧ WL.grownBy wx (some B) ∧ (∀ (j : Nat) x, j < ii → ob[j]? = some x → ∀ p ∈ gens, p.getD x 0 ∈ ob)) (fun _ i _ => n - (intOf i).toNat)
    case atStart => exact ⟨0, 1, B2, 1, [t], rfl, Nat.zero_le _, rfl, rfl, Orb.start n gens t, K1.out.2.1, K1.out.1, K1.out.2.2, fun j x h => absurd h (by omega)⟩
    case round =>
      obtain ⟨ii, k, g, c2, ob, hk, hii, rfl, rfl, hO, how, hbx, hgr, hcl⟩ := hrel
      have hkn : k ≤ n := by rw [← hk]; exact hO.len HG.out.1 hlt
      have hhas := hO.has
      have KS := Lib.hid (And.intro hO (And.intro how (And.intro hbx (And.intro hgr (And.intro hcl hk)))))
      clear hO how hbx hgr hcl hk K1 hhas
      by_cases hlk : ii < k
      case neg =>
        have hdk : decide ((ii : Int) < (k : Int)) = false := decide_eq_false (by omega)
        obtain rfl : ii = k := by omega
        have hall : ∀ x ∈ ob, ∀ p ∈ gens, p.getD x 0 ∈ ob := fun x hx p hp => by
          obtain ⟨q, hq, e⟩ := List.getElem_of_mem hx
          exact KS.out.2.2.2.2.1 q x (by have := KS.out.2.2.2.2.2; omega) (by rw [List.getElem?_eq_getElem hq, e]) p hp
        have hrd : bcs (rdo gens t ob) = bcs (rd gens (t + 1)) := bcs_eq fun i _ => KS.out.1.rd HG.out.1 hlt hall i
        have hso := KS.out.1.sorted HG.out.1 hlt hall
        have hcs := HG.out.2 B2 g ii c2 (ints ob) wr KS.out.2.1 (by omega)
        rw [hso] at hcs
        have HCS := Lib.hid hcs
        have HRD := Lib.hid (And.intro hrd (orbs_yes (n := n) (rd_lst HR.out)))
        clear hall hrd hso hcs
        go_wp2_with fail
        refine HCS.out.mono ?_
        rintro e w5 ⟨rfl, ho5, hg5⟩
        have hbx5 : Box w5 B (bcs (rd gens (t + 1))) 60 := by
          have := KS.out.2.2.1.grown hg5 (fun e => box_own KS.out.2.2.1 KS.out.2.1 (by decide) e.symm)
          rwa [HRD.out.1] at this
        have hgr5 := grown_own KS.out.2.2.2.1 hg5 (fun i e => by rw [HB2.out.1]; exact (KS.out.2.1.lt i e).1)
        have hol5 := KR.out.1.kept hgr5 KR.out.2.1 (by decide) (by decide)
        have hlen5 : (ints (orb n gens t)).length = ii := by have := ho5.1; rw [List.length_map] at this; omega
        have hba5 := (Below.refl w5.heap.size w5).alloc (Nat.le_refl _) (.cells #[.slice (some ⟨g, 0, none⟩) ii c2] 22)
        have hsi5 : Si w5 (some ⟨g, 0, none⟩) (ints (orb n gens t)) c2 := Sv.of_own ho5 (by rw [List.length_map]; exact hlen5)
        have htb5 := Tb.of_own ho5
        have hbel5 : Below B w w5 := KR.out.2.2.trans (grown_up hgr5 (by have := HB2.out.2.2; omega))
        have K5 := Lib.hid (And.intro (hol5.up hba5) (And.intro (hbx5.below hba5) (And.intro (hsi5.up hba5) (And.intro (htb5.up hba5) (And.intro hlen5 (hbel5.trans (hba5.mono (by have := hbx5.lt; omega))))))))
        clear ho5 hg5 hbx5 hgr5 hol5 hlen5 hba5 hsi5 htb5 hbel5 KS HCS
        go_wp2_with (at_builtin; refine wpList_append_ol rfl (.tmp 55) (.tmp 57) rfl A' m c' _ rfl K5.out.1 w5.heap.size (some ⟨g, 0, none⟩) (ints (orb n gens t)) ii c2 K5.out.2.2.2.2.1 rfl (Box.new w5 _ _) K5.out.2.2.1 K5.out.2.2.2.1 (by omega) (by have := K5.out.2.1.lt; omega) ?_; intro g6 c6 w6 hO6 hb6 hk6; have H6 := Lib.hid (And.intro hO6 (And.intro (hk6 _ _ _ (by decide) K5.out.2.1) (K5.out.2.2.2.2.2.trans hb6))); clear hO6 hb6 hk6)
        go_roundw
        case rel => exact ⟨t + 1, m + 1, c6, some ⟨g6, 0, none⟩, by omega, by omega, rfl, by go_num, by rw [HRD.out.2, List.map_append]; exact H6.out.1, H6.out.2.1, H6.out.2.2⟩
        case measure => simp [intOf]; omega
      have hdk : decide ((ii : Int) < (k : Int)) = true := decide_eq_true (by omega)
      obtain ⟨x0, hx0⟩ : ∃ x0, ob[ii]? = some x0 := ⟨_, List.getElem?_eq_getElem (by rw [KS.out.2.2.2.2.2]; exact hlk)⟩
      have HX0 := Lib.hid hx0
      have hx0n : x0 < n := KS.out.1.lt HG.out.1 hlt x0 (List.mem_of_getElem? hx0)
      have HXR := Lib.hid (KS.out.1.rch x0 (List.mem_of_getElem? hx0))
      clear hx0
      go_wp2_with fail
      go_loopw [7, 31] (fun v i wy => ∃ (j k2 g2 c3 : Nat) (ob2 : List Nat), ob2.length = k2 ∧ j ≤ G ∧ k ≤ k2 ∧ v = .slice (some ⟨g2, 0, none⟩) k2 c3 ∧ i = .int .i64 (j : Int) ∧ Orb n gens t ob2 ∧ wy.ownsRow B2 3 1 (.slice (some ⟨g2, 0, none⟩) k2 c3) k2 ((ints ob2).map iv) ∧ Box wy B (bcs (rdo gens t ob2)) 60 ∧ WL.grownBy wy (some B) ∧ (∀ (j : Nat) x, j < ii → ob2[j]? = some x → ∀ p ∈ gens, p.getD x 0 ∈ ob2) ∧ ob2[ii]? = some x0 ∧ (∀ (q : Nat) p, q < j → gens[q]? = some p → p.getD x0 0 ∈ ob2)) (fun _ i _ => G - (intOf i).toNat)
      case atStart => exact ⟨0, k, g, c2, ob, KS.out.2.2.2.2.2, Nat.zero_le _, Nat.le_refl _, rfl, rfl, KS.out.1, KS.out.2.1, KS.out.2.2.1, KS.out.2.2.2.1, KS.out.2.2.2.2.1, HX0.out, fun q p h => absurd h (by omega)⟩
      case round =>
        obtain ⟨j, k2, g2, c3, ob2, hk2, hj, hkk, rfl, rfl, hO, how, hbx, hgr, hcl, hoi, hcj⟩ := hrel
        have hkn2 : k2 ≤ n := by rw [← hk2]; exact hO.len HG.out.1 hlt
        have KT := Lib.hid (And.intro hO (And.intro how (And.intro hbx (And.intro hgr (And.intro hcl (And.intro hk2 (And.intro hoi hcj)))))))
        clear hO how hbx hgr hcl hk2 hoi hcj KS
        by_cases hlj : j < G
        case neg =>
          have hdj2 : decide ((j : Int) < (G : Int)) = false := decide_eq_false (by omega)
          obtain rfl : j = G := by omega
          go_wp2_with fail
          go_roundw
          case rel => exact ⟨ii + 1, k2, g2, c3, ob2, KT.out.2.2.2.2.2.1, by omega, rfl, by go_num, KT.out.1, KT.out.2.1, KT.out.2.2.1, KT.out.2.2.2.1, fun j2 x hj2 hx p hp => by
            by_cases hji : j2 < ii
            · exact KT.out.2.2.2.2.1 j2 x hji hx p hp
            · have e : j2 = ii := by omega
              subst e
              have hqz : x = x0 := Option.some.inj (hx.symm.trans KT.out.2.2.2.2.2.2.1)
              subst hqz
              obtain ⟨q, hq, e⟩ := List.getElem_of_mem hp
              exact KT.out.2.2.2.2.2.2.2 q p (by have := HGL.out; omega) (by rw [List.getElem?_eq_getElem hq, e])⟩
          case measure => simp [intOf]; omega
        have hdj2 : decide ((j : Int) < (G : Int)) = true := decide_eq_true (by omega)
        obtain ⟨p, hp⟩ : ∃ p, gens[j]? = some p := ⟨_, List.getElem?_eq_getElem (by rw [HGL.out]; exact hlj)⟩
        have hpm := HG.out.1 p (List.mem_of_getElem? hp)
        have HP := Lib.hid (And.intro hp hpm)
        obtain ⟨b, off, A1, c1, rfl, hbl, hc, hs⟩ := HS.out.at_ (i := j) (l := ints p) (by rw [List.getElem?_map, hp]; rfl)
        rw [ints_length, hpm.1] at hc
        have hBW2 : B ≤ WL.heap.size := by have := HB2.out.2.2; omega
        have hbe : Below B w wr := KR.out.2.2.trans (grown_up KT.out.2.2.2.1 hBW2)
        have hwb : Below w.heap.size w wr := by rw [HBE.out]; exact hbe
        have z1 : wr.cell? ⟨b, off + j, none⟩ = some (.slice A1 n c1) := (hwb.cell (p := ⟨b, off + j, none⟩) hbl).trans hc
        obtain ⟨b1, o1, rfl, hbl1, hc1⟩ := (hs.up hwb).at_ (j := x0) (x := ((p.getD x0 0 : Nat) : Int)) (by rw [getD_get (by rw [hpm.1]; exact hx0n)]; exact ints_at (List.getElem?_eq_getElem (by rw [hpm.1]; exact hx0n)))
        have hx1n : p.getD x0 0 < n := hpm.lt hx0n
        have hrc : Rch gens t (p.getD x0 0) := HXR.out.step (List.mem_of_getElem? hp)
        obtain ⟨x1, hx1⟩ : ∃ x1, p.getD x0 0 = x1 := ⟨_, rfl⟩
        have HX1 := Lib.hid hx1
        rw [hx1] at hc1 hx1n hrc
        have z2 : wr.cell? ⟨g2, ii, none⟩ = some (.int .i64 (x0 : Int)) := by
          rw [KT.out.2.1.cellAt ii (by omega), List.getElem?_map, ints_at KT.out.2.2.2.2.2.2.1]
          rfl
        have z3 : wr.cell? ⟨B, x1, none⟩ = some (.bool (rdo gens t ob2 x1)) := (KT.out.2.2.1.cell x1).trans (bcs_at _ (by omega))
        have hin := rdo_in KT.out.1 HG.out.1 hlt HR.out hrc
        have i2 : (0 : Int) ≤ (ii : Int) := by omega
        have i3 : (ii : Int) < (k2 : Int) := by omega
        have i4 : (0 : Int) ≤ (j : Int) := by omega
        have i5 : (j : Int) < (G : Int) := by omega
        have i6 : (0 : Int) ≤ (x0 : Int) := by omega
        have i7 : (x0 : Int) < (n : Int) := by omega
        have i8 : (0 : Int) ≤ (x1 : Int) := by omega
        have i9 : (x1 : Int) < 256 := by omega
        have HRC := Lib.hid hrc
        by_cases hmem : x1 ∈ ob2
        case pos =>
          rw [hin, decide_eq_true hmem] at z3
          have HM := Lib.hid hmem
          clear hmem hin hp hpm hbl hc hs hBW2 hbe hwb hbl1 hx1 hrc hx1n
          go_wp2_with fail
          go_roundw
          case rel => exact ⟨j + 1, k2, g2, c3, ob2, KT.out.2.2.2.2.2.1, by omega, hkk, rfl, by go_num, KT.out.1, KT.out.2.1, KT.out.2.2.1, KT.out.2.2.2.1, KT.out.2.2.2.2.1, KT.out.2.2.2.2.2.2.1, fun q y hq hy => by
            by_cases hqj : q < j
            · exact KT.out.2.2.2.2.2.2.2 q y hqj hy
            · have e : q = j := by omega
              subst e
              have hqz : y = p := Option.some.inj (hy.symm.trans HP.out.1)
              subst hqz
              rw [HX1.out]
              exact HM.out⟩
          case measure => simp [intOf]; omega
        rw [hin, decide_eq_false hmem] at z3
        have HOA := Lib.hid (KT.out.1.add hrc hmem)
        have f3 := KT.out.2.2.1.frozen x1
        have hst := KT.out.2.2.1.set (i := x1) (v := .bool true)
        rw [bcs_set, bcs_eq (g := rdo gens t (ob2 ++ [x1])) (fun i _ => rdo_add gens t ob2 x1 i)] at hst
        have hgs := set_grown_at wr B x1 (.bool true)
        have hog := KT.out.2.1.kept hgs (.inr (box_own KT.out.2.2.1 KT.out.2.1 (by decide)))
        obtain ⟨V3, hV3⟩ : ∃ V3, wr.setCell ⟨B, x1, none⟩ (.bool true) = V3 := ⟨_, rfl⟩
        rw [hV3] at hst hgs hog
        have hsz3 : B2 ≤ V3.heap.size := by have h1 := hgs.size; have h2 := KT.out.2.2.2.1.size; have h3 := HB2.out.1; omega
        have hba2 := (Below.refl V3.heap.size V3).alloc (Nat.le_refl _) (.cells #[.int .i64 (x1 : Int)] 3)
        have HA := Lib.hid (And.intro (own_below hog hba2) (And.intro (hst.below hba2) (And.intro (grown_trans (grown_trans KT.out.2.2.2.1 hgs) (below_row hba2 (some B))) (Nat.le_trans hsz3 hba2.size))))
        clear hmem hin hp hpm hbl hc hs hBW2 hbe hwb hbl1 hx1 hrc hx1n hst hgs hog hsz3 hba2
        go_wp2_with (at_builtin; refine wpList_append_int rfl (.tmp 48) (.tmp 50) rfl _ k2 _ rfl HA.out.1 V3.heap.size (x1 : Int) rfl (Box.new V3 _ _) (by omega) HA.out.2.2.2 ?_; intro g3 c4 w7 ho7 hg7; have H7 := Lib.hid (And.intro ho7 (And.intro (HA.out.2.1.grown hg7 (fun e => box_own HA.out.2.1 HA.out.1 (by decide) e.symm)) (grown_own HA.out.2.2.1 hg7 (fun i e => by rw [HB2.out.1]; exact (HA.out.1.lt i e).1)))); clear ho7 hg7)
        go_roundw
        case rel =>
          have hla : ∀ (j2 : Nat), j2 ≤ ii → (ob2 ++ [x1])[j2]? = ob2[j2]? := fun j2 h => List.getElem?_append_left (by have := KT.out.2.2.2.2.2.1; omega)
          refine ⟨j + 1, k2 + 1, g3, c4, ob2 ++ [x1], by rw [List.length_append, List.length_singleton, KT.out.2.2.2.2.2.1], by omega, by omega, rfl, by go_num, HOA.out, by rw [ints_append]; exact H7.out.1, H7.out.2.1, H7.out.2.2, fun j2 x hj2 hx p hp => ?_, by rw [hla ii (Nat.le_refl _)]; exact KT.out.2.2.2.2.2.2.1, fun q y hq hy => ?_⟩
          · rw [hla j2 (by omega)] at hx
            exact List.mem_append_left _ (KT.out.2.2.2.2.1 j2 x hj2 hx p hp)
          · by_cases hqj : q < j
            · exact List.mem_append_left _ (KT.out.2.2.2.2.2.2.2 q y hqj hy)
            · have e : q = j := by omega
              subst e
              have hqz : y = p := Option.some.inj (hy.symm.trans HP.out.1)
              subst hqz
              rw [HX1.out]
              simp
        case measure => simp [intOf]; omega
end Go.Proofs.Ytobchecnfkocdaa
