/- LexSpaces. -/
import Derived.Test.YticepaljociefaaDoorPlS
namespace Go.Proofs.YticepaljociefaaDoor
open Go.RowKit Go.Shelf
set_option linter.unusedVariables false
set_option linter.unusedSimpArgs false
theorem bs_append' (a b : List UInt8) : bs a ++ bs b = bs (a ++ b) := by
  apply ByteArray.ext
  rw [ByteArray.data_append]
  simp [bs]
theorem bs_s0 : (⟨#[]⟩ : ByteArray) = bs [] := rfl
theorem bs_s1 : (⟨#[32]⟩ : ByteArray) = bs [32] := rfl
theorem bs_s2 : (⟨#[10]⟩ : ByteArray) = bs [10] := rfl
theorem bs_s3 : (⟨#[47, 47]⟩ : ByteArray) = bs [47, 47] := rfl
attribute [local go_sem] bs_append' bs_s0 bs_s1 bs_s2 bs_s3
theorem no_sum2 {a b : List UInt8} (h : a.length + b.length ≤ 1000000000) : ¬ 9223372036854775807 < (bs a).size + (bs b).size := by
  rw [bs_size, bs_size]
  omega
theorem bs_one {l : List UInt8} {i : Nat} {b : UInt8} (h : l[i]? = some b) (t : TypeId) (ht : Tryd.prog.underlying t = some .string) (w : World) : (Instr.slice t (.string (bs l)) (some (.int .i64 (i : Int))) (some (.int .i64 ((i : Int) + 1))) none).run Tryd.prog w = .ok (.string (bs [b])) w := by
  have hi := (List.getElem?_eq_some_iff.1 h).1
  rw [run_slice_string (h := ht) (h0 := by omega) (h1 := by omega) (h2 := by rw [bs_size]; omega)]
  congr 2
  apply ByteArray.ext
  rw [ByteArray.data_extract, show ((i : Int) + 1).toNat = i + 1 by omega, Int.toNat_natCast]
  apply Array.ext'
  show ((l.toArray).extract i (i + 1)).toList = [b]
  rw [Array.toList_extract]
  show (l.extract i (i + 1)) = [b]
  rw [List.extract_eq_take_drop, show i + 1 - i = 1 by omega, List.drop_eq_getElem_cons hi, (List.getElem?_eq_some_iff.1 h).2]
  rfl
/-- The gap behind the j-th token. -/
def gg (W u : List UInt8) (j : Nat) : List UInt8 := if j < u.length then (gs W).getD ((u.getD j 0).toNat % 8) [] else [32]
theorem gs_get {W : List UInt8} {k : Nat} (hk : k < 8) : (gs W).getD k [] ∈ gs W := by
  rw [List.getD_eq_getElem?_getD, List.getElem?_eq_getElem (show k < (gs W).length from hk)]
  exact List.getElem_mem _
theorem gg_pa {W : List UInt8} (h : W.all noLf = true) (u : List UInt8) (j : Nat) : Pa (gg W u j) := by
  unfold gg
  split
  · exact gs_pa h _ (gs_get (Nat.mod_lt _ (by decide)))
  · exact Pa.blank (by decide)
theorem gg_len {W : List UInt8} (h : W.length ≤ 100) (u : List UInt8) (j : Nat) : (gg W u j).length ≤ 103 := by
  unfold gg
  split
  · exact gs_len h _ (gs_get (Nat.mod_lt _ (by decide)))
  · decide
def gcs (W : List UInt8) : Array Value := #[.string (bs [32]), .string ⟨#[9]⟩, .string (bs [10]), .string ⟨#[13, 10]⟩, .string ⟨#[32, 32]⟩, .string (bs (47 :: 47 :: (W ++ [10]))), .string ⟨#[32, 47, 47, 32, 10]⟩, .string ⟨#[10, 47, 47, 10]⟩]
theorem gcs_at (W : List UInt8) : ∀ k, k < 8 → (gcs W)[k]? = some (.string (bs ((gs W).getD k [])))
  | 0, _ => rfl
  | 1, _ => rfl
  | 2, _ => rfl
  | 3, _ => rfl
  | 4, _ => rfl
  | 5, _ => rfl
  | 6, _ => rfl
  | 7, _ => rfl
  | k + 8, h => absurd h (by omega)
theorem filter_at {q : List UInt8} {i : Nat} {b : UInt8} (h : q[i]? = some b) : (q.take (i + 1)).filter noLf = (q.take i).filter noLf ++ (if noLf b then [b] else []) := by
  rw [List.take_add_one, h, List.filter_append]
  show _ ++ List.filter noLf [b] = _
  cases hb : noLf b <;> simp [hb]
theorem filter_len (q : List UInt8) (i : Nat) : ((q.take i).filter noLf).length ≤ q.length := by
  have h1 := List.length_filter_le noLf (q.take i)
  rw [List.length_take] at h1
  omega
theorem txo_one {t : Tk} : txo [t] = if vtk t = true then (txk t, 0) else ([], 100) := by
  unfold txo
  by_cases h : vtk t = true
  · rw [if_pos h, if_pos (by rw [List.all_cons, h]; rfl)]
    exact congrArg (fun x => (x, (0 : Int))) (Lib.join_one _ _)
  · rw [if_neg h, if_neg (by rw [List.all_cons]; intro h2; rw [Bool.and_eq_true] at h2; exact h h2.1)]

set_option maxHeartbeats 8000000 in
set_option maxRecDepth 100000 in
theorem lawSpaces_any (A : Option Addr) (c : Nat) (l : List Tk) (A1 : Option Addr) (c1 : Nat) (u : List UInt8) (q : List UInt8) (w : World) (hK : KT w ∧ PT w) (hA : TT w A l c) (hS : Sl w A1 u c1) (hq : q.length ≤ 9223372036854775807) :
    Calls Tryd.prog 8 #[.slice A l.length c, .slice A1 u.length c1, .string (bs q)] w (BoolPost true w) := by
  have HSN := Lib.hid (sane_any w hK.1 hK.2)
  have HKP := Lib.hid hK
  have HA := Lib.hid (And.intro hA hS)
  unfold BoolPost at HSN ⊢
  have hL9 : l.length ≤ 9223372036854775807 := by have := Nat.le_trans hA.2.1 hA.2.2.1; unfold maxLen at this; omega
  have hU9 : u.length ≤ 9223372036854775807 := by have := Nat.le_trans hS.2.1 hS.2.2.1; unfold maxLen at this; omega
  have HFW := Lib.hid (fun V (hb : Below w.heap.size w V) => few_any l A c V (hA.up hb))
  obtain ⟨L, hL⟩ : ∃ L, l.length = L := ⟨_, rfl⟩
  obtain ⟨U, hU⟩ : ∃ U, u.length = U := ⟨_, rfl⟩
  obtain ⟨Q, hQ⟩ : ∃ Q, q.length = Q := ⟨_, rfl⟩
  have HL := Lib.hid (And.intro hL (And.intro hU hQ))
  have hlen : ∀ wx, (Builtin.len_ #[9] 3 #[.string (bs q)]).run Tryd.prog wx = .ok (.int .i64 (Q : Int)) wx := fun wx => by rw [bs_len q _ _ Tryd.underlying9, hQ]
  rw [hL] at hL9 HFW
  rw [hU] at hU9
  rw [hQ] at hq
  rw [hL, hU]
  clear hK hL hU hQ hA hS
  go_enter Tryd.func8, Tryd.ntmps8
  go_wp2_with fail
  refine HSN.out.mono ?_
  rintro e ws ⟨rfl, hbs⟩
  have HB := Lib.hid hbs
  have HF := Lib.hid (HFW.out ws HB.out)
  unfold FewP at HF
  clear hbs HSN HFW
  go_wp2_with fail
  refine HF.out.mono ?_
  rintro e wf ⟨z, rfl, hb, hfew⟩
  have HB := Lib.hid (HB.out.trans (hb.mono HB.out.size))
  clear hb HF
  cases z with
  | false =>
    clear hfew
    go_wp2_with fail
    go_ret
    exact ⟨rfl, HB.out⟩
  | true =>
  have hL200 := hfew rfl
  clear hfew
  by_cases h100 : 100 < Q
  case pos =>
    have hd : decide ((100 : Int) < (Q : Int)) = true := decide_eq_true (by omega)
    have hd2 : (100 : Int) < (Q : Int) := by omega
    go_wp2_with fail
    go_ret
    exact ⟨rfl, HB.out⟩
  have hd : decide ((100 : Int) < (Q : Int)) = false := decide_eq_false (by omega)
  have hd2 : ¬ (100 : Int) < (Q : Int) := by omega
  go_wp2_with fail
  obtain ⟨WF, rfl⟩ : ∃ WF, WF = wf := ⟨_, rfl⟩
  go_loopw [7, 8] (fun v i wr => ∃ p : Nat, p ≤ Q ∧ v = .string (bs ((q.take p).filter noLf)) ∧ i = .int .i64 (p : Int) ∧ WF = wr) (fun _ i _ => Q - (intOf i).toNat)
  case atStart => exact ⟨0, Nat.zero_le _, rfl, rfl, rfl⟩
  case round =>
    obtain ⟨p, hp, rfl, rfl, hwr⟩ := hrel
    subst hwr
    obtain ⟨wr, rfl⟩ : ∃ wr, wr = WF := ⟨_, rfl⟩
    by_cases hlp : p < Q
    case pos =>
      have hdp : decide ((p : Int) < (Q : Int)) = true := decide_eq_true (by omega)
      obtain ⟨b, hb⟩ : ∃ b, q[p]? = some b := ⟨_, List.getElem?_eq_getElem (by have := HL.out.2.2; omega)⟩
      have hix : ∀ wx, (Instr.index 9 (.string (bs q)) (.int .i64 (p : Int))).run Tryd.prog wx = .ok (bv b) wx := fun wx => bs_idx hb _ Tryd.underlying9 wx
      have hmd : ∀ wx, (Instr.slice 9 (.string (bs q)) (some (.int .i64 (p : Int))) (some (.int .i64 ((p : Int) + 1))) none).run Tryd.prog wx = .ok (.string (bs [b])) wx := fun wx => bs_one hb _ Tryd.underlying9 wx
      have HFA := Lib.hid (filter_at hb)
      have hfl := filter_len q p
      rw [HL.out.2.2] at hfl
      unfold bv at hix
      obtain ⟨x, hx⟩ : ∃ x, (q.take p).filter noLf = x := ⟨_, rfl⟩
      rw [hx] at HFA hfl
      rw [hx]
      obtain ⟨n0, hn0⟩ : ∃ n, b.toNat = n := ⟨_, rfl⟩
      rw [hn0] at hix
      have HNL := Lib.hid (show noLf b = (n0 != 10) from by unfold noLf; rw [hn0])
      clear hx hb hn0
      by_cases h10 : n0 = 10
      · have hq1 : ((n0 : Int) != 10) = false := by rw [bne_eq_false_iff_eq]; omega
        have HE := Lib.hid (show (q.take (p + 1)).filter noLf = x from by rw [HFA.out, HNL.out, show (n0 != 10) = false from by rw [bne_eq_false_iff_eq]; exact h10]; simp)
        go_wp2_with fail
        go_roundw
        case rel => exact ⟨p + 1, by omega, by rw [HE.out], by go_num, trivial⟩
        case measure => simp [intOf]; omega
      · have hq1 : ((n0 : Int) != 10) = true := by rw [bne_iff_ne]; omega
        have hq2 : ¬ (n0 : Int) = 10 := by omega
        have HE := Lib.hid (show (q.take (p + 1)).filter noLf = x ++ [b] from by rw [HFA.out, HNL.out, show (n0 != 10) = true from by rw [bne_iff_ne]; exact h10]; rfl)
        have hsz := no_sum2 (a := x) (b := [b]) (by simp; omega)
        go_wp2_with fail
        go_roundw
        case rel => exact ⟨p + 1, by omega, by rw [HE.out], by go_num, trivial⟩
        case measure => simp [intOf]; omega
    case neg =>
    have hdp : decide ((p : Int) < (Q : Int)) = false := decide_eq_false (by omega)
    obtain ⟨W, hW⟩ : ∃ W, (q.take p).filter noLf = W := ⟨_, rfl⟩
    have hWl : W.length ≤ 100 := by rw [← hW]; have := filter_len q p; have := HL.out.2.2; omega
    have hWn : W.all noLf = true := by
      rw [← hW]
      exact List.all_eq_true.2 fun b hb => (List.mem_filter.1 hb).2
    have HW := Lib.hid (And.intro hWl hWn)
    rw [hW]
    have hz0 := no_sum2 (a := [47, 47]) (b := W) (by simp; omega)
    have hz1 := no_sum2 (a := 47 :: 47 :: W) (b := [10]) (by simp; omega)
    clear hW hWl hWn
    go_upto_region 12 with fail
    have HX := Lib.hid (show Box (wr.alloc (.cells (gcs W) 9)) wr.heap.size (gcs W) 9 from Box.new wr _ _)
    have hal := (Below.refl wr.heap.size wr).alloc (Nat.le_refl _) (.cells (gcs W) 9)
    unfold gcs at hal
    have HB := Lib.hid (HB.out.trans (hal.mono HB.out.size))
    obtain ⟨BX, hBX⟩ : ∃ BX, wr.heap.size = BX := ⟨_, rfl⟩
    obtain ⟨wb, hwb⟩ : ∃ wb, wr.alloc (.cells (gcs W) 9) = wb := ⟨_, rfl⟩
    have HBS := Lib.hid (show BX < wb.heap.size from by rw [← hwb, World.size_alloc, hBX]; exact Nat.lt_succ_self _)
    rw [hwb, hBX] at HX
    unfold gcs at hwb
    rw [hwb] at HB
    rw [hwb, hBX]
    clear hal hwb hBX hz0 hz1
    go_wp2_with fail
    go_loopw [10, 54] (fun v i wr => ∃ j : Nat, j ≤ L ∧ v = .string (bs (10 :: sp (gg W u) (l.take j) 0)) ∧ i = .int .i64 (j : Int) ∧ (∀ (k : Nat) t, k < j → l[k]? = some t → vtk t = true) ∧ Below wb.heap.size wb wr) (fun _ i _ => L - (intOf i).toNat)
    case atStart => exact ⟨0, Nat.zero_le _, rfl, rfl, fun k _ h => absurd h (by omega), Below.refl _ _⟩
    case round =>
      obtain ⟨j, hj, rfl, rfl, hin, hb⟩ := hrel
      have HIN := Lib.hid hin
      have HBR := Lib.hid hb
      have HBW := Lib.hid (HB.out.trans (hb.mono HB.out.size))
      have hall : (l.take j).all vtk = true := List.all_eq_true.2 fun t htm => by
        obtain ⟨k, hk, e⟩ := List.getElem_of_mem htm
        rw [List.length_take] at hk
        rw [List.getElem_take] at e
        exact HIN.out k t (by omega) (by rw [List.getElem?_eq_getElem (by omega), e])
      have hsl := sp_len (gg_len HW.out.1 u) (l.take j) 0 hall
      rw [List.length_take, HL.out.1] at hsl
      have hsl : (sp (gg W u) (l.take j) 0).length ≤ 27200 := by omega
      clear hin hb
      by_cases hlt : j < L
      case neg =>
        obtain rfl : j = L := by omega
        have hdj : decide ((j : Int) < (j : Int)) = false := decide_eq_false (by omega)
        have htl : l.take j = l := List.take_of_length_le (by have := HL.out.1; omega)
        rw [htl] at hall hsl
        rw [htl]
        obtain ⟨m, hm, hs⟩ := sp_lex (gg_pa HW.out.2 u) hall (by omega)
        have HLX := Lib.hid (lex_any (10 :: sp (gg W u) l 0) wr (HKP.out.1.below HBW.out) (by rw [List.length_cons]; omega))
        rw [hm] at HLX
        unfold LexP at HLX
        simp only at HLX
        obtain ⟨S, hS⟩ : ∃ S, (10 :: sp (gg W u) l 0 : List UInt8) = S := ⟨_, rfl⟩
        rw [hS] at HLX
        rw [hS]
        have HS := Lib.hid hs
        clear hall hsl hm hs hS htl
        go_wp2_with fail
        refine HLX.out.mono ?_
        rintro e wl ⟨A2, c2, rfl, hT, hb⟩
        have HBW := Lib.hid (HBW.out.trans (hb.mono HBW.out.size))
        have hsm := same_any l m A A2 c c2 wl (HA.out.1.up HBW.out) hT
        rw [HS.out, HL.out.1] at hsm
        have HSM := Lib.hid hsm
        unfold BoolPost at HSM
        clear hT hb HLX hsm
        go_wp2_with fail
        refine HSM.out.mono ?_
        rintro e wz ⟨rfl, hb⟩
        have HBW := Lib.hid (HBW.out.trans (hb.mono HBW.out.size))
        clear hb
        go_wp2_with fail
        go_ret
        exact ⟨rfl, HBW.out⟩
      have hdj : decide ((j : Int) < (L : Int)) = true := decide_eq_true (by omega)
      have hj0 : (0 : Int) ≤ (j : Int) := by omega
      have hjL : (j : Int) < (L : Int) := by omega
      obtain ⟨t, ht⟩ : ∃ t, l[j]? = some t := ⟨_, List.getElem?_eq_getElem (by have := HL.out.1; omega)⟩
      obtain ⟨bA, oA, e1, hbA, x0, x1, x2, x3⟩ := HA.out.1.at_ ht
      subst e1
      have z0 := (HBW.out.cell (p := ⟨bA, oA + j * 4, none⟩) hbA).trans x0
      have z1 := (HBW.out.cell (p := ⟨bA, oA + j * 4 + 1, none⟩) hbA).trans x1
      have z2 := (HBW.out.cell (p := ⟨bA, oA + j * 4 + 2, none⟩) hbA).trans x2
      have z3 := (HBW.out.cell (p := ⟨bA, oA + j * 4 + 3, none⟩) hbA).trans x3
      have ha1 := (Below.refl wr.heap.size wr).alloc (Nat.le_refl _) (.cells #[.int .i64 t.k, .string (bs t.t), .int .i64 t.n, .int .i64 t.p] 35)
      have ha2 := (Below.refl (wr.alloc (.cells #[.int .i64 t.k, .string (bs t.t), .int .i64 t.n, .int .i64 t.p] 35)).heap.size _).alloc (Nat.le_refl _) (.cells #[.int .i64 t.k, .string (bs t.t), .int .i64 t.n, .int .i64 t.p] 35)
      have ha := ha1.trans (ha2.mono ha1.size)
      have hbx := Box.new (wr.alloc (.cells #[.int .i64 t.k, .string (bs t.t), .int .i64 t.n, .int .i64 t.p] 35)) #[.int .i64 t.k, .string (bs t.t), .int .i64 t.n, .int .i64 t.p] 35
      rw [World.size_alloc] at hbx
      have hB2 := HBW.out.trans (ha.mono HBW.out.size)
      have htx := text_all [t] (some ⟨wr.heap.size + 1, 0, none⟩) 1 ((wr.alloc (.cells #[.int .i64 t.k, .string (bs t.t), .int .i64 t.n, .int .i64 t.p] 35)).alloc (.cells #[.int .i64 t.k, .string (bs t.t), .int .i64 t.n, .int .i64 t.p] 35)) (TT.of_box (l := [t]) hbx (by simp)) (HKP.out.1.below hB2) (HKP.out.2.below hB2) (by simp)
      have HBW2 := Lib.hid hB2
      have HBR2 := Lib.hid (HBR.out.trans (ha.mono HBR.out.size))
      rw [txo_one] at htx
      have HTJ := Lib.hid ht
      have HTL := Lib.hid (show (l.take j).length = j from by rw [List.length_take, HL.out.1]; omega)
      have HTK := Lib.hid (show l.take (j + 1) = l.take j ++ [t] from by rw [List.take_add_one, ht]; rfl)
      obtain ⟨S, hS⟩ : ∃ S, (10 :: sp (gg W u) (l.take j) 0 : List UInt8) = S := ⟨_, rfl⟩
      have hSl : S.length ≤ 27201 := by rw [← hS, List.length_cons]; omega
      have HSS := Lib.hid hS
      rw [hS]
      clear ha1 ha2 ha hbx hB2 x0 x1 x2 x3 hbA ht hS hall hsl
      cases hv : vtk t with
      | false =>
        rw [hv] at htx
        simp only [Bool.false_eq_true, if_false] at htx
        have HTX := Lib.hid htx
        unfold TextP at HTX
        have hno : txo l = ([], 100) := if_neg (fun h => by
          have := List.all_eq_true.1 h t (List.mem_of_getElem? HTJ.out)
          rw [hv] at this
          cases this)
        have HTY := Lib.hid (fun V (hb : Below w.heap.size w V) => text_all l _ c V (HA.out.1.up hb) (HKP.out.1.below hb) (HKP.out.2.below hb) (by have := HL.out.1; omega))
        simp only [hno, HL.out.1] at HTY
        unfold TextP at HTY
        clear htx hv hno
        go_wp2_with fail
        refine HTX.out.mono ?_
        rintro e w2 ⟨rfl, hb⟩
        have HBW := Lib.hid (HBW2.out.trans (hb.mono HBW2.out.size))
        have HT2 := Lib.hid (HTY.out w2 HBW.out)
        clear hb HTX HTY z0 z1 z2 z3
        go_wp2_with fail
        refine HT2.out.mono ?_
        rintro e w3 ⟨rfl, hb⟩
        have HBW := Lib.hid (HBW.out.trans (hb.mono HBW.out.size))
        clear hb
        go_wp2_with fail
        go_ret
        exact ⟨rfl, HBW.out⟩
      | true =>
      rw [hv] at htx
      simp only [if_true] at htx
      have HTX := Lib.hid htx
      unfold TextP at HTX
      have HIN2 := Lib.hid (show ∀ (k : Nat) t, k < j + 1 → l[k]? = some t → vtk t = true from fun k t' hk h1 => by
        rcases Nat.lt_or_ge k j with h | h
        · exact HIN.out k t' h h1
        · obtain rfl : k = j := by omega
          rw [HTJ.out] at h1
          cases h1
          exact hv)
      have htl := vtk_len hv
      clear htx hv
      go_wp2_with fail
      refine HTX.out.mono ?_
      rintro e w2 ⟨rfl, hb⟩
      have HBR := Lib.hid (HBR2.out.trans (hb.mono HBR2.out.size))
      have HBW := Lib.hid (HBW2.out.trans (hb.mono HBW2.out.size))
      clear hb HTX z0 z1 z2 z3 HBR2 HBW2
      have hgl := gg_len HW.out.1 u j
      by_cases hju : j < U
      case neg =>
        have hdu : decide ((j : Int) < (U : Int)) = false := decide_eq_false (by omega)
        obtain ⟨G, hG⟩ : ∃ G, gg W u j = G := ⟨_, rfl⟩
        obtain rfl : [32] = G := by rw [← hG]; exact (if_neg (by have := HL.out.2.1; omega)).symm
        have HG := Lib.hid hG
        clear hG
        rw [HG.out] at hgl
        have hz2 := no_sum2 (a := txk t) (b := [32]) (by simp; omega)
        have hz3 := no_sum2 (a := txk t ++ [32]) (b := [32]) (by simp; omega)
        have hz4 := no_sum2 (a := S) (b := txk t ++ 32 :: [32]) (by simp; omega)
        have HNX := Lib.hid (show S ++ (txk t ++ 32 :: [32]) = 10 :: sp (gg W u) (l.take (j + 1)) 0 from by
          rw [HTK.out, sp_app, ← HSS.out, HTL.out, Nat.zero_add, HG.out]
          rfl)
        skip
        go_wp2_with fail
        go_roundw
        case rel => exact ⟨j + 1, by omega, by rw [← HNX.out], by go_num, HIN2.out, HBR.out⟩
        case measure => simp [intOf]; omega
      have hdu : decide ((j : Int) < (U : Int)) = true := decide_eq_true (by omega)
      have hjU : (j : Int) < (U : Int) := by omega
      obtain ⟨b, hb⟩ : ∃ b, u[j]? = some b := ⟨_, List.getElem?_eq_getElem (by have := HL.out.2.1; omega)⟩
      obtain ⟨bu, ou, e2, hbu, hcu⟩ := HA.out.2.1 (by have := HL.out.2.1; omega)
      subst e2
      have y0 := (HBW.out.cell (p := ⟨bu, ou + j, none⟩) hbu).trans (hcu j b hb)
      have hbd : u.getD j 0 = b := by rw [List.getD_eq_getElem?_getD, hb]; rfl
      obtain ⟨G, hG⟩ : ∃ G, gg W u j = G := ⟨_, rfl⟩
      have HG := Lib.hid hG
      rw [hG] at hgl
      unfold gg at hG
      rw [if_pos (by have := HL.out.2.1; omega), hbd] at hG
      obtain ⟨n0, hn0⟩ : ∃ n, b.toNat = n := ⟨_, rfl⟩
      have hn256 : n0 < 256 := by rw [← hn0]; exact b.toNat_lt
      obtain ⟨r, hr⟩ : ∃ r, n0 % 8 = r := ⟨_, rfl⟩
      have hr8 : r < 8 := by omega
      rw [hn0, hr] at hG
      have y1 := (HBR.out.cell (p := ⟨BX, r, none⟩) HBS.out).trans ((HX.out.cell r).trans (gcs_at W r hr8))
      rw [hG] at y1
      unfold bv at y0
      rw [hn0] at y0
      have hrem : (n0 : Int).tmod 8 = (r : Int) := by rw [← hr]; rfl
      have hw1 : IntKind.i64.wrap (n0 : Int) = (n0 : Int) := by rw [IntKind.wrap_i64]; omega
      have hw2 : IntKind.i64.wrap (r : Int) = (r : Int) := by rw [IntKind.wrap_i64]; omega
      have hr0 : (0 : Int) ≤ (r : Int) := by omega
      have hr1 : (r : Int) < 8 := by omega
      have hz2 := no_sum2 (a := txk t) (b := [32]) (by simp; omega)
      have hz3 := no_sum2 (a := txk t ++ [32]) (b := G) (by simp; omega)
      have hz4 := no_sum2 (a := S) (b := txk t ++ 32 :: G) (by simp; omega)
      have HNX := Lib.hid (show S ++ (txk t ++ 32 :: G) = 10 :: sp (gg W u) (l.take (j + 1)) 0 from by
        rw [HTK.out, sp_app, ← HSS.out, HTL.out, Nat.zero_add, HG.out]
        rfl)
      clear hcu hbu hbd hb hG hn0 hr
      go_wp2_with fail
      go_roundw
      case rel => exact ⟨j + 1, by omega, by rw [← HNX.out], by go_num, HIN2.out, HBR.out⟩
      case measure => simp [intOf]; omega
end Go.Proofs.YticepaljociefaaDoor
