/- Text. -/
import Derived.Test.YticepaljociefaaDoorVal
import Derived.Laws.OwnMore
namespace Go.Proofs.YticepaljociefaaDoor
open Go.RowKit Go.Shelf
set_option linter.unusedVariables false
set_option linter.unusedSimpArgs false

theorem str_info : (Tryd.prog.info? 9).map (fun i => (i.zero, i.size, i.bytes)) = some (some (.string ⟨#[]⟩), 1, 16) := by kernel_rfl
/-- What Text hands back. -/
def txo (l : List Tk) : List UInt8 × Int := if l.all vtk = true then (Lib.join (l.map txk) [32], 0) else ([], 100)
def TextP (o : List UInt8 × Int) (w : World) (e : Ending) (w' : World) : Prop := e = .returned (.tuple #[.string (bs o.1), .int .i64 o.2]) ∧ Below w.heap.size w w'
/-- The texts so far, and empty ones. -/
def tcs (l : List Tk) (j L : Nat) : List Value := (l.take j).map (fun t => Value.string (bs (txk t))) ++ List.replicate (L - j) (.string ⟨#[]⟩)
theorem tcs_set {l : List Tk} {j L : Nat} {t : Tk} (hl : l.length = L) (h : l[j]? = some t) : (tcs l j L).set j (.string (bs (txk t))) = tcs l (j + 1) L := by
  have hj := (List.getElem?_eq_some_iff.1 h).1
  unfold tcs
  rw [List.set_append_right _ _ (by simp; omega)]
  obtain ⟨r, hr⟩ : ∃ r, L - j = r + 1 := ⟨L - j - 1, by omega⟩
  rw [hr, List.take_add_one, h]
  have : j - ((l.take j).map (fun t => Value.string (bs (txk t)))).length = 0 := by simp; omega
  rw [this]
  have h2 : L - (j + 1) = r := by omega
  rw [h2]
  simp [List.replicate_succ]
theorem tcs_end {l : List Tk} {L : Nat} (hl : l.length = L) : tcs l L L = l.map (fun t => Value.string (bs (txk t))) := by
  unfold tcs
  rw [← hl, List.take_length, Nat.sub_self]
  simp
theorem vtk_fit {t : Tk} (h : vtk t = true) : 0 ≤ t.n ∧ t.n ≤ 1099511627776 := by
  unfold vtk at h
  split at h
  · simp at h; omega
  · split at h
    · simp at h; omega
    · split at h
      · simp at h; omega
      · cases h
theorem vtk_len {t : Tk} (h : vtk t = true) : (txk t).length ≤ 32 := by
  have hf := vtk_fit h
  unfold txk
  split
  · have := Lib.itoa_length_le t.n (by omega) (by omega)
    omega
  next h2 =>
    unfold vtk at h
    rw [if_neg h2] at h
    split at h
    · unfold nm at h; simp at h; omega
    · split at h
      · simp at h; omega
      · cases h
theorem join_le : ∀ (l : List (List UInt8)), (∀ x ∈ l, x.length ≤ 32) → (Lib.join l [32]).length ≤ l.length * 33
  | [], _ => by simp [Lib.join]
  | [x], h => by
    rw [Lib.join_one]
    have := h x (by simp)
    simp
    omega
  | x :: y :: r, h => by
    have h1 := join_le (y :: r) (fun z hz => h z (by simp at hz ⊢; exact .inr hz))
    have h2 := h x (by simp)
    have h3 : Lib.join (x :: y :: r) [32] = x ++ [32] ++ Lib.join (y :: r) [32] := by simp [Lib.join, List.intercalate, List.intersperse]
    rw [h3]
    simp only [List.length_append, List.length_cons, List.length_nil] at *
    omega
theorem bs_data (l : List UInt8) : (bs l).data.toList = l := by simp [bs]
theorem own_at {w : World} {B g n c : Nat} {e : TypeId} {xs : List Value} (h : w.ownsRow B e 1 (.slice (some ⟨g, 0, none⟩) n c) n xs) (j : Nat) (u : Value) (hj : xs[j]? = some u) : w.cell? ⟨g, 0 + j, none⟩ = some u := by
  have hl := (List.getElem?_eq_some_iff.1 hj).1
  have h0 : xs.length = n * 1 := h.1
  rw [Nat.zero_add, World.ownsRow.cellAt h j (by omega)]
  exact hj

set_option maxHeartbeats 4000000 in
set_option maxRecDepth 100000 in
theorem text_all (l : List Tk) (A : Option Addr) (c : Nat) (w : World) (hA : TT w A l c) (hK : KT w) (hP : PT w) (hl : l.length ≤ 1000000) :
    Calls Tryd.prog 16 #[.slice A l.length c] w (TextP (txo l) w) := by
  obtain ⟨L, hL⟩ : ∃ L, l.length = L := ⟨_, rfl⟩
  have HA := Lib.hid hA
  have HL := Lib.hid hL
  have HKP := Lib.hid (And.intro hK hP)
  obtain ⟨o, ho⟩ : ∃ o, txo l = o := ⟨_, rfl⟩
  have HO := Lib.hid ho
  rw [ho, hL]
  rw [hL] at hl
  clear hA hK hP ho hL
  unfold TextP
  obtain ⟨i0, hi0, hz0, hz1, hz2⟩ := info_parts str_info
  go_enter Tryd.func16, Tryd.ntmps16
  go_wp2_with (refine wpList_make_full _ rfl (.tmp 8) (.tmp 8) 40 rfl w.heap.size 9 i0 (.string ⟨#[]⟩) 1 Tryd.underlying40 hi0 hz0 hz1 .i64 .i64 L L L rfl rfl rfl rfl (by rw [hz2]; omega) (le_maxLen (by omega)) (Nat.le_refl _) ?_; intro w1 hown hgr; rw [Nat.mul_one, show (Value.string ⟨#[]⟩).cells = #[.string ⟨#[]⟩] from rfl, toList_madeCells_one] at hown; have HW := Lib.hid (And.intro hown (grown_below hgr)); clear hown hgr)
  obtain ⟨B, hB⟩ : ∃ B, w.heap.size = B := ⟨_, rfl⟩
  rw [hB] at HW ⊢
  have HBE := Lib.hid hB
  clear hB
  go_loopw [5, 12] (fun x i wr => ∃ j : Nat, j ≤ L ∧ i = .int .i64 (j : Int) ∧ (∀ (k : Nat) t, k < j → l[k]? = some t → vtk t = true) ∧ wr.ownsRow B 9 1 (.slice (some ⟨B, 0, none⟩) L L) L (tcs l j L) ∧ Below B w wr) (fun _ i _ => L - (intOf i).toNat)
  case atStart => exact ⟨0, Nat.zero_le _, rfl, fun k _ h => absurd h (by omega), by unfold tcs; simpa using HW.out.1, HW.out.2⟩
  case round =>
    obtain ⟨j, hj, rfl, hin, how, hb⟩ := hrel
    have HIN := Lib.hid hin
    have HOW := Lib.hid how
    have HB := Lib.hid hb
    clear hin how hb HW
    by_cases hlt : j < L
    case neg =>
      have hd : decide ((j : Int) < (L : Int)) = false := decide_eq_false (by omega)
      obtain rfl : j = L := by omega
      have hall : l.all vtk = true := List.all_eq_true.2 fun t htm => by
        obtain ⟨k, hk, e⟩ := List.getElem_of_mem htm
        exact HIN.out k t (by have := HL.out; omega) (by rw [List.getElem?_eq_getElem hk, e])
      have hj2 := HOW.out
      rw [tcs_end HL.out] at hj2
      have hjl := join_le (l.map txk) (fun x hx => by obtain ⟨t, h1, rfl⟩ := List.mem_map.1 hx; exact vtk_len (List.all_eq_true.1 hall t h1))
      rw [List.length_map, HL.out] at hjl
      have hJ := strings_Join B 0 j (l.map (fun t => bs (txk t))) (bs [32]) wr (fun k x hx => own_at hj2 k _ (by rw [List.getElem?_map] at hx ⊢; cases hk : l[k]? with | none => rw [hk] at hx; cases hx | some t => rw [hk] at hx; simp at hx; subst hx; rfl)) ((HOW.out.lt B rfl).2) (by rw [List.length_map, HL.out]; omega) (by rw [List.length_map, HL.out]; exact Nat.le_refl _) (by rw [List.map_map, bs_data, show ((fun x : ByteArray => x.data.toList) ∘ fun t => bs (txk t)) = txk from funext fun t => bs_data _]; omega)
      rw [List.length_map, HL.out, List.map_map, bs_data, show ((fun x : ByteArray => x.data.toList) ∘ fun t => bs (txk t)) = txk from funext fun t => bs_data _] at hJ
      have HE := Lib.hid (show o = (Lib.join (l.map txk) [32], 0) from by rw [← HO.out]; exact if_pos hall)
      have h32 : bs [32] = ⟨#[32]⟩ := rfl
      rw [h32] at hJ
      have HJ := Lib.hid hJ
      clear hJ hall hj2 hjl h32
      go_wp2_with fail
      refine HJ.out.mono ?_
      rintro e w2 ⟨rfl, hb2⟩
      have HB2 := Lib.hid (HB.out.trans (hb2.mono (by have h1 := HB.out.size; have h2 := HBE.out; omega)))
      clear hb2
      go_wp2_with fail
      refine bodyPost_ret (results_tmp2 Tryd.results16 _ _ _) rfl ?_
      rw [HE.out, HBE.out]
      exact ⟨rfl, HB2.out⟩
    have hd : decide ((j : Int) < (L : Int)) = true := decide_eq_true (by omega)
    have hj0 : (0 : Int) ≤ (j : Int) := by omega
    have hjL : (j : Int) < (L : Int) := by omega
    obtain ⟨t, ht⟩ : ∃ t, l[j]? = some t := ⟨_, List.getElem?_eq_getElem (by have := HL.out; omega)⟩
    obtain ⟨bA, oA, e1, hbA, x0, x1, x2, x3⟩ := HA.out.at_ ht
    subst e1
    have hbb := HB.out
    rw [← HBE.out] at hbb
    have z0 := (hbb.cell (p := ⟨bA, oA + j * 4, none⟩) hbA).trans x0
    have z1 := (hbb.cell (p := ⟨bA, oA + j * 4 + 1, none⟩) hbA).trans x1
    have z2 := (hbb.cell (p := ⟨bA, oA + j * 4 + 2, none⟩) hbA).trans x2
    have z3 := (hbb.cell (p := ⟨bA, oA + j * 4 + 3, none⟩) hbA).trans x3
    have hal := (Below.refl wr.heap.size wr).alloc (Nat.le_refl _) (.cells #[.int .i64 t.k, .string (bs t.t), .int .i64 t.n, .int .i64 t.p] 35)
    have hw1 := hbb.trans (hal.mono hbb.size)
    have HV := Lib.hid (isValid_any t _ (HKP.out.1.below hw1))
    have HX := Lib.hid (Box.new wr #[.int .i64 t.k, .string (bs t.t), .int .i64 t.n, .int .i64 t.p] 35)
    have HO1 := Lib.hid (own_below HOW.out hal)
    have HW1 := Lib.hid hw1
    have HTJ := Lib.hid ht
    unfold tkv BoolPost at HV
    clear hal hw1 hbb x0 x1 x2 x3 hbA ht
    cases hv : vtk t with
    | false =>
      rw [hv] at HV
      have HE := Lib.hid (show o = ([], 100) from by
        rw [← HO.out]
        refine if_neg (fun h => ?_)
        have := List.all_eq_true.1 h t (List.mem_of_getElem? HTJ.out)
        rw [hv] at this
        cases this)
      clear hv
      go_wp2_with fail
      refine HV.out.mono ?_
      rintro e w2 ⟨rfl, hb2⟩
      have HB2 := Lib.hid (HW1.out.trans (hb2.mono HW1.out.size))
      clear hb2 z0 z1 z2 z3
      go_wp2_with fail
      refine bodyPost_ret (results_tmp2 Tryd.results16 _ _ _) rfl ?_
      rw [HE.out]
      exact ⟨rfl, HB2.out⟩
    | true =>
      rw [hv] at HV
      have HVT := Lib.hid hv
      have hfit := vtk_fit hv
      clear hv
      go_wp2_with fail
      refine HV.out.mono ?_
      rintro e w2 ⟨rfl, hb2⟩
      have hw2 := HW1.out.trans (hb2.mono HW1.out.size)
      have HO2 := Lib.hid (own_below HO1.out hb2)
      have hx2 := HX.out.below hb2
      have HTX := Lib.hid (textOf_any t w2 (HKP.out.2.below hw2) (by omega) (by omega))
      have HW2 := Lib.hid hw2
      have y0 := hx2.cell 0
      have y1 := hx2.cell 1
      have y2 := hx2.cell 2
      have y3 := hx2.cell 3
      unfold tkv LStr at HTX
      clear hb2 z0 z1 z2 z3 hw2 hx2 HX
      go_wp2_with fail
      refine HTX.out.mono ?_
      rintro e w3 ⟨rfl, hb3⟩
      have HW3 := Lib.hid (HW2.out.trans (hb3.mono HW2.out.size))
      have hO3 := own_below HO2.out hb3
      have hst := World.ownsRow.stored hO3 j (.string (bs (txk t)))
      rw [tcs_set HL.out HTJ.out] at hst
      have HST := Lib.hid hst
      have zz := World.ownsRow.cellAt hO3 j (by omega)
      have hzz : ∃ u, w3.cell? ⟨B, j, none⟩ = some u := ⟨_, zz.trans (List.getElem?_eq_getElem (by have := hO3.1; omega))⟩
      obtain ⟨u, hu⟩ := hzz
      have hfz := World.ownsRow.frozenAt hO3 j
      clear hb3 y0 y1 y2 y3 hO3 hst zz
      go_wp2_with fail
      go_roundw
      case rel => exact ⟨j + 1, by omega, by go_num, fun k t' hk h1 => by
        rcases Nat.lt_or_ge k j with h | h
        · exact HIN.out k t' h h1
        · obtain rfl : k = j := by omega
          rw [HTJ.out] at h1
          cases h1
          exact HVT.out, HST.out.1, (HW3.out.trans (below_grown HST.out.2 (by rw [HBE.out]; exact Nat.le_refl _) HW3.out.size)).mono (by rw [HBE.out]; exact Nat.le_refl _)⟩
      case measure => simp [intOf]; omega
theorem text_any (l : List Tk) (A : Option Addr) (c : Nat) (w : World) (hA : TT w A l c) (hK : KT w) (hP : PT w) (hl : l.length ≤ 1000000) (ht : ∀ t ∈ l, t.t.length ≤ 1000000) :
    Calls Tryd.prog 16 #[.slice A l.length c] w (TextP (txo l) w) := text_all l A c w hA hK hP hl
end Go.Proofs.YticepaljociefaaDoor
