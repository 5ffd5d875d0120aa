/- arePackets, areCuts, Check, holds. -/
import Derived.Test.YtojijebmipgeeaaSm
import Derived.IntWalk
import Derived.Deep.QuietTactic
import Derived.BigQuiet
namespace Go.Proofs.Ytojijebmipgeeaa
open Go.RowKit Go.Sort
set_option linter.unusedVariables false

def okq (l : List Pk) (k : Nat) : Prop := ∀ j p, j < k → l[j]? = some p → okp p = true
theorem okq_zero (l : List Pk) : okq l 0 := fun j p h => by omega
theorem okq_succ {l : List Pk} {k : Nat} {p : Pk} (h : okq l k) (hp : l[k]? = some p) (ho : okp p = true) : okq l (k + 1) := fun j r hj hr => by
  by_cases e : j = k
  · subst e
    rw [hp] at hr
    cases hr
    exact ho
  · exact h j r (by omega) hr
theorem okq_all {l : List Pk} (h : okq l l.length) : l.all okp = true := by
  rw [List.all_eq_true]
  intro p hp
  obtain ⟨j, hj⟩ := List.getElem?_of_mem hp
  exact h j p (List.getElem?_eq_some_iff.1 hj).1 hj
theorem okq_not {l : List Pk} {k : Nat} {p : Pk} (hp : l[k]? = some p) (ho : okp p = false) : l.all okp = false := by
  rw [List.all_eq_false]
  exact ⟨p, List.mem_of_getElem? hp, by rw [ho]; simp⟩

theorem below_drewN (w : World) (n : Nat) : Below w.heap.size w (w.drewN n) := ⟨rfl, rfl, rfl, Nat.le_refl _, fun _ _ => rfl⟩
def BoolPost (b : Bool) (w : World) (e : Ending) (w' : World) : Prop := e = .returned (.bool b) ∧ Below w.heap.size w w'
theorem okp_or (p : Pk) : okp p = true ∨ okp p = false := by cases okp p <;> simp

set_option maxHeartbeats 2000000 in
set_option maxRecDepth 100000 in
theorem arePackets_any (A : Option Addr) (c : Nat) (l : List Pk) (w : World) (hS : QQ w A l c) (hl : l.length ≤ 1000000) :
    Calls Try.prog 31 #[.slice A l.length c] w (BoolPost (l.all okp) w) := by
  have HS := Lib.hid hS
  have HG := Lib.hid (fun k (h : k < l.length) => (List.getElem?_eq_getElem h : l[k]? = some l[k]))
  have HE := Lib.hid (@okq_all l)
  have HP := Lib.hid (fun (p : Pk) D d W (h : p.da.length ≤ 9223372036854775807) => isPacket_any p D d W h)
  unfold pkv pkc at HP
  unfold BoolPost
  clear hS
  obtain ⟨n, hn⟩ : ∃ n, l.length = n := ⟨_, rfl⟩
  rw [hn] at hl HE ⊢
  have HN := Lib.hid hn
  clear hn
  go_enter Try.func31, Try.ntmps31
  go_wp2_with fail
  go_loopw [7] (fun i wr => ∃ k : Nat, k ≤ n ∧ i = .int .i64 k ∧ okq l k ∧ Below w.heap.size w wr) (fun i _ => n - (intOf i).toNat)
  case atStart => exact ⟨0, Nat.zero_le _, rfl, okq_zero l, Below.refl _ _⟩
  case round =>
    obtain ⟨k, hk, rfl, hq, hb⟩ := hrel
    by_cases hlt : k < n
    · have hkl : k < l.length := by have := HN.out; omega
      obtain ⟨b, off, D, d, rfl, hlb, h0, h1, h2, h3⟩ := (HS.out.up hb).at_ (HG.out k hkl)
      have hdl : (l[k]'hkl).da.length ≤ 9223372036854775807 := by have := Nat.le_trans h3.2.1 h3.2.2.1; unfold maxLen at this; omega
      have HI := Lib.hid (fun W => HP.out (l[k]'hkl) D d W hdl)
      have HK := Lib.hid (And.intro (HG.out k hkl) (And.intro hq hb))
      have HB2 := Lib.hid (fun w1 => fun (hb1 : Below (wr.alloc (.cells #[.int .i64 (l[k]'hkl).fr, .int .i64 (l[k]'hkl).to, .slice D (l[k]'hkl).da.length d] 28)).heap.size (wr.alloc (.cells #[.int .i64 (l[k]'hkl).fr, .int .i64 (l[k]'hkl).to, .slice D (l[k]'hkl).da.length d] 28)) w1) =>
        (hb.trans ((((Below.refl _ wr).alloc (Nat.le_refl _) _).trans (hb1.mono (by simp))).mono hb.size) : Below w.heap.size w w1))
      clear hq hb h3 hdl
      rcases okp_or (l[k]'hkl) with ho | ho
      all_goals
        rw [ho] at HI
        have HO := Lib.hid ho
        clear ho
        generalize l[k]'hkl = p at *
        generalize p.da.length = m at *
        generalize p.fr = a at *
        generalize p.to = b' at *
        go_wp2_with fail
        refine (HI.out _).mono ?_
        rintro e w1 ⟨rfl, hb1⟩
        go_wp2_with fail
      · go_roundw
        case rel => exact ⟨k + 1, by omega, by go_num, okq_succ HK.out.2.1 HK.out.1 HO.out, HB2.out w1 hb1⟩
        case measure => simp [intOf]; omega
      · go_ret
        exact ⟨by rw [okq_not HK.out.1 HO.out]; rfl, HB2.out w1 hb1⟩
    · obtain rfl : k = n := by omega
      have HQ := Lib.hid (And.intro (HE.out hq) hb)
      clear hq hb
      go_wp2_with fail
      go_ret
      exact ⟨by rw [HQ.out.1]; rfl, HQ.out.2⟩

/-- The first k pairs are right. -/
def oka (l : List (Int × Int)) (k : Nat) : Prop := ∀ j, j < k → apa l j = true
theorem oka_zero (l : List (Int × Int)) : oka l 0 := fun j h => by omega
theorem oka_succ {l : List (Int × Int)} {k : Nat} (h : oka l k) (ho : apa l k = true) : oka l (k + 1) := fun j hj => by
  by_cases e : j = k
  · subst e; exact ho
  · exact h j (by omega)
theorem oka_all {l : List (Int × Int)} (h : oka l l.length) : apk l = true := by
  unfold apk
  rw [List.all_eq_true]
  intro j hj
  exact h j (List.mem_range.1 hj)
theorem oka_not {l : List (Int × Int)} {k : Nat} (hk : k < l.length) (ho : apa l k = false) : apk l = false := by
  unfold apk
  rw [List.all_eq_false]
  exact ⟨k, List.mem_range.2 hk, by rw [ho]; simp⟩
theorem apk_oka {l : List (Int × Int)} (h : apk l = true) : oka l l.length := fun j hj => by
  unfold apk at h
  rw [List.all_eq_true] at h
  exact h j (List.mem_range.2 hj)
theorem okr_talk (a b : Int) : okr (a, b) = (talk a b && !(neqp a b (min a b) (max a b))) := by
  unfold okr talk neqp
  cases site a <;> cases site b <;> simp
  by_cases h : a < b
  · have h1 : ¬ a = b := by omega
    have h2 : min a b = a := by omega
    have h3 : max a b = b := by omega
    simp [h, h1, h2, h3]
  · simp [h]
    intro hne h1 h2
    omega
theorem lsp_cmpp (x y : Int × Int) : decide (0 ≤ cmpp x y) = !(lsp x y) := by
  unfold cmpp lsp
  by_cases h1 : x.1 < y.1
  · simp [h1]
  · by_cases h2 : y.1 < x.1
    · have : ¬ x.1 = y.1 := by omega
      simp [h1, h2, this]
    · have : x.1 = y.1 := by omega
      by_cases h3 : x.2 < y.2
      · simp [this, h3]
      · by_cases h4 : y.2 < x.2
        · simp [this, h3, h4]
        · simp [this, h3, h4]
theorem apa_zero {l : List (Int × Int)} {x : Int × Int} (h : l[0]? = some x) : apa l 0 = okr x := by
  simp [apa, List.getD_eq_getElem?_getD, h]
theorem apa_succ {l : List (Int × Int)} {k : Nat} {x y : Int × Int} (h : l[k]? = some x) (h1 : l[k + 1]? = some y) : apa l (k + 1) = (okr y && lsp x y) := by
  simp [apa, List.getD_eq_getElem?_getD, h, h1]

theorem apa_false {l : List (Int × Int)} {k : Nat} {x : Int × Int} (h : l[k]? = some x) (ho : okr x = false) : apa l k = false := by
  simp [apa, List.getD_eq_getElem?_getD, h, ho]

attribute [local go_sem ↓] eql_pair neq_pair
attribute [local go_sem] guard_pair
set_option maxHeartbeats 2000000 in
set_option maxRecDepth 100000 in
theorem areCuts_any (A : Option Addr) (c : Nat) (l : List (Int × Int)) (w : World) (hS : PP w A l c) (hl : l.length ≤ 9223372036854775807) :
    Calls Try.prog 32 #[.slice A l.length c] w (BoolPost (apk l) w) := by
  have HS := Lib.hid hS
  have HG := Lib.hid (fun k (h : k < l.length) => (List.getElem?_eq_getElem h : l[k]? = some l[k]))
  have HE := Lib.hid (@oka_all l)
  unfold BoolPost
  clear hS
  obtain ⟨n, hn⟩ : ∃ n, l.length = n := ⟨_, rfl⟩
  rw [hn] at hl HE ⊢
  have HN := Lib.hid hn
  clear hn
  have HT := Lib.hid canTalk_any
  have HBT := Lib.hid between_any
  have HIO := Lib.hid inOrder_any
  unfold OrdPost at HIO
  unfold prv btw at HBT
  unfold prv at HIO
  go_enter Try.func32, Try.ntmps32
  go_wp2_with fail
  go_loopw [7] (fun i wr => ∃ k : Nat, k ≤ n ∧ i = .int .i64 k ∧ oka l k ∧ Below w.heap.size w wr) (fun i _ => n - (intOf i).toNat)
  case atStart => exact ⟨0, Nat.zero_le _, rfl, oka_zero l, Below.refl _ _⟩
  case round =>
    obtain ⟨k, hk, rfl, hq, hb⟩ := hrel
    by_cases hlt : k < n
    · have hkl : k < l.length := by have := HN.out; omega
      obtain ⟨b, off, rfl, hlb, h0, h1⟩ := (HS.out.up hb).at_ (HG.out k hkl)
      obtain ⟨x, hx⟩ : ∃ x, l[k]'hkl = x := ⟨_, rfl⟩
      have HX := Lib.hid ((HG.out k hkl).trans (congrArg some hx))
      rw [hx] at h0 h1
      clear hx
      obtain ⟨x1, x2⟩ := x
      simp only at h0 h1
      have HK := Lib.hid (And.intro hq hb)
      have hBX := Box.new wr #[.int .i64 x1, .int .i64 x2] 55
      have hbn := (Below.refl _ wr).alloc (Nat.le_refl _) (.cells #[.int .i64 x1, .int .i64 x2] 55)
      have HW := Lib.hid (And.intro hBX hbn)
      have HW2 := Lib.hid (hb.trans (hbn.mono hb.size))
      clear hq hb hBX hbn
      have HTX := Lib.hid (okr_talk x1 x2)
      have HT1 := Lib.hid (HT.out x1 x2)
      have HB1 := Lib.hid (HBT.out x1 x2)
      go_wp2_with fail
      generalize wr.alloc (.cells #[.int .i64 x1, .int .i64 x2] 55) = W at *
      have c0 := HW.out.1.cell 0
      have c1 := HW.out.1.cell 1
      simp only [List.getElem?_toArray, List.getElem?_cons_zero, List.getElem?_cons_succ] at c0 c1
      have HQ := Lib.hid (show W.drew.cell? ⟨wr.heap.size, 0, none⟩ = some (.int .i64 x1) ∧ W.drew.cell? ⟨wr.heap.size, 1, none⟩ = some (.int .i64 x2) from ⟨c0, c1⟩)
      have HKP := Lib.hid (fun os => show (grow W.drew os).cell? ⟨wr.heap.size, 0, none⟩ = some (.int .i64 x1) ∧ (grow W.drew os).cell? ⟨wr.heap.size, 1, none⟩ = some (.int .i64 x2) from
        ⟨((below_grow W.drew os).cell (p := ⟨wr.heap.size, 0, none⟩) HW.out.1.lt).trans c0, ((below_grow W.drew os).cell (p := ⟨wr.heap.size, 1, none⟩) HW.out.1.lt).trans c1⟩)
      clear c0 c1 h0 h1
      cases hta : talk x1 x2
      · rw [hta] at HT1 HTX
        clear hta
        have HTS := Lib.hid (fun W => (HT1.out W).mono (R' := fun e w' => e = .returned (.bool false) ∧ w' = W) (fun e w' h => ⟨h.1, h.2.symm⟩))
        have c0 := HW.out.1.cell 0
        have c1 := HW.out.1.cell 1
        simp only [List.getElem?_toArray, List.getElem?_cons_zero, List.getElem?_cons_succ] at c0 c1
        go_quiet ((go_at_call 34; exact Calls.quiet_of_same (HTS.out _)))
        go_wp2_with fail
        go_ret
        exact ⟨by rw [oka_not hkl (apa_false HX.out HTX.out)]; rfl, HW2.out.trans ((below_drewN W nq).mono HW2.out.size)⟩
      · rw [hta] at HT1 HTX
        clear hta
        cases hng : neqp x1 x2 (min x1 x2) (max x1 x2)
        · rw [hng] at HTX
          go_region_held3 (fun w' => w'.cell? ⟨wr.heap.size, 0, none⟩ = some (.int .i64 x1) ∧ w'.cell? ⟨wr.heap.size, 1, none⟩ = some (.int .i64 x2))
            (with_reducible first | exact HQ.out | exact HKP.out _)
            (first
              | (go_at_call 34; ((with_reducible refine (HT1.out _).mono ?_); rintro e w1 ⟨rfl, rfl⟩))
              | (go_at_call 35; ((with_reducible refine (HB1.out _).mono ?_); rintro e w1 ⟨rfl, os, rfl⟩))
              | fail)
          clear hng
          go_wp2_with fail
          obtain ⟨V, hV⟩ : ∃ V, grow W.drew os = V := ⟨_, rfl⟩
          have HV := Lib.hid (And.intro (show Below W.heap.size W V by rw [← hV]; exact (Below.refl _ W).drew.trans (below_grow W.drew os)) (show V.cell? ⟨wr.heap.size, 0, none⟩ = some (.int .i64 x1) ∧ V.cell? ⟨wr.heap.size, 1, none⟩ = some (.int .i64 x2) by rw [← hV]; exact HKP.out os))
          rw [hV]
          clear hV
          have HV2 := Lib.hid (HW2.out.trans (HV.out.1.mono HW2.out.size))
          by_cases hk0 : k = 0
          · subst hk0
            have HAK := Lib.hid (show apa l 0 = true by rw [apa_zero HX.out]; exact HTX.out)
            go_quiet (fail)
            go_wp2_with fail
            go_roundw
            case rel => exact ⟨0 + 1, by omega, by go_num, oka_succ HK.out.1 HAK.out, HV2.out.trans ((below_drewN V nq).mono HV2.out.size)⟩
            case measure => simp [intOf]; omega
          · obtain ⟨j, hj⟩ : ∃ j, k = j + 1 := ⟨k - 1, by omega⟩
            have HJ := Lib.hid hj
            have hjl : j < l.length := by omega
            obtain ⟨b', off', e, hlb', g0, g1⟩ := (HS.out.up HV2.out).at_ (HG.out j hjl)
            cases e
            obtain ⟨y, hy⟩ : ∃ y, l[j]'hjl = y := ⟨_, rfl⟩
            have HY := Lib.hid ((HG.out j hjl).trans (congrArg some hy))
            rw [hy] at g0 g1
            clear hy
            obtain ⟨y1, y2⟩ := y
            simp only at g0 g1
            have hwj : IntKind.i64.wrap ((k : Int) - 1) = (j : Int) := by
              have := IntWalk.i64_in ((k : Int) - 1) (by omega)
              omega
            have hjn : (j : Int) < (n : Int) := by omega
            have hj0 : (0 : Int) ≤ (j : Int) := by omega
            have hjN : j < n := by omega
            have hk1 : decide ((0 : Int) < (k : Int)) = true := decide_eq_true (by omega)
            have hk2 : 0 < k := by omega
            have hk3 : decide (0 < k) = true := decide_eq_true hk2
            have HIX := Lib.hid (HIO.out (y1, y2) (x1, x2))
            have HLC := Lib.hid (lsp_cmpp (y1, y2) (x1, x2))
            have HAK := Lib.hid (show apa l k = (okr (x1, x2) && lsp (y1, y2) (x1, x2)) by rw [HJ.out]; exact apa_succ HY.out (by rw [← HJ.out]; exact HX.out))
            have HQ6 := Lib.hid (show V.drew.cell? ⟨wr.heap.size, 0, none⟩ = some (.int .i64 x1) ∧ V.drew.cell? ⟨wr.heap.size, 1, none⟩ = some (.int .i64 x2) ∧ V.drew.cell? ⟨b, off + j * 2, none⟩ = some (.int .i64 y1) ∧ V.drew.cell? ⟨b, off + j * 2 + 1, none⟩ = some (.int .i64 y2) from ⟨HV.out.2.1, HV.out.2.2, g0, g1⟩)
            have hlw : wr.heap.size < V.heap.size := World.block_lt_of_cell? _ _ HV.out.2.1
            have HK6 := Lib.hid (fun q os => show (grow (V.drewN (1 + q)) os).cell? ⟨wr.heap.size, 0, none⟩ = some (.int .i64 x1) ∧ (grow (V.drewN (1 + q)) os).cell? ⟨wr.heap.size, 1, none⟩ = some (.int .i64 x2) ∧ (grow (V.drewN (1 + q)) os).cell? ⟨b, off + j * 2, none⟩ = some (.int .i64 y1) ∧ (grow (V.drewN (1 + q)) os).cell? ⟨b, off + j * 2 + 1, none⟩ = some (.int .i64 y2) from
              have hb := below_grow (V.drewN (1 + q)) os
              ⟨(hb.cell (p := ⟨wr.heap.size, 0, none⟩) hlw).trans HV.out.2.1, (hb.cell (p := ⟨wr.heap.size, 1, none⟩) hlw).trans HV.out.2.2, (hb.cell (p := ⟨b, off + j * 2, none⟩) hlb').trans g0, (hb.cell (p := ⟨b, off + j * 2 + 1, none⟩) hlb').trans g1⟩)
            obtain ⟨cc, hcc⟩ : ∃ cc, cmpp (y1, y2) (x1, x2) = cc := ⟨_, rfl⟩
            rw [hcc] at HIX HLC
            clear hcc g0 g1 hj hk0
            cases hls : lsp (y1, y2) (x1, x2) <;> rw [hls] at HLC HAK <;> clear hls
            all_goals
              have hcd := HLC.out
              go_region_held3 (fun w' => w'.cell? ⟨wr.heap.size, 0, none⟩ = some (.int .i64 x1) ∧ w'.cell? ⟨wr.heap.size, 1, none⟩ = some (.int .i64 x2) ∧ w'.cell? ⟨b, off + j * 2, none⟩ = some (.int .i64 y1) ∧ w'.cell? ⟨b, off + j * 2 + 1, none⟩ = some (.int .i64 y2))
                (with_reducible first | exact HQ6.out | exact HK6.out _ _)
                (first
                  | (go_at_call 39; ((with_reducible refine (HIX.out _).mono ?_); rintro e w1 ⟨rfl, q, os', rfl⟩))
                  | fail)
              clear hwj
              go_wp2_with fail
            · go_ret
              exact ⟨by rw [oka_not hkl (HAK.out.trans (by simp))]; rfl, HV2.out.trans (((below_drewN V (1 + q)).trans (below_grow (V.drewN (1 + q)) os')).mono HV2.out.size)⟩
            · go_roundw
              case rel => exact ⟨k + 1, by omega, by go_num, oka_succ HK.out.1 (HAK.out.trans (by rw [HTX.out]; rfl)), HV2.out.trans (((below_drewN V (1 + q)).trans (below_grow (V.drewN (1 + q)) os')).mono HV2.out.size)⟩
              case measure => simp [intOf]; omega
        · rw [hng] at HTX
          go_region_held3 (fun w' => w'.cell? ⟨wr.heap.size, 0, none⟩ = some (.int .i64 x1) ∧ w'.cell? ⟨wr.heap.size, 1, none⟩ = some (.int .i64 x2))
            (with_reducible first | exact HQ.out | exact HKP.out _)
            (first
              | (go_at_call 34; ((with_reducible refine (HT1.out _).mono ?_); rintro e w1 ⟨rfl, rfl⟩))
              | (go_at_call 35; ((with_reducible refine (HB1.out _).mono ?_); rintro e w1 ⟨rfl, os, rfl⟩))
              | fail)
          clear hng
          go_wp2_with fail
          go_ret
          exact ⟨by rw [oka_not hkl (apa_false HX.out HTX.out)]; rfl, HW2.out.trans (((Below.refl _ W).drew.trans (below_grow W.drew os)).mono HW2.out.size)⟩
    · obtain rfl : k = n := by omega
      have HQ := Lib.hid (And.intro (HE.out hq) hb)
      clear hq hb
      go_wp2_with fail
      go_ret
      exact ⟨by rw [HQ.out.1]; rfl, HQ.out.2⟩
end Go.Proofs.Ytojijebmipgeeaa
