/- Check, Compose, Inverse. -/
import Derived.Test.YtobchecnfkocdaaRIs
namespace Go.Proofs.Ytobchecnfkocdaa
open Go.RowKit
set_option linter.unusedVariables false
set_option linter.unusedSimpArgs false

theorem fill_set {X : List Value} {z v : Value} {j n : Nat} (hX : X.length = n) (h : X[j]? = some v) : (X.take j ++ List.replicate (n - j) z).set j v = X.take (j + 1) ++ List.replicate (n - (j + 1)) z := by
  have hj := (List.getElem?_eq_some_iff.1 h).1
  have hl : (X.take j).length = j := by rw [List.length_take]; omega
  rw [List.set_append_right _ _ (by omega), hl, Nat.sub_self, take_next h, List.append_assoc]
  obtain ⟨m, hm⟩ : ∃ m, n - j = m + 1 := ⟨n - j - 1, by omega⟩
  rw [hm, show n - (j + 1) = m by omega, List.replicate_succ]
  rfl
theorem fill_zero (X : List Value) (z : Value) (n : Nat) : List.replicate n z = X.take 0 ++ List.replicate (n - 0) z := by simp
theorem fill_end {X : List Value} {z : Value} {n : Nat} (hX : X.length = n) : X.take n ++ List.replicate (n - n) z = X := by
  rw [Nat.sub_self, List.take_of_length_le (by omega)]
  simp
/-- A list and an error. -/
def IntP (l : List Int) (er : Int) (w : World) (e : Ending) (w' : World) : Prop := ∃ A c, e = .returned (.tuple #[.slice A l.length c, .int .i64 er]) ∧ Si w' A l c ∧ Below w.heap.size w w'
theorem IntP.no {er : Int} {w w' : World} (h : Below w.heap.size w w') : IntP [] er w (.returned (.tuple #[.slice none 0 0, .int .i64 er])) w' := ⟨none, 0, rfl, Sv.nil _, h⟩
/-- Compose. -/
def cmi (a b : List Int) : List Int := b.map fun x => a.getD x.toNat 0
def cme (a b : List Int) : Int := if isp a (b.length : Int) = true ∧ isp b (a.length : Int) = true then 0 else 110
def cmr (a b : List Int) : List Int := if cme a b = 0 then cmi a b else []
theorem cmi_length (a b : List Int) : (cmi a b).length = b.length := List.length_map _
theorem cme_ok {a b : List Int} (h1 : isp a (b.length : Int) = true) (h2 : isp b (a.length : Int) = true) : cme a b = 0 ∧ cmr a b = cmi a b := by
  have h : cme a b = 0 := if_pos ⟨h1, h2⟩
  exact ⟨h, if_pos h⟩
theorem cme_no {a b : List Int} (h : ¬ (isp a (b.length : Int) = true ∧ isp b (a.length : Int) = true)) : cme a b = 110 ∧ cmr a b = [] := by
  have h : cme a b = 110 := if_neg h
  exact ⟨h, by unfold cmr; rw [h, if_neg (by decide)]⟩
theorem isp_facts {l : List Int} {n : Nat} (h : isp l (n : Int) = true) : n ≤ 256 ∧ l.length = n ∧ okl l n = true := by
  unfold isp at h
  rw [Bool.and_eq_true, Bool.and_eq_true, decide_eq_true_eq, decide_eq_true_eq, Int.toNat_natCast] at h
  exact ⟨by omega, by omega, h.2⟩

set_option maxHeartbeats 4000000 in
set_option maxRecDepth 100000 in
theorem compose_any (A : Option Addr) (c : Nat) (a : List Int) (B : Option Addr) (d : Nat) (b : List Int) (w : World) (hA : Si w A a c) (hB : Si w B b d) :
    Calls Try.prog 11 #[.slice A a.length c, .slice B b.length d] w (IntP (cmr a b) (cme a b) w) := by
  have hl1 := hA.le
  have hl2 := hB.le
  have H1 := Lib.hid (isp_any A c a (b.length : Int) w hA)
  have H2 := Lib.hid (fun V (h : Below w.heap.size w V) => isp_any B d b (a.length : Int) V (hB.up h))
  have HS := Lib.hid (And.intro hA hB)
  clear hA hB
  unfold QB at H1 H2
  cases q1 : isp a (b.length : Int) with
  | false =>
    obtain ⟨h1, h2⟩ := cme_no (a := a) (b := b) (by rw [q1]; simp)
    rw [h1, h2]
    rw [q1] at H1
    clear h1 h2 q1
    generalize a.length = n at *
    generalize b.length = m at *
    go_enter Try.func11, Try.ntmps11
    go_wp2_with fail
    refine H1.out.mono ?_
    rintro e w1 ⟨rfl, hb⟩
    have HB := Lib.hid hb
    clear hb
    go_wp2_with fail
    go_ret2
    exact IntP.no HB.out
  | true =>
  cases q2 : isp b (a.length : Int) with
  | false =>
    obtain ⟨h1, h2⟩ := cme_no (a := a) (b := b) (by rw [q2]; simp)
    rw [h1, h2]
    rw [q1] at H1
    rw [q2] at H2
    clear h1 h2 q1 q2
    generalize a.length = n at *
    generalize b.length = m at *
    go_enter Try.func11, Try.ntmps11
    go_wp2_with fail
    refine H1.out.mono ?_
    rintro e w1 ⟨rfl, hb⟩
    have HB := Lib.hid hb
    clear hb
    go_wp2_with fail
    refine (H2.out w1 HB.out).mono ?_
    rintro e w2 ⟨rfl, hb⟩
    have HB2 := Lib.hid (HB.out.trans (hb.mono HB.out.size))
    clear hb
    go_wp2_with fail
    go_ret2
    exact IntP.no HB2.out
  | true =>
  obtain ⟨h1, h2⟩ := cme_ok q1 q2
  obtain ⟨g1, g2, g3⟩ := isp_facts q1
  obtain ⟨g4, g5, g6⟩ := isp_facts q2
  rw [h1, h2]
  rw [q1] at H1
  rw [q2] at H2
  have hok := (okl_iff.1 g6).1
  obtain ⟨n, hn⟩ : ∃ n, a.length = n := ⟨_, rfl⟩
  have hm : b.length = n := by omega
  have hcl := cmi_length a b
  have hcv : ∀ (j : Nat) (x : Nat), b[j]? = some (x : Int) → (cmi a b)[j]? = some (a.getD x 0) := fun j x hx => by
    unfold cmi
    rw [List.getElem?_map, hx]
    rfl
  rw [hn] at hok
  rw [hm] at hcl
  have HOK := Lib.hid (And.intro hok (And.intro hcv (And.intro hn (And.intro hm hcl))))
  generalize cmi a b = X at *
  rw [hn, hm] at H1
  rw [hm] at g1
  rw [hn, hm] at H2
  unfold IntP
  rw [hn, hm, hcl]
  clear h1 h2 g2 g3 g4 g5 g6 hok hcv hn hm hcl q1 q2 hl1 hl2
  obtain ⟨i0, hi0, hz0, hz1, hz2⟩ := info_parts i64_info
  go_enter Try.func11, Try.ntmps11
  go_wp2_with fail
  refine H1.out.mono ?_
  rintro e w1 ⟨rfl, hb⟩
  have HB := Lib.hid hb
  clear hb
  go_wp2_with fail
  refine (H2.out w1 HB.out).mono ?_
  rintro e w2 ⟨rfl, hb⟩
  have HB2 := Lib.hid (HB.out.trans (hb.mono HB.out.size))
  clear hb H1 H2
  go_wp2_with (refine wpList_make_full _ rfl (.tmp 21) (.tmp 21) 22 rfl w2.heap.size 3 i0 (.int .i64 0) 1 Try.underlying22 hi0 hz0 hz1 .i64 .i64 n n n rfl rfl rfl rfl (by rw [hz2]; omega) (le_maxLen (by omega)) (Nat.le_refl _) ?_; intro w3 hown hgr; rw [Nat.mul_one, show (Value.int .i64 0).cells = #[.int .i64 0] from rfl, toList_madeCells_one] at hown; have HW := Lib.hid (And.intro hown (grown_below hgr)); clear hown hgr)
  obtain ⟨Z, hZ⟩ : ∃ Z, w2.heap.size = Z := ⟨_, rfl⟩
  rw [hZ] at HW ⊢
  have HZ := Lib.hid (And.intro hZ (show w.heap.size ≤ Z from by rw [← hZ]; exact HB2.out.size))
  have HB3 := Lib.hid (HB2.out.trans (HW.out.2.mono HZ.out.2))
  clear hZ
  go_loopw [25] (fun i wr => ∃ j : Nat, j ≤ n ∧ i = .int .i64 (j : Int) ∧ wr.ownsRow Z 3 1 (.slice (some ⟨Z, 0, none⟩) n n) n ((X.map iv).take j ++ List.replicate (n - j) (.int .i64 0)) ∧ Below w.heap.size w wr) (fun i _ => n - (intOf i).toNat)
  case atStart => exact ⟨0, Nat.zero_le _, rfl, by rw [← fill_zero]; exact HW.out.1, HB3.out⟩
  case round =>
    obtain ⟨j, hj, rfl, hown, hb⟩ := hrel
    have KR := Lib.hid (And.intro hown hb)
    clear hown hb HW
    by_cases hlt : j < n
    case neg =>
      have hdj : decide ((j : Int) < (n : Int)) = false := decide_eq_false (by omega)
      obtain rfl : j = n := by omega
      have h := KR.out.1
      rw [fill_end (by rw [List.length_map]; exact HOK.out.2.2.2.2)] at h
      have HF := Lib.hid (show Si wr (some ⟨Z, 0, none⟩) X j from Sv.of_own h (by rw [List.length_map]; exact HOK.out.2.2.2.2))
      clear h
      go_wp2_with fail
      go_ret2
      exact ⟨_, _, rfl, HF.out, KR.out.2⟩
    have hdj : decide ((j : Int) < (n : Int)) = true := decide_eq_true (by omega)
    obtain ⟨x, hx⟩ : ∃ x, b[j]? = some x := ⟨_, List.getElem?_eq_getElem (by rw [HOK.out.2.2.2.1]; exact hlt)⟩
    have hxr := HOK.out.1 x (List.mem_of_getElem? hx)
    obtain ⟨x, rfl⟩ : ∃ x' : Nat, x = (x' : Int) := ⟨x.toNat, by omega⟩
    obtain ⟨y, hy⟩ : ∃ y, a[x]? = some y := ⟨_, List.getElem?_eq_getElem (by rw [HOK.out.2.2.1]; omega)⟩
    obtain ⟨bb, ob, rfl, hbb, hcb⟩ := HS.out.2.at_ hx
    obtain ⟨ba, oa, rfl, hba, hca⟩ := HS.out.1.at_ hy
    have z0 : wr.cell? ⟨bb, ob + j, none⟩ = some (.int .i64 (x : Int)) := (KR.out.2.cell (p := ⟨bb, ob + j, none⟩) hbb).trans hcb
    have z1 : wr.cell? ⟨ba, oa + x, none⟩ = some (.int .i64 y) := (KR.out.2.cell (p := ⟨ba, oa + x, none⟩) hba).trans hca
    have hXj : (X.map iv)[j]? = some (.int .i64 y) := by
      rw [List.getElem?_map, HOK.out.2.1 j x hx, List.getD_eq_getElem?_getD, hy]
      rfl
    have f1 := KR.out.1.frozenAt j
    have hzz : ∃ u, wr.cell? ⟨Z, j, none⟩ = some u := by
      refine ⟨_, (KR.out.1.cellAt j (by omega)).trans (List.getElem?_eq_getElem (h := ?_))⟩
      have := KR.out.1.1
      omega
    obtain ⟨u, hu⟩ := hzz
    have hst := KR.out.1.stored j (.int .i64 y)
    rw [fill_set (by rw [List.length_map]; exact HOK.out.2.2.2.2) hXj] at hst
    have HST := Lib.hid (And.intro hst.1 (KR.out.2.setCell (p := ⟨Z, j, none⟩) HZ.out.2 (.int .i64 y)))
    have i0 : (0 : Int) ≤ (j : Int) := by omega
    have i1 : (j : Int) < (n : Int) := by omega
    have i2 : (0 : Int) ≤ (x : Int) := by omega
    have i3 : (x : Int) < (n : Int) := by omega
    clear hx hxr hy hbb hcb hba hca hXj hst KR
    go_wp2_with fail
    go_roundw
    case rel => exact ⟨j + 1, by omega, by go_num, HST.out⟩
    case measure => simp [intOf]; omega

theorem check_any (A : Option Addr) (c : Nat) (l : List Int) (n : Int) (w : World) (hS : Si w A l c) :
    Calls Try.prog 15 #[.slice A l.length c, .int .i64 n] w (fun e w' => e = .returned (.int .i64 (if ¬ (0 ≤ n ∧ n ≤ 256) then 1 else if isp l n = true then 0 else 110)) ∧ Below w.heap.size w w') := by
  have hl9 := hS.le
  have HC := Lib.hid (count_any n w)
  have HI := Lib.hid (isp_any A c l n w hS)
  unfold QB at HI
  clear hS
  by_cases q1 : 0 ≤ n ∧ n ≤ 256
  case neg =>
    rw [if_pos q1]
    rw [decide_eq_false q1] at HC
    generalize l.length = L at *
    go_enter Try.func15, Try.ntmps15
    go_wp2_with fail
    refine HC.out.mono ?_
    rintro e w1 ⟨rfl, rfl⟩
    go_wp2_with fail
    go_ret
    exact ⟨rfl, Below.refl _ _⟩
  rw [if_neg (fun h => h q1)]
  rw [decide_eq_true q1] at HC
  cases q2 : isp l n with
  | false =>
    rw [q2] at HI
    rw [if_neg (by simp)]
    clear q2
    generalize l.length = L at *
    go_enter Try.func15, Try.ntmps15
    go_wp2_with fail
    refine HC.out.mono ?_
    rintro e w1 ⟨rfl, rfl⟩
    go_wp2_with fail
    refine HI.out.mono ?_
    rintro e w2 ⟨rfl, hb⟩
    have HB := Lib.hid hb
    clear hb
    go_wp2_with fail
    go_ret
    exact ⟨rfl, HB.out⟩
  | true =>
    rw [q2] at HI
    rw [if_pos rfl]
    clear q2
    generalize l.length = L at *
    go_enter Try.func15, Try.ntmps15
    go_wp2_with fail
    refine HC.out.mono ?_
    rintro e w1 ⟨rfl, rfl⟩
    go_wp2_with fail
    refine HI.out.mono ?_
    rintro e w2 ⟨rfl, hb⟩
    have HB := Lib.hid hb
    clear hb
    go_wp2_with fail
    go_ret
    exact ⟨rfl, HB.out⟩
end Go.Proofs.Ytobchecnfkocdaa
