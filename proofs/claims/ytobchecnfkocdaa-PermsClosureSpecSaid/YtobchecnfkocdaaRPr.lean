/- The reference's Product, Identity, Compose, Inverse, Check. -/
import Derived.Test.YtobchecnfkocdaaIn
import Derived.Laws.AppendOwnNone
import Derived.RangeFuncBox
namespace Go.Proofs.Ytobchecnfkocdaa
open Go.RowKit
set_option linter.unusedVariables false
set_option linter.unusedSimpArgs false

theorem wpList_append_int {base : Nat} {w : World} {ops : Array Oper} {rest : List Oper} {o : Oper} {a : Act} {Q : Exit → Act → World → Prop} (hgd : o.guard = none) (s x : Operand)
    (ho : o.op = .call { callee := .builtin .append, args := #[s, x], argTypes := #[22, 22] })
    (v : Value) (n : Nat) (l : List Int) (hs : a.eval s = v) (hown : w.ownsRow base 3 1 v n (l.map iv)) (q : Nat) (y : Int) (hx : a.eval x = .slice (some ⟨q, 0, none⟩) 1 1) (hq : Box w q #[.int .i64 y] 3) (hn : n ≤ 900000) (hbase : base ≤ w.heap.size)
    (h : ∀ g c' w', w'.ownsRow base 3 1 (.slice (some ⟨g, 0, none⟩) (n + 1) c') (n + 1) ((l ++ [y]).map iv) → w.grownBy w' v.ownBlock → wpList Try.prog ops Q rest (a.put o.dst (.slice (some ⟨g, 0, none⟩) (n + 1) c')) w') : wpList Try.prog ops Q (o :: rest) a w := by
  obtain ⟨i0, hi0, hz0, hz1, hz2⟩ := info_parts i64_info
  refine wpList_plain hgd fun K hK => ?_
  refine wp_append_own w s x 22 ho base 3 i0 (.int .i64 0) 1 8 Try.underlying22 hi0 hz0 hz1 hz2 rfl (by decide) v n (l.map iv) hs hown ⟨q, 0, none⟩ 1 1 [.int .i64 y] hx rfl (World.news_of_block hq) (by intro v hv; simp at hv; rw [hv]; rfl) (le_maxLen (by omega)) (by omega) hbase ?_
  intro v' w' ho' hg' _
  obtain ⟨g, c', rfl⟩ := Go.ownsRow_succ ho'
  refine hK _ _ (h g c' w' ?_ hg')
  rw [List.map_append]
  exact ho'
theorem own_grown {w w' w0 : World} {B n : Nat} {v : Value} {e : TypeId} {size : Nat} {xs : List Value} (hB : Below B w0 w) (h : w.ownsRow B e size v n xs) (hg : w.grownBy w' v.ownBlock) (hz : B ≤ w.heap.size) : Below B w0 w' := hB.grown hg hz (fun i hi => (h.lt i hi).1)
/-- A list of numbers that a call hands back. -/
def ListP (l : List Int) (w : World) (e : Ending) (w' : World) : Prop := ∃ A c, e = .returned (.slice A l.length c) ∧ Si w' A l c ∧ Below w.heap.size w w'

set_option maxHeartbeats 4000000 in
set_option maxRecDepth 100000 in
theorem product_any (A : Option Addr) (c : Nat) (a : List Int) (B : Option Addr) (d : Nat) (b : List Int) (w : World) (hA : Si w A a c) (hB : Si w B b d) (hr : ∀ x ∈ b, 0 ≤ x ∧ x < (a.length : Int)) (hl : b.length ≤ 100000) :
    Calls Try.prog 28 #[.slice A a.length c, .slice B b.length d] w (ListP (cmi a b) w) := by
  have hl1 := hA.le
  have HS := Lib.hid (And.intro hA hB)
  obtain ⟨n, hn⟩ : ∃ n, a.length = n := ⟨_, rfl⟩
  obtain ⟨m, hm⟩ : ∃ m, b.length = m := ⟨_, rfl⟩
  have hcl := cmi_length a b
  have hcv : ∀ (j : Nat) (x : Nat), b[j]? = some (x : Int) → (cmi a b)[j]? = some (a.getD x 0) := fun j x hx => by
    unfold cmi
    rw [List.getElem?_map, hx]
    rfl
  rw [hn] at hr hl1
  rw [hm] at hcl hl
  have HOK := Lib.hid (And.intro hr (And.intro hcv (And.intro hn (And.intro hm hcl))))
  generalize cmi a b = X at *
  unfold ListP
  rw [hn, hm, hcl]
  clear hA hB hr hcv hn hm hcl
  have HE := Lib.hid (show (w.alloc (.cells #[] 3)).ownsRow w.heap.size 3 1 (.slice (some ⟨w.heap.size, 0, none⟩) 0 0) 0 [] from World.ownsRow_lit w #[] 0 (Nat.le_refl _) (by unfold maxLen; omega) rfl)
  have HEB := Lib.hid ((Below.refl w.heap.size w).alloc (Nat.le_refl _) (.cells #[] 3))
  go_enter Try.func28, Try.ntmps28
  go_wp2_with fail
  go_loopw [5, 6] (fun v i wr => ∃ (j : Nat) (A' : Option Addr) (c' : Nat), j ≤ m ∧ v = .slice A' j c' ∧ i = .int .i64 (j : Int) ∧ wr.ownsRow w.heap.size 3 1 (.slice A' j c') j ((X.take j).map iv) ∧ Below w.heap.size w wr) (fun _ i _ => m - (intOf i).toNat)
  case atStart => exact ⟨0, _, 0, Nat.zero_le _, rfl, rfl, HE.out, HEB.out⟩
  case round =>
    obtain ⟨j, A', c', hj, rfl, rfl, hown, hb⟩ := hrel
    have KR := Lib.hid (And.intro hown hb)
    clear hown hb HE HEB
    by_cases hlt : j < m
    case neg =>
      have hdj : decide ((j : Int) < (m : Int)) = false := decide_eq_false (by omega)
      obtain rfl : j = m := by omega
      have h := KR.out.1
      rw [List.take_of_length_le (by rw [HOK.out.2.2.2.2]; exact Nat.le_refl _)] at h
      have HF := Lib.hid (show Si wr A' X c' from Sv.of_own h (by rw [List.length_map]; exact HOK.out.2.2.2.2))
      clear h
      go_wp2_with fail
      go_ret
      exact ⟨_, _, rfl, HF.out, KR.out.2⟩
    have hdj : decide ((j : Int) < (m : Int)) = true := decide_eq_true (by omega)
    obtain ⟨x, hx⟩ : ∃ x, b[j]? = some x := ⟨_, List.getElem?_eq_getElem (by rw [HOK.out.2.2.2.1]; exact hlt)⟩
    have hxr := HOK.out.1 x (List.mem_of_getElem? hx)
    obtain ⟨x, rfl⟩ : ∃ x' : Nat, x = (x' : Int) := ⟨x.toNat, by omega⟩
    obtain ⟨y, hy⟩ : ∃ y, a[x]? = some y := ⟨_, List.getElem?_eq_getElem (by rw [HOK.out.2.2.1]; omega)⟩
    obtain ⟨bb, ob, rfl, hbb, hcb⟩ := HS.out.2.at_ hx
    obtain ⟨ba, oa, rfl, hba, hca⟩ := HS.out.1.at_ hy
    have z0 : wr.cell? ⟨bb, ob + j, none⟩ = some (.int .i64 (x : Int)) := (KR.out.2.cell (p := ⟨bb, ob + j, none⟩) hbb).trans hcb
    have z1 : wr.cell? ⟨ba, oa + x, none⟩ = some (.int .i64 y) := (KR.out.2.cell (p := ⟨ba, oa + x, none⟩) hba).trans hca
    have htk : X.take (j + 1) = X.take j ++ [y] := take_next (by rw [HOK.out.2.1 j x hx, List.getD_eq_getElem?_getD, hy]; rfl)
    have HTK := Lib.hid htk
    have i0 : (0 : Int) ≤ (j : Int) := by omega
    have i1 : (j : Int) < (m : Int) := by omega
    have i2 : (0 : Int) ≤ (x : Int) := by omega
    have i3 : (x : Int) < (n : Int) := by omega
    have hba2 := (Below.refl wr.heap.size wr).alloc (Nat.le_refl _) (.cells #[.int .i64 y] 3)
    have HA1 := Lib.hid (And.intro (own_below KR.out.1 hba2) (KR.out.2.trans (hba2.mono KR.out.2.size)))
    clear hx hxr hy hbb hcb hba hca htk hba2
    go_wp2_with (at_builtin; refine wpList_append_int rfl (.tmp 14) (.tmp 22) rfl _ j _ rfl HA1.out.1 wr.heap.size y rfl (Box.new wr _ _) (by omega) HA1.out.2.size ?_; intro g1 c1 w7 ho7 hg7; have H7 := Lib.hid (And.intro ho7 (own_grown HA1.out.2 HA1.out.1 hg7 HA1.out.2.size)); clear ho7 hg7)
    go_roundw
    case rel => exact ⟨j + 1, _, _, by omega, rfl, by go_num, by rw [HTK.out]; exact H7.out.1, H7.out.2⟩
    case measure => simp [intOf]; omega

set_option maxHeartbeats 4000000 in
set_option maxRecDepth 100000 in
theorem identity_any (n : Int) (w : World) (hl : n ≤ 100000) :
    Calls Try.prog 25 #[.int .i64 n] w (ListP (ris (fun i => (i : Int)) n.toNat) w) := by
  obtain ⟨m, hm⟩ : ∃ m, n.toNat = m := ⟨_, rfl⟩
  rw [hm]
  have hXl := ris_length (fun i => (i : Int)) m
  have HX := Lib.hid (And.intro hXl (fun j (hj : j < m) => ris_at (fun i => (i : Int)) hj))
  generalize ris (fun i => (i : Int)) m = X at *
  unfold ListP
  rw [hXl]
  clear hXl
  have HE := Lib.hid (show (w.alloc (.cells #[] 3)).ownsRow w.heap.size 3 1 (.slice (some ⟨w.heap.size, 0, none⟩) 0 0) 0 [] from World.ownsRow_lit w #[] 0 (Nat.le_refl _) (by unfold maxLen; omega) rfl)
  have HEB := Lib.hid ((Below.refl w.heap.size w).alloc (Nat.le_refl _) (.cells #[] 3))
  have HM := Lib.hid hm
  clear hm
  go_enter Try.func25, Try.ntmps25
  go_wp2_with fail
  go_loopw [3, 4] (fun v i wr => ∃ (j : Nat) (A' : Option Addr) (c' : Nat), j ≤ m ∧ v = .slice A' j c' ∧ i = .int .i64 (j : Int) ∧ wr.ownsRow w.heap.size 3 1 (.slice A' j c') j ((X.take j).map iv) ∧ Below w.heap.size w wr) (fun _ i _ => m - (intOf i).toNat)
  case atStart => exact ⟨0, _, 0, Nat.zero_le _, rfl, rfl, HE.out, HEB.out⟩
  case round =>
    obtain ⟨j, A', c', hj, rfl, rfl, hown, hb⟩ := hrel
    have KR := Lib.hid (And.intro hown hb)
    clear hown hb HE HEB
    by_cases hlt : j < m
    case neg =>
      have hdj : decide ((j : Int) < n) = false := decide_eq_false (by have := HM.out; omega)
      have hdk : n ≤ (j : Int) := by have := HM.out; omega
      obtain rfl : j = m := by omega
      have h := KR.out.1
      rw [List.take_of_length_le (by rw [HX.out.1]; exact Nat.le_refl _)] at h
      have HF := Lib.hid (show Si wr A' X c' from Sv.of_own h (by rw [List.length_map]; exact HX.out.1))
      clear h
      go_wp2_with fail
      go_ret
      exact ⟨_, _, rfl, HF.out, KR.out.2⟩
    have hdj : decide ((j : Int) < n) = true := decide_eq_true (by have := HM.out; omega)
    have hdk : (j : Int) < n := by have := HM.out; omega
    have htk : X.take (j + 1) = X.take j ++ [(j : Int)] := take_next (HX.out.2 j hlt)
    have HTK := Lib.hid htk
    have hm9 : m ≤ 100000 := by have := HM.out; omega
    have hba2 := (Below.refl wr.heap.size wr).alloc (Nat.le_refl _) (.cells #[.int .i64 (j : Int)] 3)
    have HA1 := Lib.hid (And.intro (own_below KR.out.1 hba2) (KR.out.2.trans (hba2.mono KR.out.2.size)))
    clear htk hba2
    go_wp2_with (at_builtin; refine wpList_append_int rfl (.tmp 11) (.tmp 13) rfl _ j _ rfl HA1.out.1 wr.heap.size (j : Int) rfl (Box.new wr _ _) (by omega) HA1.out.2.size ?_; intro g1 c1 w7 ho7 hg7; have H7 := Lib.hid (And.intro ho7 (own_grown HA1.out.2 HA1.out.1 hg7 HA1.out.2.size)); clear ho7 hg7)
    go_roundw
    case rel => exact ⟨j + 1, _, _, by omega, rfl, by go_num, by rw [HTK.out]; exact H7.out.1, H7.out.2⟩
    case measure => simp [intOf]; omega
end Go.Proofs.Ytobchecnfkocdaa
