import Derived.Test.YtkihimafeonibaaRefEnc
import Derived.Deep.RegionLaw
namespace Go.Proofs.Ytkihimafeonibaa
open Go.RowKit
set_option linter.unusedVariables false

/-- append(b, text...) inside a region that draws. -/
theorem step_append_text {P : Program} {ops : Array Oper} {o : Oper} {a : Act} {w : World} {K : Act → World → Prop} {Q : Exit → Act → World → Prop} {E : Prop} (hgd : o.guard = none) (sl x : Operand) (t u : TypeId)
    (ho : o.op = .call { callee := .builtin .append, args := #[sl, x], argTypes := #[t, u] })
    (base : Nat) (e : TypeId) (i : TypeInfo) (ht : P.underlying t = some (.slice e)) (hu : P.underlying u = some .string) (hi : P.info? e = some i) (hz : i.zero = some (.int .u8 0))
    (hsize : i.size = 1) (hby : i.bytes = 1)
    (v : Value) (n : Nat) (xs : List Value) (hs : a.eval sl = v) (hown : w.ownsRow base e 1 v n xs) (s : ByteArray) (hx : a.eval x = .string s)
    (h63 : n + s.size ≤ maxLen) (hbytes : n + s.size ≤ 140737488355328) (hbase : base ≤ w.heap.size)
    (h : ∀ v' w', w'.ownsRow base e 1 v' (n + s.size) (xs ++ Lib.strCells s) → w.grownBy w' v.ownBlock → K (a.put o.dst v') w') :
    if Region.wanted o (yielded ops a.tmps) = true then Oper.wp P o a w K Q else E := by
  have hw : Region.wanted o (yielded ops a.tmps) = true := by simp [Region.wanted, hgd]
  rw [if_pos hw]
  obtain ⟨v', w', hr, h2, h3, h4⟩ := Lib.run_append_own_string (P := P) w base t u o.type e i ht hu hi hz hsize hby v n xs hown s h63 hbytes hbase
  unfold Oper.wp execOp
  simp only [ho, resolve, invoke, builtin, Sem.run_bind, Sem.run_pure, Result.andThen_ok, List.map_toArray, List.map_cons, List.map_nil, hs, hx, hr]
  exact h v' w' h2 h3

set_option maxHeartbeats 400000 in
set_option maxRecDepth 100000 in
theorem refEncText (n : Int) (s : ByteArray) (len cap : Nat) (a : Option Addr) (w : World) (hl : s.size ≤ 80000000) :
    Calls Try.prog 28 #[.agg #[.int .i64 2, .int .i64 n, .string s, .slice a len cap]] w (Row w.heap.size (2 :: (num s.size ++ s.data.toList)) w) := by
  obtain ⟨i0, hi0, hz0, hz1, hz2⟩ := info_parts u8_info
  have hnl := num_length s.size
  have hu : s.size < 18446744073709551616 := by omega
  have hb1 := (Below.refl w.heap.size w).alloc (Nat.le_refl _) (.cells #[.int .i64 2, .int .i64 n, .string s, .slice a len cap] 24)
  have q1 := Box.new w #[.int .i64 2, .int .i64 n, .string s, .slice a len cap] 24
  have HU := Lib.hid hu
  clear hu
  generalize hN : num s.size = N at *
  have HN := Lib.hid hN
  clear hN
  go_enter Try.func28, Try.ntmps28
  go_wp2_with fail
  generalize w.alloc (.cells #[.int .i64 2, .int .i64 n, .string s, .slice a len cap] 24) = W2 at *
  have c1 : W2.cell? ⟨w.heap.size, 2, none⟩ = some (.string s) := q1.cell 2
  have hwr : IntKind.u64.wrap (s.size : Int) = (s.size : Int) := by rw [IntKind.wrap_u64]; omega
  have hbd := hb1.drew
  have q1d : Box W2.drew _ _ _ := q1
  have hz := hbd.size
  have hwz := q1d.lt
  have ho1 : (W2.alloc (.cells #[.int .u8 2] 5)).drew.ownsRow w.heap.size 5 1 (.slice (some ⟨W2.heap.size, 0, none⟩) 1 1) 1 [bv 2] := ((own_one W2 2 (.int .u8 2) rfl).mono (base' := w.heap.size) hz).drew
  have HO1 := Lib.hid ho1
  have hba := (hb1.alloc hz (.cells #[.int .u8 2] 5)).drew
  have q1a : Box (W2.alloc (.cells #[.int .u8 2] 5)).drew _ _ _ := q1.alloc (.cells #[.int .u8 2] 5)
  have hza := hba.size
  clear ho1
  have h63 : 1 + N.length ≤ maxLen := le_maxLen (by omega)
  have h47 : (1 + N.length) * 1 ≤ 140737488355328 := by omega
  have h63' : 1 + N.length + s.size ≤ maxLen := le_maxLen (by omega)
  have h47' : 1 + N.length + s.size ≤ 140737488355328 := by omega
  have hN0 : 0 < N.length := by omega
  have ne24 : 5 ≠ 24 := by decide
  go_region_held3 (fun w' => w'.cell? ⟨w.heap.size, 2, none⟩ = some (.string s)) (first | exact p1.cell 2 | exact p0.cell 2 | go_keep)
    (first
      | (go_at_call 42; refine (refNum_any s.size _ HU.out).mono ?_; rintro e w3 ⟨A, c, rfl, ho3, hb3⟩; rw [HN.out] at ho3; rw [HN.out]; obtain ⟨g, rfl, hsrc⟩ := own_src ho3 hN0; first
          | (have ho17 := own_below HO1.out hb3; have p1 := q1a.below hb3; have hbw3 := hba.trans (hb3.mono hza))
          | (have p0 := q1d.below hb3; have hbw0 := hbd.trans (hb3.mono hz); have ho17 := (own_one w3 2 (.int .u8 2) rfl).mono (base' := w.heap.size) hbw0.size; have p1 := p0.alloc (.cells #[.int .u8 2] 5); have hsrc := (ho3.alloc (.cells #[.int .u8 2] 5)).cells (g := g) rfl; have hbw3 := hbw0.alloc hbw0.size (.cells #[.int .u8 2] 5)))
      | ((refine step_append_lies _ (by rfl) _ _ 27 (by rfl) w.heap.size 5 i0 (.int .u8 0) 1 1 Try.underlying27 hi0 hz0 hz1 hz2 rfl (by decide) _ 1 [bv 2] (by rfl) ho17 ⟨g, 0, none⟩ N.length c (N.map bv) (by rfl) (by simp) hsrc (bv_one _) hN0 h63 h47 hbw3.size _ rfl ?_); intro g4 k4 w4 ho4 hg4 _ _; have p1 : Box w4 _ _ _ := (hg4.block _ p1.lt (own_other ho17 p1 ne24)).trans p1; have hb4 := hbw3.grown hg4 hbw3.size (fun k hk => (ho17.lt k hk).1))
      | ((refine step_append_text (by rfl) _ _ 27 9 (by rfl) w.heap.size 5 i0 Try.underlying27 Try.underlying9 hi0 hz0 hz1 hz2 _ (1 + N.length) ([bv 2] ++ N.map bv) (by rfl) ho4 s (by rfl) h63' h47' hb4.size ?_); intro v5 w5 ho5 hg5; have p1 : Box w5 _ _ _ := (hg5.block _ p1.lt (own_other ho4 p1 ne24)).trans p1; have hb5 := hb4.grown hg5 hb4.size (fun k hk => (ho4.lt k hk).1); obtain ⟨A5, k5, hv5⟩ := own_form ho5; subst hv5)
      | fail)
  all_goals
    have hll : (2 :: (N ++ s.data.toList) : List UInt8).length = 1 + N.length + s.size := by rw [List.length_cons, List.length_append, Nat.add_comm, Nat.add_assoc]; rfl
    have HLL := Lib.hid hll
    clear hll
    go_wp2_with fail
    go_ret
    refine ⟨A5, k5, by rw [HLL.out]; rfl, ?_, hb5⟩
    rw [HLL.out, List.map_cons, List.map_append, ← strCells_bv]
    exact ho5

theorem enc_pos (t : T) : 0 < (enc t).length := by
  cases t with
  | nil => simp [enc]
  | mk k n s len f =>
    simp only [enc]
    split
    · simp
    · split <;> simp

theorem refEnc_any (t : T) : wfB t = true → ∀ (v : Value) (w : World), Rd w.heap.size w t v → (enc t).length ≤ 80000000 →
    Calls Try.prog 28 #[v] w (Row w.heap.size (enc t) w) := by
  induction t with
  | nil => first | (intros; exact False.elim (by assumption)) | (intro hw; cases hw)
  | mk k n s len f ih =>
    intro hw v w hrd hl
    obtain ⟨a, cap, rfl, h1, h2, h3, h4, h5⟩ := hrd
    change RdS w.heap.size w len f a at h5
    simp only [wfB] at hw
    by_cases k1 : k = 1
    · subst k1
      have hx : enc (.mk 1 n s len f) = 1 :: num (uns n) := by simp [enc]
      rw [hx]
      exact refEncInt n s len cap a w h2
    rw [if_neg k1] at hw
    by_cases k2 : k = 2
    · subst k2
      have hx : enc (.mk 2 n s len f) = 2 :: (num s.size ++ s.data.toList) := by simp [enc]
      have hsz : s.data.toList.length = s.size := rfl
      rw [hx] at hl ⊢
      simp only [List.length_cons, List.length_append, hsz] at hl
      exact refEncText n s len cap a w (by omega)
    rw [if_neg k2] at hw
    by_cases k3 : k = 3
    · subst k3
      have hx : enc (.mk 3 n s len f) = 3 :: (num len ++ catTo (fun i => enc (f i)) len) := by simp [enc]
      simp only [if_true, Bool.and_eq_true] at hw
      have hall := allTo_eq.1 hw.2
      unfold maxLen at h4
      rw [hx] at hl ⊢
      simp only [List.length_cons] at hl
      have hle : ∀ i, i < len → (enc (f i)).length ≤ 80000000 := fun i hi => by
        have := catTo_len (p := fun i => enc (f i)) hi
        simp only [List.length_append] at hl this
        omega
      exact refEncList n s len cap a f (fun i => enc (f i)) w (by omega) h5 (by omega) (fun i hi v w hr => ih i (hall i hi) v w hr (hle i hi)) (fun i _ => enc_pos _)
    · rw [if_neg k3] at hw
      cases hw

set_option maxHeartbeats 400000 in
set_option maxRecDepth 100000 in
theorem refEncode_bad (t : T) (v : Value) (w : World) (hrd : Rd w.heap.size w t v) (hd : dep t ≤ 1000000) (hc : chk t ≠ 0) :
    Calls Try.prog 13 #[v] w fun e w' => e = .returned (.tuple #[.slice none 0 0, .int .i64 (chk t)]) ∧ Below w.heap.size w w' := by
  obtain ⟨k, n, s, len, f, rfl⟩ := hrd.ex
  have hrd1 := hrd
  obtain ⟨a, cap, rfl, h1, h2, h3, h4, h5⟩ := hrd1
  clear h5
  unfold Fit maxLen at *
  have hb := (Below.refl w.heap.size w).alloc (Nat.le_refl _) (.cells #[.int .i64 k, .int .i64 n, .string s, .slice a len cap] 24)
  have hrd2 := hrd.up hb
  have hcn : (chk (.mk k n s len f) != 0 : Bool) = true := by simpa using hc
  clear hrd hc
  generalize hT : T.mk k n s len f = t at *
  have HT := Lib.hid hT
  clear hT
  go_enter Try.func13, Try.ntmps13
  go_wp2_with fail
  refine (refCheck_any _ _ _ hrd2 hd).mono ?_
  rintro e w1 ⟨rfl, hb1⟩
  have hbw := hb.trans (hb1.mono hb.size)
  generalize hC : chk t = C at *
  have HC := Lib.hid hC
  clear hC hrd2 hb1 hb
  go_wp2_with fail
  go_ret2
  exact ⟨by rw [HC.out]; rfl, hbw⟩

/-- What Encode hands back for a value that can be encoded. -/
def Enc2 (B : Nat) (bs : List UInt8) (w : World) (e : Ending) (w' : World) : Prop :=
  ∃ (A : Option Addr) (c : Nat), e = .returned (.tuple #[.slice A bs.length c, .int .i64 0]) ∧ w'.ownsRow B 5 1 (.slice A bs.length c) bs.length (bs.map bv) ∧ Below w.heap.size w w'

set_option maxHeartbeats 400000 in
set_option maxRecDepth 100000 in
theorem refEncode_good (t : T) (v : Value) (w : World) (hrd : Rd w.heap.size w t v) (hd : dep t ≤ 1000000) (hc : chk t = 0) (hlen : (enc t).length ≤ 80000000) :
    Calls Try.prog 13 #[v] w (Enc2 w.heap.size (enc t) w) := by
  have hw : wfB t = true := by
    cases h : wfB t
    · simp [chk, h] at hc
    · rfl
  obtain ⟨k, n, s, len, f, rfl⟩ := hrd.ex
  have hrd1 := hrd
  obtain ⟨a, cap, rfl, h1, h2, h3, h4, h5⟩ := hrd1
  clear h5
  unfold Fit maxLen at *
  have hb := (Below.refl w.heap.size w).alloc (Nat.le_refl _) (.cells #[.int .i64 k, .int .i64 n, .string s, .slice a len cap] 24)
  have hrd2 := hrd.up hb
  have hcn : (chk (.mk k n s len f) != 0 : Bool) = false := by simpa using hc
  clear hrd hc
  generalize hT : T.mk k n s len f = t at *
  have HT := Lib.hid hT
  clear hT
  go_enter Try.func13, Try.ntmps13
  go_wp2_with fail
  refine (refCheck_any _ _ _ hrd2 hd).mono ?_
  rintro e w1 ⟨rfl, hb1⟩
  have hcell := box4 (w := w) (wr := w1) (t := 24) (c0 := .int .i64 k) (c1 := .int .i64 n) (c2 := .string s) (c3 := .slice a len cap) (by simpa using hb1)
  obtain ⟨b0, b1, b2, b3, hsz⟩ := hcell
  have hbw := hb.trans (hb1.mono hb.size)
  have hrd3 := hrd2.up hb1
  generalize chk t = C at *
  clear hrd2 hb1 hb
  have HE := Lib.hid (refEnc_any t hw _ _ hrd3 hlen)
  clear hrd3
  go_wp2_with fail
  refine HE.out.mono ?_
  rintro e w2 ⟨A, c, rfl, ho, hb2⟩
  go_wp2_with fail
  go_ret2
  exact ⟨A, c, rfl, ho.mono hbw.size, hbw.trans (hb2.mono hbw.size)⟩

set_option maxHeartbeats 400000 in
set_option maxRecDepth 100000 in
theorem refSize_bad (t : T) (v : Value) (w : World) (hrd : Rd w.heap.size w t v) (hd : dep t ≤ 1000000) (hc : chk t ≠ 0) :
    Calls Try.prog 15 #[v] w fun e w' => e = .returned (.tuple #[.int .i64 0, .int .i64 (chk t)]) ∧ Below w.heap.size w w' := by
  obtain ⟨k, n, s, len, f, rfl⟩ := hrd.ex
  have hrd1 := hrd
  obtain ⟨a, cap, rfl, h1, h2, h3, h4, h5⟩ := hrd1
  clear h5
  unfold Fit maxLen at *
  have hb := (Below.refl w.heap.size w).alloc (Nat.le_refl _) (.cells #[.int .i64 k, .int .i64 n, .string s, .slice a len cap] 24)
  have hrd2 := hrd.up hb
  have HE := Lib.hid (refEncode_bad _ _ _ hrd2 hd hc)
  clear hrd hc hrd2
  generalize T.mk k n s len f = t at *
  go_enter Try.func15, Try.ntmps15
  go_wp2_with fail
  refine HE.out.mono ?_
  rintro e w1 ⟨rfl, hb1⟩
  have hbw := hb.trans (hb1.mono hb.size)
  clear hb hb1
  go_wp2_with fail
  go_ret2
  exact ⟨rfl, hbw⟩

set_option maxHeartbeats 400000 in
set_option maxRecDepth 100000 in
theorem refSize_good (t : T) (v : Value) (w : World) (hrd : Rd w.heap.size w t v) (hd : dep t ≤ 1000000) (hc : chk t = 0) (hlen : (enc t).length ≤ 80000000) :
    Calls Try.prog 15 #[v] w fun e w' => e = .returned (.tuple #[.int .i64 (enc t).length, .int .i64 0]) ∧ Below w.heap.size w w' := by
  obtain ⟨k, n, s, len, f, rfl⟩ := hrd.ex
  have hrd1 := hrd
  obtain ⟨a, cap, rfl, h1, h2, h3, h4, h5⟩ := hrd1
  clear h5
  unfold Fit maxLen at *
  have hb := (Below.refl w.heap.size w).alloc (Nat.le_refl _) (.cells #[.int .i64 k, .int .i64 n, .string s, .slice a len cap] 24)
  have hrd2 := hrd.up hb
  have HE := Lib.hid (refEncode_good _ _ _ hrd2 hd hc hlen)
  clear hrd hc hrd2
  generalize T.mk k n s len f = t at *
  generalize enc t = E at *
  go_enter Try.func15, Try.ntmps15
  go_wp2_with fail
  refine HE.out.mono ?_
  rintro e w1 ⟨A, c, rfl, ho, hb1⟩
  have hbw := hb.trans (hb1.mono hb.size)
  clear hb hb1
  go_wp2_with fail
  go_ret2
  exact ⟨rfl, hbw⟩
end Go.Proofs.Ytkihimafeonibaa
