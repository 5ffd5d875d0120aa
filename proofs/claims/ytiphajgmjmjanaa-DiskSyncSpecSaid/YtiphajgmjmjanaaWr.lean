/- Write. -/
import Derived.Test.YtiphajgmjmjanaaSd
import Derived.ArgAppend
import Derived.IntWalk
namespace Go.Proofs.Ytiphajgmjmjanaa
open Go.RowKit
set_option linter.unusedVariables false

section
variable {P : Program} {frame : (Nat → Value) → Act} {C : World → Prop} {φ : Nat → Value → World → Prop} {ψ : Nat → Nat → Value → Value → Prop} {Q : Exit → Act → World → Prop}
theorem step_ex {o : Oper} {i : Nat} {T : Type} (b : Nat) (y : T → Value) (R : T → World → Prop) (hb : List.elem b (depsOf o) = true) (hy : ∀ v w, φ b v w → ∃ t, v = y t ∧ R t w)
    (h : ∀ t vs w, C w → R t w → o.wp P (frame (upd vs b (y t))) w (Left frame C φ ψ i (upd vs b (y t)) w) Q) : StepAt frame C φ ψ Q P o i := by
  constructor
  intro vs w hC hd
  obtain ⟨t, h1, h2⟩ := hy _ _ (hd b (List.elem_iff.1 hb))
  have hv : vs = upd vs b (y t) := by
    funext m
    unfold upd
    split
    · rename_i h; rw [h, h1]
    · rfl
  rw [hv]
  exact h t vs w hC h2
theorem step_two_ex {o : Oper} {i : Nat} {T : Type} (a b : Nat) (x : Value) (y : T → Value) (R : T → World → Prop) (ha : List.elem a (depsOf o) = true) (hb : List.elem b (depsOf o) = true) (hx : ∀ v w, φ a v w → v = x) (hy : ∀ v w, φ b v w → ∃ t, v = y t ∧ R t w)
    (h : ∀ t vs w, C w → R t w → o.wp P (frame (upd (upd vs a x) b (y t))) w (Left frame C φ ψ i (upd (upd vs a x) b (y t)) w) Q) : StepAt frame C φ ψ Q P o i := by
  constructor
  intro vs w hC hd
  have h1 := hx _ _ (hd a (List.elem_iff.1 ha))
  obtain ⟨t, h2, h3⟩ := hy _ _ (hd b (List.elem_iff.1 hb))
  have hv : vs = upd (upd vs a x) b (y t) := by
    funext m
    unfold upd
    split
    · rename_i h; rw [h, h2]
    · split
      · rename_i h; rw [h, h1]
      · rfl
  rw [hv]
  exact h t vs w hC h3
theorem step_three {o : Oper} {i : Nat} (a b c : Nat) (x y z : Value) (ha : List.elem a (depsOf o) = true) (hb : List.elem b (depsOf o) = true) (hc : List.elem c (depsOf o) = true) (hx : ∀ v w, φ a v w → v = x) (hy : ∀ v w, φ b v w → v = y) (hz : ∀ v w, φ c v w → v = z)
    (h : ∀ vs w, C w → o.wp P (frame (upd (upd (upd vs a x) b y) c z)) w (Left frame C φ ψ i (upd (upd (upd vs a x) b y) c z) w) Q) : StepAt frame C φ ψ Q P o i := by
  constructor
  intro vs w hC hd
  have h1 := hx _ _ (hd a (List.elem_iff.1 ha))
  have h2 := hy _ _ (hd b (List.elem_iff.1 hb))
  have h3 := hz _ _ (hd c (List.elem_iff.1 hc))
  have hv : vs = upd (upd (upd vs a x) b y) c z := by
    funext m
    unfold upd
    split
    · rename_i h; rw [h, h3]
    · split
      · rename_i h; rw [h, h2]
      · split
        · rename_i h; rw [h, h1]
        · rfl
  rw [hv]
  exact h vs w hC
end

/-- Writes behind a store into a small box. -/
theorem WW.other {w : World} {A : Option Addr} {l : List (Int × List UInt8)} {c b : Nat} {cs : Array Value} {t : TypeId} (h : WW w A l c) (hw : ∀ a ∈ l, a.2.length = 128) (hb : Box w b cs t) (hc : cs.size < 128) (hA : ∀ a off, A = some ⟨a, off, none⟩ → a ≠ b) (i : Nat) (v : Value) : WW (w.setCell ⟨b, i, none⟩ v) A l c := by
  have hst := set_grown_at w b i v
  refine ⟨fun hp => ?_, h.2⟩
  obtain ⟨a, off, e, hlt, hs⟩ := h.1 hp
  refine ⟨a, off, e, Nat.lt_of_lt_of_le hlt hst.size, fun j s hj => ?_⟩
  obtain ⟨D, d, h0, h1, h2⟩ := hs j s hj
  have hne := hA a off e
  refine ⟨D, d, hst.cell h0 (by simpa using hne), hst.cell h1 (by simpa using hne), h2.keep hst (fun b2 off2 e2 => ?_)⟩
  subst e2
  intro e3
  injection e3 with e3
  subst e3
  exact sl_no_box h2 (hw s (List.mem_of_getElem? hj)) hb hc
theorem fin4w {w1 : World} {b g cg : Nat} {S : List (Int × List UInt8)} {t : TypeId} {a0 a1 a2 a3 : Value} (v0 v1 v2 v3 : Value) (hr : WW w1 (some ⟨g, 0, none⟩) S cg) (hm : ∀ x ∈ S, x.2.length = 128) (hb : Box w1 b #[a0, a1, a2, a3] t) (hne : g ≠ b) :
    WW ((((w1.setCell ⟨b, 0, none⟩ v0).setCell ⟨b, 1, none⟩ v1).setCell ⟨b, 2, none⟩ v2).setCell ⟨b, 3, none⟩ v3) (some ⟨g, 0, none⟩) S cg := by
  have h1 := hr.other hm hb (by simp) (fun a off e => by cases e; exact hne) 0 v0
  have h2 := h1.other hm hb.set (by simp) (fun a off e => by cases e; exact hne) 1 v1
  have h3 := h2.other hm hb.set.set (by simp) (fun a off e => by cases e; exact hne) 2 v2
  exact h3.other hm hb.set.set.set (by simp) (fun a off e => by cases e; exact hne) 3 v3

/-- What each operation of the region that writes leaves. -/
def valW (X m k0 mb kd : Nat) (i : Int) (B D : Option Addr) : Nat → Value
  | 0 => .pointer (some ⟨X, 1, none⟩)
  | 1 => .slice B m k0
  | 2 => .int .i64 (m : Int)
  | 3 => .int .i64 (m : Int)
  | 4 => .slice B m m
  | 5 => .int .i64 i
  | 6 => .slice D mb kd
  | _ => undef
def phW (h m : Nat) (i : Int) (s : List UInt8) (l : List (Int × List UInt8)) (val : Nat → Value) : Nat → Value → World → Prop
  | 7, v, w => ∃ z : Nat, v = .slice (some ⟨z, 0, none⟩) 128 128 ∧ Sl w (some ⟨z, 0, none⟩) s 128
  | 8, v, w => ∃ z : Nat, v = .agg #[.int .i64 i, .slice (some ⟨z, 0, none⟩) 128 128] ∧ Sl w (some ⟨z, 0, none⟩) s 128
  | 9, v, w => ∃ t : Nat × Nat, v = .slice (some ⟨t.1, 0, none⟩) 1 1 ∧ Box w t.1 #[.int .i64 i, .slice (some ⟨t.2, 0, none⟩) 128 128] 54 ∧ Sl w (some ⟨t.2, 0, none⟩) s 128
  | 10, v, w => ∃ t : Nat × Nat, v = .slice (some ⟨t.1, 0, none⟩) (m + 1) t.2 ∧ WW w (some ⟨t.1, 0, none⟩) (l ++ [(i, s)]) t.2 ∧ h ≤ t.1
  | j, v, _ => v = val j
theorem phW_lasts (h m : Nat) (i : Int) (s : List UInt8) (l : List (Int × List UInt8)) (val : Nat → Value) : ∀ j v w w', phW h m i s l val j v w → Below w.heap.size w w' → phW h m i s l val j v w' := by
  intro j v w w' hp hb
  unfold phW at hp ⊢
  split at hp
  · obtain ⟨z, h1, h2⟩ := hp
    exact ⟨z, h1, h2.up hb⟩
  · obtain ⟨z, h1, h2⟩ := hp
    exact ⟨z, h1, h2.up hb⟩
  · obtain ⟨t, h1, h2, h3⟩ := hp
    exact ⟨t, h1, h2.below hb, h3.up hb⟩
  · obtain ⟨t, h1, h2, h3⟩ := hp
    exact ⟨t, h1, h2.up hb, h3⟩
  · simp_all
def psW (_ _ : Nat) (_ _ : Value) : Prop := True

attribute [local go_sem] putAll upd

/-- append of one write to writes that came in, cut at their length. -/
theorem wp_append_wr {w : World} {o : Oper} {a : Act} {K : Act → World → Prop} {Q : Exit → Act → World → Prop} (s x : Operand)
    (ho : o.op = .call { callee := .builtin .append, args := #[s, x], argTypes := #[23, 23] })
    (B : Option Addr) (l : List (Int × List UInt8)) (n c : Nat) (hn : l.length = n) (hs : a.eval s = .slice B n n) (hW : WW w B l c)
    (q : Nat) (at_ : Int) (D : Option Addr) (u : List UInt8) (m d : Nat) (hm : u.length = m) (hx : a.eval x = .slice (some ⟨q, 0, none⟩) 1 1) (hq : Box w q #[.int .i64 at_, .slice D m d] 54) (hD : Sl w D u d) (hb : n ≤ 100000)
    (h : ∀ g c' w', WW w' (some ⟨g, 0, none⟩) (l ++ [(at_, u)]) c' → w.heap.size ≤ g → Below w.heap.size w w' → K (a.put o.dst (.slice (some ⟨g, 0, none⟩) (n + 1) c')) w') : o.wp Try.prog a w K Q := by
  obtain ⟨i0, hi0, hz0, hz1, hz2⟩ := info_parts wr_info
  have hnews : ∀ j v, [Value.int .i64 at_, .slice D m d][j]? = some v → w.cell? ((⟨q, 0, none⟩ : Addr).add j) = some v := World.news_of_block hq
  cases B with
  | none =>
    obtain ⟨rfl, rfl⟩ := hW.2.2.2 rfl
    obtain rfl : n = 0 := by simpa using hn.symm
    obtain ⟨v', w', hrun, r1, r2, _⟩ := run_append_own (P := Try.prog) w w.heap.size 23 o.type 54 i0 (.agg #[.int .i64 0, .slice none 0 0]) 2 32 Try.underlying23 hi0 hz0 hz1 hz2 rfl (by decide) (.slice none 0 0) 0 [] (World.ownsRow_nil w _ _ _) ⟨q, 0, none⟩ 1 1 [.int .i64 at_, .slice D m d] rfl hnews (by intro v hv; simp at hv; rcases hv with rfl | rfl <;> rfl) (le_maxLen (by omega)) (by omega) (Nat.le_refl _)
    unfold Oper.wp
    simp [execOp, ho, resolve, invoke, builtin, hs, hx, hrun, Result.andThen]
    obtain ⟨g, cg, rfl, hg, _⟩ := r1.form (by omega)
    exact h g cg w' (WW.of_own (l := []) (vs := []) rfl (grown_below r2) r1 rfl hm (fun i a hi => by cases hi) hD) hg (grown_below r2)
  | some b =>
    obtain ⟨olds, v1, v2, v3, v4⟩ : ∃ vs : List Value, vs.length = l.length * 2 ∧ (∀ u ∈ vs, u.oneCell' = true) ∧ (∀ (i : Nat) (a : Int × List UInt8), l[i]? = some a → ∃ D d, vs[i * 2]? = some (.int .i64 a.1) ∧ vs[i * 2 + 1]? = some (.slice D a.2.length d) ∧ Sl w D a.2 d) ∧ ∀ j u, vs[j]? = some u → w.cell? (b.add j) = some u := by
      by_cases hp : 0 < l.length
      · obtain ⟨b', off, e, _⟩ := hW.1 hp
        cases e
        exact hW.cells
      · have : l = [] := List.eq_nil_of_length_eq_zero (by omega)
        subst this
        exact ⟨[], rfl, (fun u hu => by cases hu), (fun i a hi => by cases hi), (fun j u hu => by cases hu)⟩
    obtain ⟨v', w', hrun, r1, r2⟩ := run_append_arg_grows (P := Try.prog) w 23 o.type 54 i0 (.agg #[.int .i64 0, .slice none 0 0]) 2 32 Try.underlying23 hi0 hz0 hz1 hz2 rfl (by decide) b n n olds (by rw [v1, hn]) v4 ⟨q, 0, none⟩ 1 1 [.int .i64 at_, .slice D m d] rfl hnews (by omega) (le_maxLen (by omega)) (by omega)
    unfold Oper.wp
    simp [execOp, ho, resolve, invoke, builtin, hs, hx, hrun, Result.andThen]
    obtain ⟨g, cg, rfl, hg, _⟩ := r1.form (by omega)
    exact h g cg w' (WW.of_own (by rw [hn]) (grown_below r2) r1 v1 hm v3 hD) hg (grown_below r2)

set_option maxHeartbeats 400000 in
set_option maxRecDepth 100000 in
theorem write_ok (d : Dk) (A B D : Option Addr) (c k0 kd : Nat) (i : Int) (b : List UInt8) (w : World) (hS : DkIn w d A c B k0) (hD : Sl w D b kd) (hr : rng d = true) (hh : has d i = true) (hb : b.length ≤ 128) (hp : d.pend.length < 4096) :
    Calls Try.prog 19 #[dkv d A c B k0, .int .i64 i, .slice D b.length kd] w (DkPost { d with pend := d.pend ++ [(i, sec b)] } 0 w) := by
  have h2 := two_new w d A c B k0
  have HR := Lib.hid (isRunning_any d A B c k0 _ (hS.up h2.below))
  have HH := Lib.hid (fun W => hasSector_any d A B c k0 i W)
  have H2 := Lib.hid h2
  have HF := Lib.hid (fun W (hb : Below w.heap.size w W) => And.intro (hS.up hb) (hD.up hb))
  rw [hr] at HR
  rw [hh] at HH
  unfold DkPost
  unfold dkv dkc at *
  have HPM := Lib.hid (show ∀ x ∈ d.pend ++ [(i, sec b)], x.2.length = 128 from fun x hx => by
    rcases List.mem_append.1 hx with h | h
    · exact ((vld_facts.1 (rng_facts hr).1).2.2.2.2 x h).2
    · rw [List.mem_singleton.1 h]; exact sec_length b)
  clear h2 hS hr hh hD
  obtain ⟨N, hN⟩ : ∃ N, d.secs.length = N := ⟨_, rfl⟩
  obtain ⟨m, hm⟩ : ∃ m, d.pend.length = m := ⟨_, rfl⟩
  obtain ⟨mb, hmb⟩ : ∃ mb, b.length = mb := ⟨_, rfl⟩
  rw [hN, hm] at HR HH H2
  rw [hm] at hp
  rw [hmb] at hb
  rw [hN, hm, hmb]
  have HN := Lib.hid (And.intro hN (And.intro hm hmb))
  clear hN hm hmb
  have hm1 : ((m : Int) == 4096) = false := by simp; omega
  have hmb1 : decide ((128 : Int) < (mb : Int)) = false := decide_eq_false (by omega)
  have hmb2 : ¬ (128 : Int) < (mb : Int) := by omega
  have hmk : (m : Int) ≤ (k0 : Int) := by have := HF.out w (Below.refl _ _); have := this.1.2.2.1; rw [HN.out.2.1] at this; omega
  have hm0 : (0 : Int) ≤ (m : Int) := by omega
  go_enter Try.func19, Try.ntmps19
  go_wp2_with fail
  generalize World.alloc _ _ = W at *
  refine HR.out.mono ?_
  rintro e w1 ⟨rfl, hb1⟩
  obtain ⟨⟨⟨b0, b1, b2, b3⟩, e0, e1, e2, e3⟩, ⟨⟨r0, r1, r2, r3⟩, g0, g1, g2, g3⟩⟩ := H2.out.facts hb1
  rw [HN.out.1] at b0
  rw [HN.out.2.1] at b1
  have HB1 := Lib.hid hb1
  clear hb1 r0 r1 r2 r3 g0 g1 g2 g3
  go_wp2_with fail
  refine (HH.out _).mono ?_
  rintro e w2 ⟨rfl, hb2⟩
  obtain ⟨hc2, hf2⟩ := bcell hb2
  have HB2 := Lib.hid (HB1.out.trans (hb2.mono HB1.out.size))
  clear b0 b1 b2 b3 e0 e1 e2 e3 hb2 hc2 hf2
  obtain ⟨⟨⟨b0, b1, b2, b3⟩, e0, e1, e2, e3⟩, ⟨⟨r0, r1, r2, r3⟩, g0, g1, g2, g3⟩⟩ := H2.out.facts HB2.out
  rw [HN.out.1] at b0
  rw [HN.out.2.1] at b1
  go_wp2_with fail
  have HKV := Lib.hid (fun V (hb : Below w2.heap.size w2 V) => show V.cell? ⟨w.heap.size, 1, none⟩ = some (.slice B m k0) from (hb.cell (p := ⟨w.heap.size, 1, none⟩) (World.block_lt_of_cell? _ _ b1)).trans b1)
  have hbw := H2.out.below.trans (HB2.out.mono H2.out.below.size)
  have HPD := Lib.hid (fun V (hb : Below w2.heap.size w2 V) => (HF.out V (hbw.trans (hb.mono hbw.size))).1.2)
  have HSEC := Lib.hid (fun V (hb : Below w2.heap.size w2 V) => sector_any D kd b V (HF.out V (hbw.trans (hb.mono hbw.size))).2)
  rw [HN.out.2.2] at HSEC
  have HSB := Lib.hid (sec_length b)
  have HFA := Lib.hid (fun V (hb : Below w2.heap.size w2 V) => And.intro (H2.out.facts (HB2.out.trans (hb.mono HB2.out.size))) (And.intro (H2.out.fin (HB2.out.trans (hb.mono HB2.out.size))) (And.intro ((H2.out.box.up HB2.out).up hb) (HF.out V (hbw.trans (hb.mono hbw.size))).1.1)))
  unfold SecPost at HSEC
  obtain ⟨SB, hSB⟩ : ∃ SB, sec b = SB := ⟨_, rfl⟩
  have HSQ := Lib.hid hSB
  rw [hSB] at HSEC HSB
  clear hSB b0 b1 b2 b3 e0 e1 e2 e3 r0 r1 r2 r3 g0 g1 g2 g3 HR HH hbw
  refine region_put 11 [32, 33, 34, 35, 36, 37, 38, 39, 40, 41, 42] (fun V => Below w2.heap.size w2 V) (phW w2.heap.size m i SB d.pend (valW w.heap.size m k0 mb kd i B D)) psW (by kernel_rfl) ?_ (fun _ => undef) ?_ ?_ (phW_lasts _ _ _ _ _ _) ?_ ?_
  · kernel_rfl
  · kernel_rfl
  · exact (Below.refl w2.heap.size w2).drew
  · simp only [List.take_succ_cons, List.take_zero, Steps, Nat.reduceAdd, Nat.zero_add]
    refine ⟨?_, ?_, ?_, ?_, ?_, ?_, ?_, ?_, ?_, ?_, ?_, trivial⟩
    · constructor
      intro vs V hC hd
      go_simp
      refine Left.intro (.pointer (some ⟨w.heap.size, 1, none⟩)) ?_ (Below.refl _ _) hC rfl (fun _ _ _ _ => ⟨trivial, trivial⟩)
      kernel_rfl
    · refine step_one 0 (.pointer (some ⟨w.heap.size, 1, none⟩)) ?_ (fun v w h => h) ?_
      · kernel_rfl
      intro vs V hC
      have v1 := HKV.out V hC
      go_simp
      refine Left.intro (.slice B m k0) ?_ (Below.refl _ _) hC rfl (fun _ _ _ _ => ⟨trivial, trivial⟩)
      kernel_rfl
    · constructor
      intro vs V hC hd
      go_simp
      refine Left.intro (.int .i64 (m : Int)) ?_ (Below.refl _ _) hC rfl (fun _ _ _ _ => ⟨trivial, trivial⟩)
      kernel_rfl
    · constructor
      intro vs V hC hd
      go_simp
      refine Left.intro (.int .i64 (m : Int)) ?_ (Below.refl _ _) hC rfl (fun _ _ _ _ => ⟨trivial, trivial⟩)
      kernel_rfl
    · refine step_three 1 2 3 (.slice B m k0) (.int .i64 (m : Int)) (.int .i64 (m : Int)) ?_ ?_ ?_ (fun v w h => h) (fun v w h => h) (fun v w h => h) ?_
      · kernel_rfl
      · kernel_rfl
      · kernel_rfl
      intro vs V hC
      go_simp
      refine Left.intro (.slice B m m) ?_ (Below.refl _ _) hC rfl (fun _ _ _ _ => ⟨trivial, trivial⟩)
      kernel_rfl
    · constructor
      intro vs V hC hd
      go_simp
      refine Left.intro (.int .i64 i) ?_ (Below.refl _ _) hC rfl (fun _ _ _ _ => ⟨trivial, trivial⟩)
      kernel_rfl
    · constructor
      intro vs V hC hd
      go_simp
      refine Left.intro (.slice D mb kd) ?_ (Below.refl _ _) hC rfl (fun _ _ _ _ => ⟨trivial, trivial⟩)
      kernel_rfl
    · refine step_one 6 (.slice D mb kd) ?_ (fun v w h => h) ?_
      · kernel_rfl
      intro vs V hC
      go_simp
      refine (HSEC.out V hC).mono ?_
      rintro e w' ⟨rfl, hx5, hb5⟩
      refine Left.intro (.slice (some ⟨V.heap.size, 0, none⟩) 128 128) ?_ hb5 (hC.trans (hb5.mono hC.size)) ⟨V.heap.size, rfl, sl_box hx5 HSB.out (by omega)⟩ (fun _ _ _ _ => ⟨trivial, trivial⟩)
      kernel_rfl
    · refine step_two_ex 5 7 (.int .i64 i) (fun z : Nat => .slice (some ⟨z, 0, none⟩) 128 128) (fun z V => Sl V (some ⟨z, 0, none⟩) SB 128) ?_ ?_ (fun v w h => h) (fun v w h => h) ?_
      · kernel_rfl
      · kernel_rfl
      intro z vs V hC hR
      go_simp
      refine Left.intro (.agg #[.int .i64 i, .slice (some ⟨z, 0, none⟩) 128 128]) ?_ (Below.refl _ _) hC ⟨z, rfl, hR⟩ (fun _ _ _ _ => ⟨trivial, trivial⟩)
      kernel_rfl
    · refine step_ex 8 (fun z : Nat => .agg #[.int .i64 i, .slice (some ⟨z, 0, none⟩) 128 128]) (fun z V => Sl V (some ⟨z, 0, none⟩) SB 128) ?_ (fun v w h => h) ?_
      · kernel_rfl
      intro z vs V hC hR
      go_simp
      refine Left.intro (.slice (some ⟨V.heap.size, 0, none⟩) 1 1) ?_ ((Below.refl _ V).alloc (Nat.le_refl _) _) ((Below.trans hC ((Below.refl _ V).alloc hC.size _))) ⟨(V.heap.size, z), rfl, Box.new V _ _, hR.up ((Below.refl _ V).alloc (Nat.le_refl _) _)⟩ (fun _ _ _ _ => ⟨trivial, trivial⟩)
      kernel_rfl
    · refine step_two_ex 4 9 (.slice B m m) (fun t : Nat × Nat => .slice (some ⟨t.1, 0, none⟩) 1 1) (fun t V => Box V t.1 #[.int .i64 i, .slice (some ⟨t.2, 0, none⟩) 128 128] 54 ∧ Sl V (some ⟨t.2, 0, none⟩) SB 128) ?_ ?_ (fun v w h => h) (fun v w h => h) ?_
      · kernel_rfl
      · kernel_rfl
      intro t vs V hC hR
      refine wp_append_wr (.tmp 36) (.tmp 41) rfl B d.pend m k0 HN.out.2.1 (by kernel_rfl) (HPD.out V hC) t.1 i (some ⟨t.2, 0, none⟩) SB 128 128 HSB.out (by kernel_rfl) hR.1 hR.2 (by omega) ?_
      intro g c' w' hw hg hb'
      refine Left.intro (.slice (some ⟨g, 0, none⟩) (m + 1) c') ?_ hb' (hC.trans (hb'.mono hC.size)) ⟨(g, c'), rfl, hw, Nat.le_trans hC.size hg⟩ (fun _ _ _ _ => ⟨trivial, trivial⟩)
      kernel_rfl
  · intro vs V hC hall _
    obtain ⟨t, h10, hw10, hg10⟩ := hall 10 (by omega)
    obtain ⟨g, cg⟩ := t
    simp only at h10 hw10 hg10
    obtain ⟨⟨⟨⟨b0, b1, b2, b3⟩, e0, e1, e2, e3⟩, ⟨⟨r0, r1, r2, r3⟩, g0, g1, g2, g3⟩⟩, hfin, hdb, hrr⟩ := HFA.out V hC
    rw [HN.out.1] at b0
    rw [HN.out.2.1] at b1
    have HV := Lib.hid (And.intro hw10 (And.intro hfin (And.intro hdb hrr)))
    clear hall HFA HKV HPD HSEC hw10 hfin hdb hrr hC
    simp only [List.drop_succ_cons, List.drop_zero, putAll]
    rw [h10]
    clear h10
    go_wp2_with fail
    rw [← HSQ.out] at HV
    have hzz := H2.out.size
    have hz2 := HB2.out.size
    have h1 := HV.out.1.other HPM.out HV.out.2.2.1 (by simp [dkc]) (fun a off e => by cases e; omega) 1 (.slice (some ⟨g, 0, none⟩) (m + 1) cg)
    have hbR := box_other (b := w.heap.size) (i := 1) (v := .slice (some ⟨g, 0, none⟩) (m + 1) cg) HV.out.2.1.2 (by omega)
    have hw4 := fin4w (.slice A N c) (.slice (some ⟨g, 0, none⟩) (m + 1) cg) (.int .i64 d.left) (.bool d.stop) h1 HPM.out hbR (by omega)
    have hfin := fin4 (.slice A N c) (.slice (some ⟨g, 0, none⟩) (m + 1) cg) (.int .i64 d.left) (.bool d.stop) (HV.out.2.1.1.setCell (p := ⟨w.heap.size, 1, none⟩) (Nat.le_refl _) _) hbR
    exact bodyPost_ret (dk_ret2 Try.results19 rfl hfin.1) rfl ⟨A, c, some ⟨g, 0, none⟩, cg, by rw [List.length_append, HN.out.2.1]; rfl, ⟨(HF.out _ hfin.2).1.1, hw4⟩, hfin.2⟩

set_option maxHeartbeats 400000 in
set_option maxRecDepth 100000 in
theorem write_any (d : Dk) (A B D : Option Addr) (c k0 kd : Nat) (i : Int) (b : List UInt8) (w : World) (hS : DkIn w d A c B k0) (hD : Sl w D b kd) :
    Calls Try.prog 19 #[dkv d A c B k0, .int .i64 i, .slice D b.length kd] w (DkPost (wr d i b) (wre d i b) w) := by
  by_cases q0 : wre d i b = 0
  · obtain ⟨h1, h2, h3, h4, h5⟩ := wr_ok q0
    rw [q0, h5]
    exact write_ok d A B D c k0 kd i b w hS hD h1 h2 h3 h4
  · have hd : wr d i b = dk0 := if_neg q0
    rw [hd]
    have h2 := two_new w d A c B k0
    have HR := Lib.hid (isRunning_any d A B c k0 _ (hS.up h2.below))
    have HH := Lib.hid (fun W => hasSector_any d A B c k0 i W)
    have H2 := Lib.hid h2
    have hbm := Nat.le_trans hD.2.1 hD.2.2.1
    unfold maxLen at hbm
    unfold DkPost
    unfold dkv dkc at *
    clear h2 hS hD hd
    cases q1 : rng d
    · have he : wre d i b = 70 := by unfold wre; rw [q1]; rfl
      rw [he]
      rw [q1] at HR
      clear q1 he q0
      generalize b.length = mb at *
      go_enter Try.func19, Try.ntmps19
      go_wp2_with fail
      generalize World.alloc _ _ = W at *
      refine HR.out.mono ?_
      rintro e w1 ⟨rfl, hb1⟩
      obtain ⟨_, ⟨⟨r0, r1, r2, r3⟩, g0, g1, g2, g3⟩⟩ := H2.out.facts hb1
      have HB1 := Lib.hid hb1
      clear hb1
      go_wp2_with fail
      have hfin := fin4 (.slice none 0 0) (.slice none 0 0) (.int .i64 0) (.bool false) (H2.out.fin HB1.out).1 (H2.out.fin HB1.out).2
      exact bodyPost_ret (dk_ret2 Try.results19 rfl hfin.1) rfl ⟨none, 0, none, 0, rfl, DkIn.zero _, hfin.2⟩
    · rw [q1] at HR
      cases q2 : has d i
      · have he : wre d i b = 70 := by unfold wre; rw [q1, q2]; rfl
        rw [he]
        rw [q2] at HH
        clear q1 q2 he q0
        generalize b.length = mb at *
        go_enter Try.func19, Try.ntmps19
        go_wp2_with fail
        generalize World.alloc _ _ = W at *
        refine HR.out.mono ?_
        rintro e w1 ⟨rfl, hb1⟩
        obtain ⟨⟨⟨b0, b1, b2, b3⟩, e0, e1, e2, e3⟩, ⟨⟨r0, r1, r2, r3⟩, g0, g1, g2, g3⟩⟩ := H2.out.facts hb1
        have HB1 := Lib.hid hb1
        clear hb1 r0 r1 r2 r3 g0 g1 g2 g3
        go_wp2_with fail
        refine (HH.out _).mono ?_
        rintro e w2 ⟨rfl, hb2⟩
        have HB2 := Lib.hid (HB1.out.trans (hb2.mono HB1.out.size))
        clear b0 b1 b2 b3 e0 e1 e2 e3 hb2
        obtain ⟨_, ⟨⟨r0, r1, r2, r3⟩, g0, g1, g2, g3⟩⟩ := H2.out.facts HB2.out
        go_wp2_with fail
        have hfin := fin4 (.slice none 0 0) (.slice none 0 0) (.int .i64 0) (.bool false) (H2.out.fin HB2.out).1 (H2.out.fin HB2.out).2
        exact bodyPost_ret (dk_ret2 Try.results19 rfl hfin.1) rfl ⟨none, 0, none, 0, rfl, DkIn.zero _, hfin.2⟩
      · rw [q2] at HH
        by_cases q3 : 128 < b.length
        · have he : wre d i b = 1 := by unfold wre; rw [q1, q2, if_neg (by decide), if_pos q3]
          rw [he]
          have hd3 : decide ((128 : Int) < (b.length : Int)) = true := decide_eq_true (by omega)
          have hd4 : (128 : Int) < (b.length : Int) := by omega
          clear q1 q2 he q0 q3
          generalize b.length = mb at *
          go_enter Try.func19, Try.ntmps19
          go_wp2_with fail
          generalize World.alloc _ _ = W at *
          refine HR.out.mono ?_
          rintro e w1 ⟨rfl, hb1⟩
          obtain ⟨⟨⟨b0, b1, b2, b3⟩, e0, e1, e2, e3⟩, ⟨⟨r0, r1, r2, r3⟩, g0, g1, g2, g3⟩⟩ := H2.out.facts hb1
          have HB1 := Lib.hid hb1
          clear hb1 r0 r1 r2 r3 g0 g1 g2 g3
          go_wp2_with fail
          refine (HH.out _).mono ?_
          rintro e w2 ⟨rfl, hb2⟩
          have HB2 := Lib.hid (HB1.out.trans (hb2.mono HB1.out.size))
          clear b0 b1 b2 b3 e0 e1 e2 e3 hb2
          obtain ⟨_, ⟨⟨r0, r1, r2, r3⟩, g0, g1, g2, g3⟩⟩ := H2.out.facts HB2.out
          go_wp2_with fail
          have hfin := fin4 (.slice none 0 0) (.slice none 0 0) (.int .i64 0) (.bool false) (H2.out.fin HB2.out).1 (H2.out.fin HB2.out).2
          exact bodyPost_ret (dk_ret2 Try.results19 rfl hfin.1) rfl ⟨none, 0, none, 0, rfl, DkIn.zero _, hfin.2⟩
        · have q4 : d.pend.length = 4096 := by
            by_cases h : d.pend.length = 4096
            · exact h
            · exact absurd (by unfold wre; rw [q1, q2, if_neg (by decide), if_neg q3, if_neg h]) q0
          have he : wre d i b = 2 := by unfold wre; rw [q1, q2, if_neg (by decide), if_neg q3, if_pos q4]
          rw [he]
          have hd3 : decide ((128 : Int) < (b.length : Int)) = false := decide_eq_false (by omega)
          have hd4 : ¬ (128 : Int) < (b.length : Int) := by omega
          have HQ4 := Lib.hid q4
          rw [q4] at H2 HR HH ⊢
          clear q1 q2 he q0 q3 q4
          generalize b.length = mb at *
          go_enter Try.func19, Try.ntmps19
          go_wp2_with fail
          generalize World.alloc _ _ = W at *
          refine HR.out.mono ?_
          rintro e w1 ⟨rfl, hb1⟩
          obtain ⟨⟨⟨b0, b1, b2, b3⟩, e0, e1, e2, e3⟩, ⟨⟨r0, r1, r2, r3⟩, g0, g1, g2, g3⟩⟩ := H2.out.facts hb1
          rw [HQ4.out] at b1
          have HB1 := Lib.hid hb1
          clear hb1 r0 r1 r2 r3 g0 g1 g2 g3
          go_wp2_with fail
          refine (HH.out _).mono ?_
          rintro e w2 ⟨rfl, hb2⟩
          have HB2 := Lib.hid (HB1.out.trans (hb2.mono HB1.out.size))
          clear b0 b1 b2 b3 e0 e1 e2 e3 hb2
          obtain ⟨_, ⟨⟨r0, r1, r2, r3⟩, g0, g1, g2, g3⟩⟩ := H2.out.facts HB2.out
          go_wp2_with fail
          have hfin := fin4 (.slice none 0 0) (.slice none 0 0) (.int .i64 0) (.bool false) (H2.out.fin HB2.out).1 (H2.out.fin HB2.out).2
          exact bodyPost_ret (dk_ret2 Try.results19 rfl hfin.1) rfl ⟨none, 0, none, 0, rfl, DkIn.zero _, hfin.2⟩
end Go.Proofs.Ytiphajgmjmjanaa
