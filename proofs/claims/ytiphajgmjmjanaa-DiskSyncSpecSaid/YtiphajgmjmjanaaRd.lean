/- Read. -/
import Derived.Test.YtiphajgmjmjanaaBk
import Derived.Test.YtiphajgmjmjanaaSd
namespace Go.Proofs.Ytiphajgmjmjanaa
open Go.RowKit Go.Shelf
set_option linter.unusedVariables false

attribute [local go_sem] Oper.semAt_some

theorem box_own {β : Type} (B : Nat) (t : TypeId) (f : β → Array Value) : Own (fun s W => Box W B (f s) t) := fun s X Y row hs hg hrow =>
  hs.grown hg (fun e' => by obtain ⟨o, ho, hc⟩ := hrow B e'.symm; rw [show X.heap[B]? = _ from hs] at ho; cases ho; cases hc)

/-- Read's four boxes. -/
structure Four (w W : World) (d : Dk) (A : Option Addr) (c : Nat) (B : Option Addr) (k : Nat) (i : Int) : Prop where
  below : Below w.heap.size w W
  box : DBox W w.heap.size d A c B k
  at_ : Box W (w.heap.size + 1) #[.int .i64 i] 3
  r0 : Box W (w.heap.size + 1 + 1) #[.slice none 0 0] 35
  r1 : Box W (w.heap.size + 1 + 1 + 1) #[.int .i64 0] 28
  size : W.heap.size = w.heap.size + 1 + 1 + 1 + 1
theorem four_new (w : World) (d : Dk) (A : Option Addr) (c : Nat) (B : Option Addr) (k : Nat) (i : Int) : Four w ((((w.alloc (.cells (dkc d A c B k) 25)).alloc (.cells #[.int .i64 i] 3)).alloc (.cells #[.slice none 0 0] 35)).alloc (.cells #[.int .i64 0] 28)) d A c B k i := by
  have h0 := Box.new w (dkc d A c B k) 25
  have h1 := Box.new (w.alloc (.cells (dkc d A c B k) 25)) #[.int .i64 i] 3
  have h2 := Box.new ((w.alloc (.cells (dkc d A c B k) 25)).alloc (.cells #[.int .i64 i] 3)) #[.slice none 0 0] 35
  have h3 := Box.new (((w.alloc (.cells (dkc d A c B k) 25)).alloc (.cells #[.int .i64 i] 3)).alloc (.cells #[.slice none 0 0] 35)) #[.int .i64 0] 28
  simp only [World.size_alloc] at h1 h2 h3
  exact ⟨((((Below.refl _ w).alloc (Nat.le_refl _) _).alloc (by simp) _).alloc (by simp; omega) _).alloc (by simp; omega) _, ((h0.alloc _).alloc _).alloc _, (h1.alloc _).alloc _, h2.alloc _, h3, by simp⟩
theorem Four.up {w W W' : World} {d : Dk} {A B : Option Addr} {c k : Nat} {i : Int} (h : Four w W d A c B k i) (hb : Below W.heap.size W W') :
    DBox W' w.heap.size d A c B k ∧ Box W' (w.heap.size + 1) #[.int .i64 i] 3 ∧ Box W' (w.heap.size + 1 + 1) #[.slice none 0 0] 35 ∧ Box W' (w.heap.size + 1 + 1 + 1) #[.int .i64 0] 28 ∧ Below w.heap.size w W' :=
  ⟨h.box.up hb, h.at_.below hb, h.r0.below hb, h.r1.below hb, h.below.trans (hb.mono h.below.size)⟩

set_option maxHeartbeats 1000000 in
set_option maxRecDepth 100000 in
theorem read_no (d : Dk) (A B : Option Addr) (c k0 : Nat) (i : Int) (w : World) (hS : DkIn w d A c B k0) (hq : (rng d && has d i) = false) :
    CallsIn Fence.wide 5 Try.prog 21 #[dkv d A c B k0, .int .i64 i] w (RdPost [] 70 w) := by
  have h4 := four_new w d A c B k0 i
  have HR := Lib.hid ((callsIn_wide (n := 4)).2 (isRunning_any d A B c k0 _ (hS.up h4.below)))
  have HH := Lib.hid (fun W => (callsIn_wide (n := 4)).2 (hasSector_any d A B c k0 i W))
  have H4 := Lib.hid h4
  unfold RdPost
  unfold dkv dkc at *
  clear h4 hS
  cases q1 : rng d
  · rw [q1] at HR
    clear hq q1
    refine callsIn_of_wp_marks Try.func21 rfl trivial ?_ rfl
    simp only [Try.ntmps21, List.size_toArray, List.length_cons, List.length_nil, Nat.reduceAdd, Nat.reduceSub, Array.replicate_succ, Array.replicate_zero, List.push_toArray, List.append_toArray, List.nil_append, List.cons_append]
    gi_wp2
    generalize World.alloc _ _ = W at *
    refine ⟨trivial, HR.out.mono ?_⟩
    rintro e w1 ⟨rfl, hb1⟩
    obtain ⟨u0, u1, u2, u3, u4⟩ := H4.out.up hb1
    have r0 : w1.cell? ⟨w.heap.size + 1 + 1, 0, none⟩ = some (.slice none 0 0) := u2.cell 0
    have r1 : w1.cell? ⟨w.heap.size + 1 + 1 + 1, 0, none⟩ = some (.int .i64 0) := u3.cell 0
    have g0 := u2.frozen 0
    have g1 := u3.frozen 0
    have HU := Lib.hid u4
    clear u0 u1 u2 u3 u4 hb1
    gi_wp2
    refine ⟨trivial, ?_⟩
    gi_wp2
    exact ⟨.tuple #[.slice none 0 0, .int .i64 70], by simp [results, Try.f21, go_sem, r0, r1], none, 0, rfl, sl_none _, (HU.out.setCell (p := ⟨w.heap.size + 1 + 1, 0, none⟩) (by show w.heap.size ≤ w.heap.size + 1 + 1; omega) _).setCell (p := ⟨w.heap.size + 1 + 1 + 1, 0, none⟩) (by show w.heap.size ≤ w.heap.size + 1 + 1 + 1; omega) _⟩
  · rw [q1, Bool.true_and] at hq
    rw [q1] at HR
    rw [hq] at HH
    clear hq q1
    refine callsIn_of_wp_marks Try.func21 rfl trivial ?_ rfl
    simp only [Try.ntmps21, List.size_toArray, List.length_cons, List.length_nil, Nat.reduceAdd, Nat.reduceSub, Array.replicate_succ, Array.replicate_zero, List.push_toArray, List.append_toArray, List.nil_append, List.cons_append]
    gi_wp2
    generalize World.alloc _ _ = W at *
    refine ⟨trivial, HR.out.mono ?_⟩
    rintro e w1 ⟨rfl, hb1⟩
    obtain ⟨u0, u1, u2, u3, u4⟩ := H4.out.up hb1
    obtain ⟨b0, b1, b2, b3⟩ := u0.cells
    have a0 : w1.cell? ⟨w.heap.size + 1, 0, none⟩ = some (.int .i64 i) := u1.cell 0
    have HB1 := Lib.hid hb1
    clear u0 u1 u2 u3 u4 hb1
    gi_wp2
    refine ⟨trivial, (HH.out _).mono ?_⟩
    rintro e w2 ⟨rfl, hb2⟩
    obtain ⟨u0, u1, u2, u3, u4⟩ := H4.out.up (HB1.out.trans (hb2.mono HB1.out.size))
    have r0 : w2.cell? ⟨w.heap.size + 1 + 1, 0, none⟩ = some (.slice none 0 0) := u2.cell 0
    have r1 : w2.cell? ⟨w.heap.size + 1 + 1 + 1, 0, none⟩ = some (.int .i64 0) := u3.cell 0
    have g0 := u2.frozen 0
    have g1 := u3.frozen 0
    have HU := Lib.hid u4
    clear u0 u1 u2 u3 u4 hb2 b0 b1 b2 b3 a0
    gi_wp2
    exact ⟨.tuple #[.slice none 0 0, .int .i64 70], by simp [results, Try.f21, go_sem, r0, r1], none, 0, rfl, sl_none _, (HU.out.setCell (p := ⟨w.heap.size + 1 + 1, 0, none⟩) (by show w.heap.size ≤ w.heap.size + 1 + 1; omega) _).setCell (p := ⟨w.heap.size + 1 + 1 + 1, 0, none⟩) (by show w.heap.size ≤ w.heap.size + 1 + 1 + 1; omega) _⟩

/-- Behind the range: the results, when the rounds' deferred calls have been taken. -/
theorem read_end {w W : World} {D z : Nat} {data : List UInt8} (hK : W.heap[D]? = some (.deferred (some []))) (hz : Box W z (rowOf data) 5) (h2 : Box W (w.heap.size + 1 + 1) #[.slice (some ⟨z, 0, none⟩) 128 128] 35) (h3 : Box W (w.heap.size + 1 + 1 + 1) #[.int .i64 0] 28) (hB : Below w.heap.size w W) (hD : w.heap.size ≤ D) (hl : data.length = 128) :
    (W.putObj D (.deferred none)).cell? ⟨w.heap.size + 1 + 1, 0, none⟩ = some (.slice (some ⟨z, 0, none⟩) 128 128) ∧ (W.putObj D (.deferred none)).cell? ⟨w.heap.size + 1 + 1 + 1, 0, none⟩ = some (.int .i64 0) ∧ Sl (W.putObj D (.deferred none)) (some ⟨z, 0, none⟩) data 128 ∧ Below w.heap.size w (W.putObj D (.deferred none)) := by
  have hg := grownBy_putObj' W D (.deferred none)
  have hr : ∀ r, some D = some r → ∃ o : Obj, W.heap[r]? = some o ∧ o.isCells = false := fun r e => by cases e; exact ⟨_, hK, rfl⟩
  have b2 := box_own _ _ (fun (_ : Unit) => #[Value.slice (some ⟨z, 0, none⟩) 128 128]) () W _ _ h2 hg hr
  have b3 := box_own _ _ (fun (_ : Unit) => #[Value.int .i64 0]) () W _ _ h3 hg hr
  have bz := box_own _ _ (fun (_ : Unit) => rowOf data) () W _ _ hz hg hr
  exact ⟨Box.cell b2 0, Box.cell b3 0, sl_box bz hl (by omega), hB.trans (belowK_b (w := w) (Nat.le_refl _) W D _ _ hD hK rfl rfl)⟩

theorem lastw_none {i : Int} : ∀ {l : List (Int × List UInt8)}, (∀ a ∈ l, a.1 ≠ i) → lastw i l = none
  | [], _ => rfl
  | a :: l, h => by
    have h1 := lastw_none (l := l) (fun x hx => h x (by simp [hx]))
    have h2 := h a (by simp)
    unfold lastw
    rw [h1]
    simp [h2]
theorem lastw_last {i : Int} : ∀ {l : List (Int × List UInt8)} {q : Nat} {a : Int × List UInt8}, l[q]? = some a → a.1 = i → (∀ q' b, q < q' → l[q']? = some b → b.1 ≠ i) → lastw i l = some a.2
  | [], q, a, h, _, _ => by simp at h
  | x :: l, 0, a, h, h1, h2 => by
    simp at h
    subst h
    have := lastw_none (i := i) (l := l) (fun b hb => by
      obtain ⟨n, hn, e⟩ := List.mem_iff_getElem.1 hb
      exact h2 (n + 1) b (by omega) (by rw [List.getElem?_cons_succ, List.getElem?_eq_getElem hn, e]))
    unfold lastw
    rw [this]
    simp [h1]
  | x :: l, q + 1, a, h, h1, h2 => by
    have := lastw_last (l := l) (q := q) (by simpa using h) h1 (fun q' b hq hb => h2 (q' + 1) b (by omega) (by simpa using hb))
    unfold lastw
    rw [this]
/-- The pending writes, cell by cell. -/
theorem WW.cellf {w : World} {B : Option Addr} {l : List (Int × List UInt8)} {k0 : Nat} (h : WW w B l k0) (h128 : ∀ a ∈ l, a.2.length = 128) : ∃ (f : Nat → Int × Option Addr × Nat) (b off : Nat), (0 < l.length → B = some ⟨b, off, none⟩ ∧ b < w.heap.size) ∧
    ∀ i a, l[i]? = some a → (f i).1 = a.1 ∧ Sl w (f i).2.1 a.2 (f i).2.2 ∧ w.cell? ⟨b, off + i * 2, none⟩ = some (.int .i64 (f i).1) ∧ w.cell? ⟨b, off + i * 2 + 1, none⟩ = some (.slice (f i).2.1 128 (f i).2.2) := by
  by_cases hp : 0 < l.length
  · obtain ⟨b, off, e, hb, hat⟩ := h.1 hp
    have hex : ∀ i, ∃ f : Int × Option Addr × Nat, ∀ a, l[i]? = some a → f.1 = a.1 ∧ Sl w f.2.1 a.2 f.2.2 ∧ w.cell? ⟨b, off + i * 2, none⟩ = some (.int .i64 f.1) ∧ w.cell? ⟨b, off + i * 2 + 1, none⟩ = some (.slice f.2.1 128 f.2.2) := by
      intro i
      cases hi : l[i]? with
      | none => exact ⟨(0, none, 0), fun a ha => by cases ha⟩
      | some a =>
        obtain ⟨D, dd, h1, h2, h3⟩ := hat i a hi
        rw [h128 a (List.mem_of_getElem? hi)] at h2
        exact ⟨(a.1, D, dd), fun a' e => by cases e; exact ⟨rfl, h3, h1, h2⟩⟩
    exact ⟨fun i => Classical.choose (hex i), b, off, fun _ => ⟨e, hb⟩, fun i a ha => Classical.choose_spec (hex i) a ha⟩
  · exact ⟨fun _ => (0, none, 0), 0, 0, fun h => absurd h hp, fun i a ha => by have := (List.getElem?_eq_some_iff.1 ha).1; omega⟩

set_option maxHeartbeats 2000000 in
set_option maxRecDepth 100000 in
theorem read_ok (d : Dk) (A B : Option Addr) (c k0 : Nat) (i : Int) (w : World) (hS : DkIn w d A c B k0) (hr : rng d = true) (hh : has d i = true) :
    CallsIn Fence.wide 5 Try.prog 21 #[dkv d A c B k0, .int .i64 i] w (RdPost (rd d i) 0 w) := by
  have hv := (rng_facts hr).1
  obtain ⟨⟨f1, f2⟩, f3, f4, f5, f6⟩ := vld_facts.1 hv
  have h4 := four_new w d A c B k0 i
  have HR := Lib.hid ((callsIn_wide (n := 4)).2 (isRunning_any d A B c k0 _ (hS.up h4.below)))
  have HH := Lib.hid (fun W => (callsIn_wide (n := 4)).2 (hasSector_any d A B c k0 i W))
  have H4 := Lib.hid h4
  obtain ⟨f, b, off, hfb, hfc⟩ := hS.2.cellf (fun a ha => (f6 a ha).2)
  rw [hr] at HR
  rw [hh] at HH
  unfold RdPost
  unfold dkv dkc at *
  clear h4
  refine callsIn_of_wp_marks Try.func21 rfl trivial ?_ rfl
  simp only [Try.ntmps21, List.size_toArray, List.length_cons, List.length_nil, Nat.reduceAdd, Nat.reduceSub, Array.replicate_succ, Array.replicate_zero, List.push_toArray, List.append_toArray, List.nil_append, List.cons_append]
  gi_wp2
  generalize World.alloc _ _ = W at *
  refine ⟨trivial, HR.out.mono ?_⟩
  rintro e w1 ⟨rfl, hb1⟩
  obtain ⟨u0, u1, u2, u3, u4⟩ := H4.out.up hb1
  obtain ⟨b0, b1, b2, b3⟩ := u0.cells
  have a0 : w1.cell? ⟨w.heap.size + 1, 0, none⟩ = some (.int .i64 i) := u1.cell 0
  have HB1 := Lib.hid hb1
  clear u0 u1 u2 u3 u4 hb1
  gi_wp2
  refine ⟨trivial, (HH.out _).mono ?_⟩
  rintro e w2 ⟨rfl, hb2⟩
  have HB2 := Lib.hid (HB1.out.trans (hb2.mono HB1.out.size))
  clear b0 b1 b2 b3 a0 hb2
  obtain ⟨u0, u1, u2, u3, u4⟩ := H4.out.up HB2.out
  obtain ⟨b0, b1, b2, b3⟩ := u0.cells
  have HU := Lib.hid (And.intro u0 (And.intro u1 (And.intro u2 (And.intro u3 u4))))
  clear u0 u1 u2 u3 u4 HR HH
  gi_wp2
  refine ⟨trivial, (back_in _ B d.pend.length k0 w2).mono ?_⟩
  rintro e w' ⟨rfl, rfl⟩
  gi_wp2
  obtain ⟨m, hm⟩ : ∃ m, d.pend.length = m := ⟨_, rfl⟩
  have hbV : Below w2.heap.size w2 (w2.alloc (.cells #[.slice B m k0] 23)) := (Below.refl _ w2).alloc (Nat.le_refl _) _
  have hBV := Box.new w2 #[.slice B m k0] 23
  have hsz : (w2.alloc (.cells #[.slice B m k0] 23)).heap.size = w2.heap.size + 1 := by simp
  rw [hm] at hfb f3 ⊢
  generalize w2.alloc (.cells #[.slice B m k0] 23) = V at *
  have hlw2 : w.heap.size ≤ w2.heap.size := HU.out.2.2.2.2.size
  have hbwV : Below w.heap.size w V := HU.out.2.2.2.2.trans (hbV.mono hlw2)
  have hget : ∀ q, q < m → ∃ a, d.pend[q]? = some a := fun q hq => ⟨d.pend[q]'(by omega), List.getElem?_eq_getElem (by omega)⟩
  have HQ := Lib.hid (fun q (hq : q < m) W' (hb : Below w.heap.size w W') => show W'.cell? ⟨b, off + q * 2, none⟩ = some (.int .i64 (f q).1) ∧ W'.cell? ⟨b, off + q * 2 + 1, none⟩ = some (.slice (f q).2.1 128 (f q).2.2) ∧ ∃ a, d.pend[q]? = some a ∧ (f q).1 = a.1 ∧ a.2.length = 128 ∧ Sl W' (f q).2.1 a.2 (f q).2.2 from by
    obtain ⟨a, ha⟩ := hget q hq
    obtain ⟨g1, g2, g3, g4⟩ := hfc q a ha
    have hbl := (hfb (by omega)).2
    exact ⟨(hb.cell (p := ⟨b, off + q * 2, none⟩) hbl).trans g3, (hb.cell (p := ⟨b, off + q * 2 + 1, none⟩) hbl).trans g4, a, ha, g1, (f6 a (List.mem_of_getElem? ha)).2, g2.up hb⟩)
  have HST := Lib.hid (back_stops 4 (by decide) w2.heap.size w.heap.size m k0 b off f (by omega) V (fun h => (hfb h).2) hbwV.size (fun q hq => ⟨(HQ.out q hq V hbwV).1, (HQ.out q hq V hbwV).2.1⟩) B (fun h => (hfb h).1) (hBV.cell 0) (by omega))
  have HS := Lib.hid (And.intro hS.1 (And.intro f5 (And.intro hr (And.intro hh hm))))
  have HV := Lib.hid (And.intro hbV (And.intro hbwV hsz))
  have hU0 := And.intro (HU.out.1.up hbV) (And.intro (HU.out.2.1.below hbV) (And.intro (HU.out.2.2.1.below hbV) (HU.out.2.2.2.1.below hbV)))
  have HU0 := Lib.hid hU0
  have hwV : w.heap.size ≤ V.heap.size := hbwV.size
  clear hfc hfb hget hBV hbV hbwV hsz hU0 hS f5 f6 hr hh hv f4 b0 b1 b2 b3
  refine wpIn_rangeFunc_ownH rfl (by decide) (gf := 40) (lb := #[.pointer (some ⟨w2.heap.size, 0, none⟩)]) rfl trivial (enters_of Try.func40 (by kernel_rfl) rfl)
    HST.out ?hKt ?hKb (Below.refl _ _) (fun _ => rfl)
    (fun pre W => (DBox W w.heap.size d A c B k0 ∧ Box W (w.heap.size + 1) #[.int .i64 i] 3 ∧ Box W (w.heap.size + 1 + 1) #[.slice none 0 0] 35 ∧ Box W (w.heap.size + 1 + 1 + 1) #[.int .i64 0] 28) ∧ (Below w.heap.size w W ∧ V.heap.size ≤ W.heap.size) ∧ ∀ j ∈ pre, (f (m - 1 - j.1)).1 ≠ i)
    (fun co ps W => co = Code.ret ∧ ∃ pre x z a, ps = pre ++ [x] ∧ (∀ j ∈ pre, (f (m - 1 - j.1)).1 ≠ i) ∧ (f (m - 1 - x.1)).1 = i ∧ d.pend[m - 1 - x.1]? = some a ∧ Box W z (rowOf a.2) 5 ∧ Box W (w.heap.size + 1 + 1) #[.slice (some ⟨z, 0, none⟩) 128 128] 35 ∧ Box W (w.heap.size + 1 + 1 + 1) #[.int .i64 0] 28 ∧ Below w.heap.size w W)
    ?hI ?hIx ⟨HU0.out, ⟨HV.out.2.1, Nat.le_refl _⟩, fun j hj => by cases hj⟩
    (fun x a' W => ∃ Bx, Box W Bx #[.int .i64 (f (m - 1 - x.1)).1, .slice (f (m - 1 - x.1)).2.1 128 (f (m - 1 - x.1)).2.2] 54 ∧ a' = { tmps := #[.agg #[.slice A d.secs.length c, .slice B m k0, .int .i64 d.left, .bool d.stop], .int .i64 i, .pointer (some ⟨w.heap.size, 0, none⟩), .pointer (some ⟨w.heap.size + 1, 0, none⟩), .pointer (some ⟨w.heap.size + 1 + 1, 0, none⟩), .pointer (some ⟨w.heap.size + 1 + 1 + 1, 0, none⟩), undef, .pointer (some ⟨Bx, 0, none⟩), .agg #[.slice A d.secs.length c, .slice B m k0, .int .i64 d.left, .bool d.stop], .bool true, .bool false, .bool false, .agg #[.slice A d.secs.length c, .slice B m k0, .int .i64 d.left, .bool d.stop], .int .i64 i, .bool true, .bool false, .bool false, .pointer (some ⟨w.heap.size, 1, none⟩), .slice B m k0, .func (.func 40) #[] #[.pointer (some ⟨w2.heap.size, 0, none⟩)], .int .i64 ((m - 1 - x.1 : Nat) : Int), wv f (m - 1 - x.1), undef, undef, undef, undef, undef, undef, undef, undef, undef, undef, undef, undef, undef], defers := [] })
    (fun x a' _ X Y row hs hg hr => by obtain ⟨Bx, h2, h3⟩ := hs; exact ⟨Bx, box_own Bx 54 (fun (_ : Unit) => #[.int .i64 (f (m - 1 - x.1)).1, .slice (f (m - 1 - x.1)).2.1 128 (f (m - 1 - x.1)).2.2]) () X Y row h2 hg (fun r e => (hr r e).2), h3⟩)
    ?assign ?body ?done ?stop
  case hKt =>
    intro A B C h1 h2
    exact ⟨h1.1.trans h2.1, h2.2.trans h1.2⟩
  case hKb =>
    intro W l o o' hl ho h1 h2
    have hs := HV.out.2.2
    exact ⟨belowK_b (w := V) hwV W l o o' hl ho h1 h2, (belowK_b (w := V) (n₀ := w2.heap.size + 1) (by omega) W l o o' hl ho h1 h2).cell (p := ⟨w2.heap.size, 0, none⟩) (Nat.lt_succ_self _)⟩
  case hI =>
    intro s X Y row hs hg hr
    have hr2 : ∀ r, row = some r → ∃ o : Obj, X.heap[r]? = some o ∧ o.isCells = false := fun r e => (hr r e).2
    exact ⟨⟨box_own _ _ (fun (_ : Unit) => dkc d A c B k0) () X Y row hs.1.1 hg hr2, box_own _ _ (fun (_ : Unit) => #[Value.int .i64 i]) () X Y row hs.1.2.1 hg hr2, box_own _ _ (fun (_ : Unit) => #[Value.slice none 0 0]) () X Y row hs.1.2.2.1 hg hr2, box_own _ _ (fun (_ : Unit) => #[Value.int .i64 0]) () X Y row hs.1.2.2.2 hg hr2⟩,
      ⟨hs.2.1.1.grown hg hs.2.1.1.size (fun k e => Nat.le_trans hwV (hr k e).1), Nat.le_trans hs.2.1.2 hg.size⟩, hs.2.2⟩
  case hIx =>
    intro co s X Y row hs hg hr
    have hr2 : ∀ r, row = some r → ∃ o : Obj, X.heap[r]? = some o ∧ o.isCells = false := fun r e => (hr r e).2
    obtain ⟨h0, pre, x, z, a, h1, h2, h3, h4, h5, h6, h7, h8⟩ := hs
    exact ⟨h0, pre, x, z, a, h1, h2, h3, h4, box_own _ _ (fun (_ : Unit) => rowOf a.2) () X Y row h5 hg hr2, box_own _ _ (fun (_ : Unit) => #[Value.slice (some ⟨z, 0, none⟩) 128 128]) () X Y row h6 hg hr2, box_own _ _ (fun (_ : Unit) => #[Value.int .i64 0]) () X Y row h7 hg hr2, h8.grown hg h8.size (fun k e => Nat.le_trans hwV (hr k e).1)⟩
  case assign =>
    rintro l pre x W K ⟨⟨i1, i2, i3, i4⟩, ⟨i5, i6⟩, i7⟩ hK
    have hs := HV.out.2.2
    dsimp only [we]
    unfold wv
    gi_wp2
    refine hK _ _ ((KeepsOthers.alloc _ _).from _) ⟨(Below.refl _ W).alloc (Nat.le_trans hwV i6) _, ((Below.refl W.heap.size W).alloc (Nat.le_refl _) _).cell (p := ⟨w2.heap.size, 0, none⟩) (by show w2.heap.size < W.heap.size; omega)⟩ ⟨⟨Box.alloc i1 _, i2.alloc _, i3.alloc _, i4.alloc _⟩, ⟨i5.alloc i5.size _, Nat.le_trans i6 (by simp)⟩, i7⟩ ⟨W.heap.size, Box.new W _ _, rfl⟩
  case body =>
    rintro l pre x a' W hl _ ⟨⟨i1, i2, i3, i4⟩, ⟨i5, i6⟩, i7⟩ ⟨Bx, bX, rfl⟩ hlt
    have hc0 : W.cell? ⟨Bx, 0, none⟩ = some (.int .i64 (f (m - 1 - x.1)).1) := bX.cell 0
    have hc1 : W.cell? ⟨Bx, 1, none⟩ = some (.slice (f (m - 1 - x.1)).2.1 128 (f (m - 1 - x.1)).2.2) := bX.cell 1
    have ha0 : W.cell? ⟨w.heap.size + 1, 0, none⟩ = some (.int .i64 i) := i2.cell 0
    have hx1 := x.2
    obtain ⟨_, _, a, q1, q2, q3, q4⟩ := HQ.out (m - 1 - x.1) (by omega) W i5
    have HSEC := Lib.hid ((callsIn_wide (n := 2)).2 (sector_any (f (m - 1 - x.1)).2.1 (f (m - 1 - x.1)).2.2 a.2 W q4))
    rw [sec_whole q3, q3] at HSEC
    unfold SecPost at HSEC
    have HI := Lib.hid (And.intro i1 (And.intro i2 (And.intro i3 (And.intro i4 (And.intro i5 (And.intro i6 i7))))))
    have HA := Lib.hid (And.intro q1 (And.intro q2 q3))
    clear q1 q2 q3 q4 i1 i2 i3 i4 i5 i6 i7 bX
    unfold wv
    by_cases heq : (f (m - 1 - x.1)).1 = i
    · have HEQ := Lib.hid heq
      rw [heq] at hc0 ⊢
      clear heq
      gi_wp2
      refine ⟨trivial, (CallsIn.inRound l HSEC.out).mono ?_⟩
      rintro e w5 ⟨rfl, hx5, hb5⟩
      have u2 := HI.out.2.2.1.below hb5
      have u3 := HI.out.2.2.2.1.below hb5
      have r0 : w5.cell? ⟨w.heap.size + 1 + 1, 0, none⟩ = some (.slice none 0 0) := u2.cell 0
      have r1 : w5.cell? ⟨w.heap.size + 1 + 1 + 1, 0, none⟩ = some (.int .i64 0) := u3.cell 0
      have g0 := u2.frozen 0
      have g1 := u3.frozen 0
      have hsW : w.heap.size + 1 + 1 + 1 < W.heap.size := HI.out.2.2.2.1.lt
      have HX := Lib.hid (And.intro hx5 (And.intro hb5 (And.intro u2 u3)))
      clear hx5 hb5 u2 u3 hc0 hc1 ha0
      gi_wp2
      refine ⟨(((KeepsOthers.of_grownBy (row := none) (below_row HX.out.2.1 none) (fun j o e => by cases e)).trans (KeepsOthers.setCell _ _ _)).trans (KeepsOthers.setCell _ _ _)).from _, rfl, pre, x, W.heap.size, a, rfl, HI.out.2.2.2.2.2.2, HEQ.out, HA.out.1, box_other (box_other HX.out.1 (by omega)) (by omega), box_other HX.out.2.2.1.set (by omega), Box.set (box_other HX.out.2.2.2 (by omega)), ?_⟩
      exact ((HI.out.2.2.2.2.1.trans (HX.out.2.1.mono HI.out.2.2.2.2.1.size)).setCell (p := ⟨w.heap.size + 1 + 1, 0, none⟩) (by show w.heap.size ≤ w.heap.size + 1 + 1; omega) _).setCell (p := ⟨w.heap.size + 1 + 1 + 1, 0, none⟩) (by show w.heap.size ≤ w.heap.size + 1 + 1 + 1; omega) _
    · have HNE := Lib.hid heq
      have hne : ((f (m - 1 - x.1)).1 == i) = false := by simpa using heq
      clear heq
      gi_wp2
      refine ⟨KeepsFrom.refl _ _, ⟨Below.refl _ _, rfl⟩, ⟨HI.out.1, HI.out.2.1, HI.out.2.2.1, HI.out.2.2.2.1⟩, ⟨HI.out.2.2.2.2.1, HI.out.2.2.2.2.2.1⟩, fun j hj => ?_⟩
      rcases List.mem_append.1 hj with h | h
      · exact HI.out.2.2.2.2.2.2 j h
      · rw [List.mem_singleton.1 h]; exact HNE.out
  case done =>
    rintro D ys W hD rfl ⟨⟨i1, i2, i3, i4⟩, ⟨i5, i6⟩, i7⟩ hK
    obtain ⟨hS1, hS2, hS3, hS4, hS5⟩ := HS.out
    obtain ⟨hi0, hi1⟩ := has_facts hS4
    obtain ⟨p, rfl⟩ : ∃ p : Nat, i = (p : Int) := ⟨i.toNat, by omega⟩
    obtain ⟨bA, oA, rfl, hbA, hat⟩ := hS1.1 (by omega)
    have hpl : p < d.secs.length := by omega
    obtain ⟨DA, cA, k1, k2⟩ := (hat p _ (List.getElem?_eq_getElem hpl)).up hbA i5
    have h128 := hS2 _ (List.getElem_mem hpl)
    rw [h128] at k1
    have hrd : rd d (p : Int) = d.secs[p] := by
      rw [rd_eq (rde_zero.2 ⟨hS3, hS4⟩), lastw_none, show ((p : Int)).toNat = p by omega, List.getD_eq_getElem?_getD, List.getElem?_eq_getElem hpl]
      · rfl
      · intro a ha
        obtain ⟨q, hq, e⟩ := List.mem_iff_getElem.1 ha
        rw [hS5] at hq
        obtain ⟨_, _, a', q1, q2, _⟩ := HQ.out q hq W i5
        have : a' = a := by
          rw [List.getElem?_eq_getElem (by omega), e] at q1
          exact (Option.some.inj q1).symm
        subst this
        have hj := i7 (⟨m - 1 - q, by omega⟩ : Fin m) (by
          unfold fin
          rw [List.take_of_length_le (by simp)]
          exact List.mem_finRange _)
        simp only [show m - 1 - (m - 1 - q) = q by omega] at hj
        rw [← q2]
        exact hj
    obtain ⟨b0, b1, b2, b3⟩ := DBox.cells i1
    have a0 : W.cell? ⟨w.heap.size + 1, 0, none⟩ = some (.int .i64 (p : Int)) := i2.cell 0
    have HSEC := Lib.hid ((callsIn_wide (n := 4)).2 (sector_any DA cA d.secs[p] W k2))
    rw [sec_whole h128, h128] at HSEC
    unfold SecPost at HSEC
    have HRD := Lib.hid (And.intro hrd h128)
    have HI := Lib.hid (And.intro i3 (And.intro i4 (And.intro i5 hK)))
    clear hS1 hS2 hS3 hS4 hS5 hat k2 h128 hrd i1 i2 i3 i4 i5 i6 i7 b1 b2 b3 hK HQ HST
    gi_wp2
    refine ⟨trivial, HSEC.out.mono ?_⟩
    rintro e w5 ⟨rfl, hx5, hb5⟩
    have u2 := HI.out.1.below hb5
    have u3 := HI.out.2.1.below hb5
    have r0 : w5.cell? ⟨w.heap.size + 1 + 1, 0, none⟩ = some (.slice none 0 0) := u2.cell 0
    have r1 : w5.cell? ⟨w.heap.size + 1 + 1 + 1, 0, none⟩ = some (.int .i64 0) := u3.cell 0
    have g0 := u2.frozen 0
    have g1 := u3.frozen 0
    have hsW : w.heap.size + 1 + 1 + 1 < W.heap.size := HI.out.2.1.lt
    have HX := Lib.hid (And.intro hx5 (And.intro hb5 (And.intro u2 u3)))
    clear hx5 hb5 u2 u3 b0 a0 k1
    gi_wp2
    have hKO := ((KeepsOthers.of_grownBy (row := none) (below_row HX.out.2.1 none) (fun j o e => by cases e)).trans (KeepsOthers.setCell _ ⟨w.heap.size + 1 + 1, 0, none⟩ (.slice (some ⟨W.heap.size, 0, none⟩) 128 128))).trans (KeepsOthers.setCell _ ⟨w.heap.size + 1 + 1 + 1, 0, none⟩ (.int .i64 0))
    have hK' := hKO.same D _ HI.out.2.2.2 rfl
    have hE := read_end hK' (box_other (box_other HX.out.1 (by omega)) (by omega)) (box_other HX.out.2.2.1.set (by omega)) (Box.set (box_other HX.out.2.2.2 (by omega))) (((HI.out.2.2.1.trans (HX.out.2.1.mono HI.out.2.2.1.size)).setCell (p := ⟨w.heap.size + 1 + 1, 0, none⟩) (by show w.heap.size ≤ w.heap.size + 1 + 1; omega) _).setCell (p := ⟨w.heap.size + 1 + 1 + 1, 0, none⟩) (by show w.heap.size ≤ w.heap.size + 1 + 1 + 1; omega) _) (Nat.le_trans hwV hD) HRD.out.2
    obtain ⟨c2, c3, hsl, hbe⟩ := hE
    refine ⟨by simp, .inl ⟨_, _, rfl, run_takeDeferred hK', ?_⟩⟩
    refine ⟨.tuple #[.slice (some ⟨W.heap.size, 0, none⟩) 128 128, .int .i64 0], ?_, some ⟨W.heap.size, 0, none⟩, 128, by rw [HRD.out.1, HRD.out.2], by rw [HRD.out.1]; exact hsl, hbe⟩
    simp [results, Try.f21, go_sem, c2, c3]
  case stop =>
    rintro D co ps W hD hSp ⟨rfl, pre, x, z, a, h1, h2, h3, h4, h5, h6, h7, h8⟩ hK
    obtain ⟨k, hk, hps⟩ := hSp
    subst h1
    have hx1 := x.2
    have hkp : k = pre.length + 1 := by
      have := congrArg List.length hps
      rw [fin_length m k hk, List.length_append] at this
      exact this.symm
    subst hkp
    have hpre : pre = fin m pre.length ∧ x.1 = pre.length := by
      rw [fin_succ m pre.length (by omega)] at hps
      have := List.append_inj' hps rfl
      exact ⟨this.1, by have := List.singleton_inj.1 this.2; rw [this]⟩
    have ha128 : a.2.length = 128 := by
      obtain ⟨_, _, a', q1, q2, q3, _⟩ := HQ.out (m - 1 - x.1) (by omega) w (Below.refl _ _)
      rw [h4] at q1
      cases q1
      exact q3
    have hax : a.1 = i := by
      obtain ⟨_, _, a', q1, q2, q3, _⟩ := HQ.out (m - 1 - x.1) (by omega) w (Below.refl _ _)
      rw [h4] at q1
      cases q1
      rw [← q2, h3]
    have hrd : rd d i = a.2 := by
      rw [rd_eq (rde_zero.2 ⟨HS.out.2.2.1, HS.out.2.2.2.1⟩), lastw_last h4 hax (fun q' b hq hb => ?_)]
      · rfl
      · have hql : q' < m := by
          have := (List.getElem?_eq_some_iff.1 hb).1
          rw [HS.out.2.2.2.2] at this
          exact this
        obtain ⟨_, _, a', q1, q2, q3, _⟩ := HQ.out q' hql w (Below.refl _ _)
        rw [hb] at q1
        cases q1
        rw [← q2]
        have hj := h2 (⟨m - 1 - q', by omega⟩ : Fin m) (by
          rw [hpre.1]
          unfold fin
          rw [List.mem_iff_getElem]
          have hxx := hpre.2
          exact ⟨m - 1 - q', by simp; omega, by simp⟩)
        simp only [show m - 1 - (m - 1 - q') = q' by omega] at hj
        exact hj
    have HRD := Lib.hid (And.intro hrd ha128)
    have hE := Lib.hid (read_end hK h5 h6 h7 h8 (Nat.le_trans hwV hD) ha128)
    have HK := Lib.hid hK
    clear h2 h3 h4 h5 h6 h7 h8 hK hps hpre hrd hax ha128 HQ HST
    gi_wp2
    obtain ⟨c2, c3, hsl, hbe⟩ := hE.out
    refine ⟨by simp, .inl ⟨_, _, rfl, run_takeDeferred HK.out, ?_⟩⟩
    refine ⟨.tuple #[.slice (some ⟨z, 0, none⟩) 128 128, .int .i64 0], ?_, some ⟨z, 0, none⟩, 128, by rw [HRD.out.1, HRD.out.2], by rw [HRD.out.1]; exact hsl, hbe⟩
    simp [results, Try.f21, go_sem, c2, c3]

theorem read_any (d : Dk) (A B : Option Addr) (c k0 : Nat) (i : Int) (w : World) (hS : DkIn w d A c B k0) :
    Calls Try.prog 21 #[dkv d A c B k0, .int .i64 i] w (RdPost (rd d i) (rde d i) w) := by
  refine (callsIn_wide (n := 5)).1 ?_
  cases h : (rng d && has d i)
  · have he : rde d i = 70 := by unfold rde; rw [h]; rfl
    have hd : rd d i = [] := by unfold rd; rw [he]; rfl
    rw [he, hd]
    exact read_no d A B c k0 i w hS h
  · have he : rde d i = 0 := by unfold rde; rw [h]; rfl
    rw [he]
    rw [Bool.and_eq_true] at h
    exact read_ok d A B c k0 i w hS h.1 h.2
end Go.Proofs.Ytiphajgmjmjanaa
