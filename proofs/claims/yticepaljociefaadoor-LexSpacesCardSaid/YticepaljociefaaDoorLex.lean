/- Lex. -/
import Derived.Test.YticepaljociefaaDoorScan
import Derived.Recover
import Derived.Defers
namespace Go.Proofs.YticepaljociefaaDoor
open Go.RowKit Go.Shelf
set_option linter.unusedVariables false
set_option linter.unusedSimpArgs false

/-- Tokens in memory. -/
def TT (w : World) (A : Option Addr) (l : List Tk) (c : Nat) : Prop := (0 < l.length → ∃ b off, A = some ⟨b, off, none⟩ ∧ b < w.heap.size ∧ ∀ j u, (tkcs l)[j]? = some u → w.cell? ⟨b, off + j, none⟩ = some u) ∧ l.length ≤ c ∧ c ≤ maxLen ∧ (A = none → l = [] ∧ c = 0)
theorem TT.up {w w' : World} {A : Option Addr} {l : List Tk} {c : Nat} (h : TT w A l c) (hb : Below w.heap.size w w') : TT w' A l c := by
  refine ⟨fun hp => ?_, h.2⟩
  obtain ⟨b, off, e, hlt, hc⟩ := h.1 hp
  exact ⟨b, off, e, Nat.lt_of_lt_of_le hlt hb.size, fun j u hu => (hb.cell (p := ⟨b, off + j, none⟩) hlt).trans (hc j u hu)⟩
theorem TT.nil (w : World) : TT w none [] 0 := ⟨fun h => absurd h (by simp), Nat.le_refl _, Nat.zero_le _, fun _ => ⟨rfl, rfl⟩⟩
theorem TT.of_own {w : World} {B n c : Nat} {A : Option Addr} {l : List Tk} (h : w.ownsRow B 35 4 (.slice A n c) l.length (tkcs l)) : n = l.length ∧ TT w A l c := by
  rcases h.2 with ⟨hv, hn⟩ | ⟨g, cap, cur, hv, hbg, hg, h1, h2, h3, h4⟩
  · injection hv with hA hl hc
    subst hA hc
    have : l = [] := List.eq_nil_of_length_eq_zero hn
    subst this
    exact ⟨hl, TT.nil w⟩
  · injection hv with hA hl hc
    subst hA hc
    refine ⟨hl, fun hp => ⟨g, 0, rfl, heap_lt hg, fun j u hu => ?_⟩, h1, h2, fun e => by cases e⟩
    have := h.cells (g := g) (by rw [hl]; rfl) j u hu
    rw [add_off] at this
    exact this

theorem bl1 {w : World} {b : Nat} {v : Value} {t : TypeId} (h : Box w b #[v] t) (u : Value) : Box (w.setCell ⟨b, 0, none⟩ u) b #[u] t := h.set (i := 0) (v := u)
theorem Box.belowo {B : Nat} {w w' : World} {b : Nat} {cs : Array Value} {t : TypeId} (h : Box w b cs t) (hb : Below B w w') (hlt : b < B) : Box w' b cs t := (hb.block b hlt).trans h
theorem box_set_other {w : World} {g b i : Nat} {t : TypeId} {cs : Array Value} {v : Value} (h : Box w g cs t) (hne : g ≠ b) : Box (w.setCell ⟨b, i, none⟩ v) g cs t := h.grown (set_grown_at w b i v) (by simpa using hne)

theorem assert_yes (w : World) (v : Value) (xT : TypeId) : (Instr.typeAssert (.iface 42 v) xT 42 true).run Tryd.prog w = .ok (.tuple #[v, .bool true]) w := by kernel_rfl
theorem assert_nil (w : World) (xT : TypeId) : (Instr.typeAssert .nilIface xT 42 true).run Tryd.prog w = .ok (.tuple #[.int .i64 0, .bool false]) w := by kernel_rfl
/-- What the deferred closure leaves where it has caught a panic. -/
def caught (w : World) (gl ga ge : Nat) (j : Int) : World := ((w.setCell ⟨gl, 0, none⟩ (.slice none 0 0)).setCell ⟨ga, 0, none⟩ (.int .i64 j)).setCell ⟨ge, 0, none⟩ (.int .i64 100)
set_option maxHeartbeats 1000000 in
set_option maxRecDepth 100000 in
theorem catch_panicking (gl ga ge : Nat) (x y z : Value) (j : Int) (older : List PanicEntry) (w : World) (hne : ga ≠ gl ∧ ge ≠ gl ∧ ge ≠ ga) (hl : Box w gl #[x] 23) (ha : Box w ga #[y] 3) (he : Box w ge #[z] 24) :
    CallsD Tryd.prog 24 #[.pointer (some ⟨gl, 0, none⟩), .pointer (some ⟨ga, 0, none⟩), .pointer (some ⟨ge, 0, none⟩)] (.panicking ({ v := .iface 42 (.int .i64 j), recovered := false } :: older)) w fun e u' w' =>
      e = .returned (.tuple #[]) ∧ u' = .panicking ({ v := .iface 42 (.int .i64 j), recovered := true } :: older) ∧ w' = caught w gl ga ge j := by
  have c0 : w.cell? ⟨gl, 0, none⟩ = some x := hl.cell 0
  have c1 : w.cell? ⟨ga, 0, none⟩ = some y := ha.cell 0
  have c2 : w.cell? ⟨ge, 0, none⟩ = some z := he.cell 0
  have f0 := hl.frozen 0
  have f1 := ha.frozen 0
  have f2 := he.frozen 0
  have n1 : ¬ ga = gl := hne.1
  have n2 : ¬ ge = gl := hne.2.1
  have n3 : ¬ ge = ga := hne.2.2
  have n1' : ¬ gl = ga := fun e => n1 e.symm
  have n2' : ¬ gl = ge := fun e => n2 e.symm
  have n3' : ¬ ga = ge := fun e => n3 e.symm
  refine callsD_of_wpS Tryd.func24 rfl fun c₀ cs hu => ?_
  apply wpS_seq
  apply wpS_region
  simp [wpOpsS, go_sem, recoverD, hu, Tryd.ntmps24, Exit.thenS, assert_yes]
  apply wpS_seq
  apply wpS_region
  simp [wpOpsS, go_sem, Exit.thenS]
  refine wpS_cond (t := true) (by simp [Act.eval, Array.replicate]) ?_
  simp only [if_true]
  apply wpS_region
  simp [wpOpsS, go_sem, c0, c1, c2, f0, f1, f2, n1, n2, n3, n1', n2', n3', bodyPostS, results, Tryd.results24]
  rfl

set_option maxHeartbeats 1000000 in
theorem catch_idle (gl ga ge : Nat) (w : World) :
    CallsD Tryd.prog 24 #[.pointer (some ⟨gl, 0, none⟩), .pointer (some ⟨ga, 0, none⟩), .pointer (some ⟨ge, 0, none⟩)] .returning w fun e u' w' => e = .returned (.tuple #[]) ∧ u' = .returning ∧ w' = w := by
  refine callsD_of_wpS Tryd.func24 rfl fun c₀ cs hu => ?_
  apply wpS_seq
  apply wpS_region
  simp [wpOpsS, go_sem, recoverD, hu, Tryd.ntmps24, Exit.thenS, assert_nil]
  apply wpS_seq
  apply wpS_region
  simp [wpOpsS, go_sem, Exit.thenS]
  refine wpS_cond (t := false) (by simp [Act.eval, Array.replicate]) ?_
  simp only [Bool.false_eq_true, if_false]
  refine wpS_of_wp (wp_skip ?_)
  cases c₀
  simp_all [bodyPostS, results, Tryd.results24]

/-- What Lex hands back: tokens, a place, an error. -/
def lxo (src : List UInt8) : List Tk × Nat × Int := if 65536 < src.length then ([], 0, 2) else match lex src with
  | .ok ts => (ts, 0, 0)
  | .no j => ([], j, 100)
/-- Lex's contract. -/
def LexP (o : List Tk × Nat × Int) (w : World) (e : Ending) (w' : World) : Prop := ∃ A c, e = .returned (.tuple #[.slice A o.1.length c, .int .i64 (o.2.1 : Int), .int .i64 o.2.2]) ∧ TT w' A o.1 c ∧ Below w.heap.size w w'
theorem LexP.none {j : Nat} {er : Int} {w w' : World} (h : Below w.heap.size w w') : LexP ([], j, er) w (.returned (.tuple #[.slice Option.none 0 0, .int .i64 (j : Int), .int .i64 er])) w' := ⟨Option.none, 0, rfl, TT.nil _, h⟩

/-- The three result variables. -/
abbrev ZZ (w : World) (x y z : Value) : World := ((w.alloc (.cells #[x] 23)).alloc (.cells #[y] 3)).alloc (.cells #[z] 24)
theorem zz_below (w : World) (x y z : Value) : Below w.heap.size w (ZZ w x y z) := (((Below.refl w.heap.size w).alloc (Nat.le_refl _) _).alloc (by simp) _).alloc (by simp; omega) _
theorem zz_box (w : World) (x y z : Value) : Box (ZZ w x y z) w.heap.size #[x] 23 ∧ Box (ZZ w x y z) (w.heap.size + 1) #[y] 3 ∧ Box (ZZ w x y z) (w.heap.size + 1 + 1) #[z] 24 := by
  refine ⟨((Box.new w _ _).alloc _).alloc _, ?_, ?_⟩
  · have := (Box.new (w.alloc (.cells #[x] 23)) #[y] 3).alloc (.cells #[z] 24)
    rw [World.size_alloc] at this
    exact this
  · have := Box.new ((w.alloc (.cells #[x] 23)).alloc (.cells #[y] 3)) #[z] 24
    rw [World.size_alloc, World.size_alloc] at this
    exact this
theorem below_set {B : Nat} {w0 w : World} {b i : Nat} {v : Value} (h : Below B w0 w) (hb : B ≤ b) : Below B w0 (w.setCell ⟨b, i, none⟩ v) := h.setCell (p := ⟨b, i, none⟩) hb v
theorem caught_box {w : World} {gl ga ge : Nat} {x y z : Value} {j : Int} (hne : ga ≠ gl ∧ ge ≠ gl ∧ ge ≠ ga) (hl : Box w gl #[x] 23) (ha : Box w ga #[y] 3) (he : Box w ge #[z] 24) :
    (caught w gl ga ge j).cell? ⟨gl, 0, none⟩ = some (.slice none 0 0) ∧ (caught w gl ga ge j).cell? ⟨ga, 0, none⟩ = some (.int .i64 j) ∧ (caught w gl ga ge j).cell? ⟨ge, 0, none⟩ = some (.int .i64 100) := by
  have h1 : Box (caught w gl ga ge j) gl #[.slice none 0 0] 23 := box_set_other (box_set_other (bl1 hl _) hne.1.symm) hne.2.1.symm
  have h2 : Box (caught w gl ga ge j) ga #[.int .i64 j] 3 := box_set_other (bl1 (box_set_other ha hne.1) _) hne.2.2.symm
  have h3 : Box (caught w gl ga ge j) ge #[.int .i64 100] 24 := bl1 (box_set_other (box_set_other he hne.2.1) hne.2.2) _
  exact ⟨h1.cell 0, h2.cell 0, h3.cell 0⟩

set_option maxHeartbeats 2000000 in
set_option maxRecDepth 100000 in
theorem lex_long (src : List UInt8) (w : World) (h : 65536 < src.length) (hl : src.length ≤ 9223372036854775807) :
    Calls Tryd.prog 12 #[.string (bs src)] w (LexP ([], 0, 2) w) := by
  have hlen : ∀ wx, (Builtin.len_ #[9] 3 #[.string (bs src)]).run Tryd.prog wx = .ok (.int .i64 (src.length : Int)) wx := fun wx => by rw [bs_len src _ _ Tryd.underlying9]
  obtain ⟨L, hL⟩ : ∃ L, src.length = L := ⟨_, rfl⟩
  rw [hL] at hlen h hl
  have hd : decide ((65536 : Int) < (L : Int)) = true := decide_eq_true (by omega)
  have hd2 : (65536 : Int) < (L : Int) := by omega
  have HB := Lib.hid (zz_below w (.slice none 0 0) (.int .i64 0) (.int .i64 2))
  have HX := Lib.hid (zz_box w (.slice none 0 0) (.int .i64 0) (.int .i64 2))
  go_enter_defers Tryd.func12, Tryd.ntmps12
  go_wp2_with fail
  have e0 := HX.out.1.cell 0
  have e1 := HX.out.2.1.cell 0
  have e2 := HX.out.2.2.cell 0
  simp only [List.getElem?_toArray, List.getElem?_cons_zero] at e0 e1 e2
  have hfin := LexP.none (j := 0) (er := 2) HB.out
  unfold ZZ at e0 e1 e2 hfin
  generalize ((w.alloc (.cells #[.slice none 0 0] 23)).alloc (.cells #[.int .i64 0] 3)).alloc (.cells #[.int .i64 2] 24) = W at *
  clear HB HX
  simp [bodyPostD, Leaves, settle, results, Tryd.results12, go_sem, e0, e1, e2]
  exact hfin

set_option maxHeartbeats 2000000 in
set_option maxRecDepth 100000 in
theorem lex_short (src : List UInt8) (w : World) (hK : KT w) (h : src.length ≤ 65536) :
    Calls Tryd.prog 12 #[.string (bs src)] w (LexP (lxo src) w) := by
  have hlen : ∀ wx, (Builtin.len_ #[9] 3 #[.string (bs src)]).run Tryd.prog wx = .ok (.int .i64 (src.length : Int)) wx := fun wx => by rw [bs_len src _ _ Tryd.underlying9]
  have hmf : ∀ (fn : Fn) (first cap : Array Value) (w : World), (Instr.makeFunc fn first cap).run Tryd.prog w = .ok (.func fn first cap) w := fun _ _ _ _ => rfl
  have hlo : lxo src = match lex src with | .ok ts => (ts, 0, 0) | .no j => ([], j, 100) := if_neg (by omega)
  obtain ⟨o, hoo⟩ : ∃ o, lxo src = o := ⟨_, rfl⟩
  rw [hoo] at hlo ⊢
  have HLO := Lib.hid hlo
  clear hoo
  obtain ⟨L, hL⟩ : ∃ L, src.length = L := ⟨_, rfl⟩
  rw [hL] at hlen h
  have hd : decide ((65536 : Int) < (L : Int)) = false := decide_eq_false (by omega)
  have hd2 : ¬ (65536 : Int) < (L : Int) := by omega
  have hbz := zz_below w (.slice none 0 0) (.int .i64 0) (.int .i64 0)
  have hbx := zz_box w (.slice none 0 0) (.int .i64 0) (.int .i64 0)
  have hzs : (ZZ w (.slice none 0 0) (.int .i64 0) (.int .i64 0)).heap.size = w.heap.size + 1 + 1 + 1 := by unfold ZZ; simp
  have hal := (Below.refl (ZZ w (.slice none 0 0) (.int .i64 0) (.int .i64 0)).heap.size (ZZ w (.slice none 0 0) (.int .i64 0) (.int .i64 0))).alloc (Nat.le_refl _) (.cells #[.string (bs src), .int .i64 0, .slice none 0 0] 45)
  have hsb := Box.new (ZZ w (.slice none 0 0) (.int .i64 0) (.int .i64 0)) #[.string (bs src), .int .i64 0, .slice none 0 0] 45
  rw [hzs] at hsb
  have HSC := Lib.hid (scan_any (w.heap.size + 1 + 1 + 1) src _ hsb ((hK.below hbz).below hal) (Nat.succ_pos _) (by omega))
  have HB := Lib.hid (hbz.trans (hal.mono hbz.size))
  have HX := Lib.hid (And.intro (hbx.1.below hal) (And.intro (hbx.2.1.below hal) (hbx.2.2.below hal)))
  clear hbz hbx hzs hal hsb hK hlo hL
  unfold ZZ at HSC HB HX
  go_enter_defers Tryd.func12, Tryd.ntmps12
  go_wp2_with fail
  generalize (((w.alloc (.cells #[.slice none 0 0] 23)).alloc (.cells #[.int .i64 0] 3)).alloc (.cells #[.int .i64 0] 24)).alloc (.cells #[.string (bs src), .int .i64 0, .slice none 0 0] 45) = W1 at *
  cases hr : lex src with
  | no j =>
    rw [hr] at HSC
    have HOE := Lib.hid (show o = ([], j, 100) from by rw [HLO.out, hr])
    unfold ScanP at HSC
    clear hr hmf
    refine HSC.out.mono ?_
    rintro e w1 ⟨rfl, hb⟩
    have p0 := HX.out.1.belowo hb (by omega)
    have p1 := HX.out.2.1.belowo hb (by omega)
    have p2 := HX.out.2.2.belowo hb (by omega)
    have HB1 := Lib.hid (HB.out.trans (hb.mono (by omega)))
    clear hb HSC HX HB
    go_wp2_with fail
    refine leaves_cons (f := 24) (args := #[.pointer (some ⟨w.heap.size, 0, none⟩), .pointer (some ⟨w.heap.size + 1, 0, none⟩), .pointer (some ⟨w.heap.size + 1 + 1, 0, none⟩)]) (by simp) (by simp [go_sem]) ?_
    have hne : w.heap.size + 1 ≠ w.heap.size ∧ w.heap.size + 1 + 1 ≠ w.heap.size ∧ w.heap.size + 1 + 1 ≠ w.heap.size + 1 := by omega
    refine (catch_panicking w.heap.size (w.heap.size + 1) (w.heap.size + 1 + 1) _ _ _ (j : Int) [] _ hne p0 p1 p2).mono ?_
    rintro e u' w'' ⟨rfl, rfl, rfl⟩
    obtain ⟨k0, k1, k2⟩ := caught_box (j := (j : Int)) hne p0 p1 p2
    have hfin := LexP.none (j := j) (er := 100) (show Below w.heap.size w (caught w1 w.heap.size (w.heap.size + 1) (w.heap.size + 1 + 1) (j : Int)) from below_set (below_set (below_set HB1.out (Nat.le_refl _)) (Nat.le_succ _)) (by omega))
    simp [Leaves, settle, results, Tryd.results12, go_sem, k0, k1, k2]
    rw [HOE.out]
    exact hfin
  | ok ts =>
    rw [hr] at HSC
    have HOE := Lib.hid (show o = (ts, 0, 0) from by rw [HLO.out, hr])
    unfold ScanP at HSC
    clear hr hmf
    refine HSC.out.mono ?_
    rintro e w1 ⟨rfl, ⟨lo, v, i, hs⟩, hb⟩
    obtain ⟨A, c, rfl⟩ := hs.form
    have p0 := HX.out.1.belowo hb (by omega)
    have p1 := HX.out.2.1.belowo hb (by omega)
    have p2 := HX.out.2.2.belowo hb (by omega)
    have hlt := hs.lt
    have s2 := hs.box.cell 2
    have c0 := p0.cell 0
    have c1 := p1.cell 0
    have c2 := p2.cell 0
    have f0 := p0.frozen 0
    have f1 := p1.frozen 0
    have f2 := p2.frozen 0
    have h1 := bl1 p0 (.slice A ts.length c)
    have h2 := bl1 (box_set_other (b := w.heap.size) (i := 0) (v := .slice A ts.length c) p1 (by omega)) (.int .i64 0)
    have h3 := bl1 (box_set_other (b := w.heap.size + 1) (i := 0) (v := .int .i64 0) (box_set_other (b := w.heap.size) (i := 0) (v := .slice A ts.length c) p2 (by omega)) (by omega)) (.int .i64 0)
    have HK := Lib.hid (And.intro (box_set_other (b := w.heap.size + 1 + 1) (i := 0) (v := .int .i64 0) (box_set_other (b := w.heap.size + 1) (i := 0) (v := .int .i64 0) h1 (by omega)) (by omega)) (And.intro (box_set_other (b := w.heap.size + 1 + 1) (i := 0) (v := .int .i64 0) h2 (by omega)) h3))
    have HT := Lib.hid (TT.of_own (own_set (i := 0) (u := .int .i64 0) (own_set (i := 0) (u := .int .i64 0) (own_set (sb := w.heap.size) (i := 0) (u := .slice A ts.length c) hs.own (by omega)) (sb := w.heap.size + 1) (by omega)) (sb := w.heap.size + 1 + 1) (by omega))).2
    have HB1 := Lib.hid (below_set (i := 0) (v := .int .i64 0) (below_set (i := 0) (v := .int .i64 0) (below_set (i := 0) (v := .slice A ts.length c) (HB.out.trans (hb.mono (by omega))) (Nat.le_refl _)) (Nat.le_succ _)) (show w.heap.size ≤ w.heap.size + 1 + 1 by omega))
    clear hb HSC HX HB hs hlt p0 p1 p2 h1 h2 h3
    go_wp2_with fail
    refine leaves_cons (f := 24) (args := #[.pointer (some ⟨w.heap.size, 0, none⟩), .pointer (some ⟨w.heap.size + 1, 0, none⟩), .pointer (some ⟨w.heap.size + 1 + 1, 0, none⟩)]) (by simp) (by simp [go_sem]) ?_
    refine (catch_idle w.heap.size (w.heap.size + 1) (w.heap.size + 1 + 1) _).mono ?_
    rintro e u' w'' ⟨rfl, rfl, rfl⟩
    have k0 := HK.out.1.cell 0
    have k1 := HK.out.2.1.cell 0
    have k2 := HK.out.2.2.cell 0
    simp only [List.getElem?_toArray, List.getElem?_cons_zero] at k0 k1 k2
    have hfin : LexP (ts, 0, 0) w (.returned (.tuple #[.slice A ts.length c, .int .i64 0, .int .i64 0])) _ := ⟨A, c, rfl, HT.out, HB1.out⟩
    simp [Leaves, settle, results, Tryd.results12, go_sem, k0, k1, k2]
    rw [HOE.out]
    exact hfin
theorem lex_any (src : List UInt8) (w : World) (hK : KT w) (hl : src.length ≤ 9223372036854775807) :
    Calls Tryd.prog 12 #[.string (bs src)] w (LexP (lxo src) w) := by
  by_cases h : 65536 < src.length
  · have : lxo src = ([], 0, 2) := if_pos h
    rw [this]
    exact lex_long src w h hl
  · exact lex_short src w hK (by omega)
end Go.Proofs.YticepaljociefaaDoor
