/- The reference's reader: the loop over a list's elements, as plain Lean. -/
import Derived.Test.YtkihimafeonibaaRRLst
import Derived.Deep.AppendLies
namespace Go.Proofs.Ytkihimafeonibaa
open Go.RowKit
set_option linter.unusedVariables false

/-- What Value leaves, whatever it answers. -/
def RVTail (h : Nat) (A : Option Addr) (c : Nat) (L : List UInt8) (w w' : World) (o : Option (T × List UInt8)) (v : Value) : Prop :=
  match o with
  | none => ∃ q, RR h w' A c L q true
  | some x => RdQ (w.heap.size ≤ ·) w' x.1 v ∧ ∃ q, x.2 = L.drop q ∧ RR h w' A c L q false
def RVAny (h : Nat) (A : Option Addr) (c : Nat) (L : List UInt8) (w : World) (o : Option (T × List UInt8)) (e : Ending) (w' : World) : Prop :=
  ∃ k n s a m cc, e = .returned (.agg #[.int .i64 k, .int .i64 n, .string s, .slice a m cc]) ∧ w.grownBy w' (some h) ∧ RVTail h A c L w w' o (.agg #[.int .i64 k, .int .i64 n, .string s, .slice a m cc])
theorem RVPost.any {h : Nat} {A : Option Addr} {c : Nat} {L : List UInt8} {w : World} {o : Option (T × List UInt8)} {e : Ending} {w' : World} (hp : RVPost h A c L w o e w') : RVAny h A c L w o e w' := by
  cases o with
  | none =>
    obtain ⟨⟨k, n, s, a, m, cc, he⟩, hq, hg⟩ := hp
    exact ⟨k, n, s, a, m, cc, he, hg, hq⟩
  | some x =>
    obtain ⟨v, he, hr, hq, hg⟩ := hp
    obtain ⟨k, n, s, a, m, cc, rfl⟩ := hr.form
    exact ⟨k, n, s, a, m, cc, he, hg, hr, hq⟩

def LTail (P : List UInt8 → Option (T × List UInt8)) (u : Nat) (L : List UInt8) (OO : Option (List T × List UInt8)) (j q G : Nat) (SL : Value) (wr : World) (xs : List Value) : Bool → Prop
  | true => OO = none
  | false => ∃ ts : List T, ts.length = j ∧ RowT (fun b => G < b ∧ SL.ownBlock ≠ some b) wr ts xs ∧ OO = (match ploop P (u - j) (L.drop q) with | none => none | some y => some (ts ++ y.1, y.2))

/-- What holds at the head of the loop: j elements have been read. -/
def LInv (h : Nat) (A : Option Addr) (c : Nat) (L : List UInt8) (w : World) (P : List UInt8 → Option (T × List UInt8)) (u : Nat) (OO : Option (List T × List UInt8)) (G j : Nat) (SL : Value) (wr : World) (q : Nat) (xs : List Value) (bad : Bool) : Prop :=
  Box wr G #[.int .i64 3, .int .i64 0, .string ⟨#[]⟩, SL] 24 ∧ Box wr w.heap.size zeroV 24 ∧ wr.ownsRow (G + 1) 24 4 SL j xs ∧
  RR h wr A c L q bad ∧ w.grownBy wr (some h) ∧ LTail P u L OO j q G SL wr xs bad

theorem LInv.drew {h : Nat} {A : Option Addr} {c : Nat} {L : List UInt8} {w : World} {P : List UInt8 → Option (T × List UInt8)} {u : Nat} {OO : Option (List T × List UInt8)} {G j : Nat} {SL : Value} {wr : World} {q : Nat} {xs : List Value} {bad : Bool}
    (hI : LInv h A c L w P u OO G j SL wr q xs bad) : LInv h A c L w P u OO G j SL wr.drew q xs bad := by
  obtain ⟨h1, h2, h3, h4, h5, h6⟩ := hI
  refine ⟨h1, h2, h3.drew, h4.drew, grown_trans h5 (grown_drew _ _), ?_⟩
  cases bad with
  | true => exact h6
  | false =>
    obtain ⟨ts, e1, e2, e3⟩ := h6
    exact ⟨ts, e1, e2.keep (fun b hb _ => ⟨hb, rfl⟩), e3⟩

theorem LInv.step {h : Nat} {A : Option Addr} {c : Nat} {L : List UInt8} {w : World} {P : List UInt8 → Option (T × List UInt8)} {u : Nat} {OO : Option (List T × List UInt8)} {G j : Nat} {SL : Value} {wr : World} {q : Nat} {xs : List Value}
    (hI : LInv h A c L w P u OO G j SL wr q xs false) (hj : j < u) (hw : h < w.heap.size) (hwG : w.heap.size < G) {w2 w4 : World} {k1 n1 : Int} {s1 : ByteArray} {a1 : Option Addr} {m1 c1 g4 k4 : Nat}
    (hg2 : wr.grownBy w2 (some h)) (ht : RVTail h A c L wr w2 (P (L.drop q)) (.agg #[.int .i64 k1, .int .i64 n1, .string s1, .slice a1 m1 c1]))
    (ho4 : w4.ownsRow (G + 1) 24 4 (.slice (some ⟨g4, 0, none⟩) (j + 1) k4) (j + 1) (xs ++ [.int .i64 k1, .int .i64 n1, .string s1, .slice a1 m1 c1]))
    (hg4 : (w2.alloc (.cells #[.int .i64 k1, .int .i64 n1, .string s1, .slice a1 m1 c1] 24)).grownBy w4 SL.ownBlock) (hat : SL.ownBlock = some g4 ∨ g4 = w2.heap.size + 1) :
    ∃ q' bad', LInv h A c L w P u OO G (j + 1) (.slice (some ⟨g4, 0, none⟩) (j + 1) k4) (w4.setCell ⟨G, 3, none⟩ (.slice (some ⟨g4, 0, none⟩) (j + 1) k4)) q' (xs ++ [.int .i64 k1, .int .i64 n1, .string s1, .slice a1 m1 c1]) bad' := by
  obtain ⟨hb, hz, ho, hR, hg, ts, hts, hrow, hO⟩ := hI
  have hol := ho.lt
  have hGs := hb.lt
  have hzs := hz.lt
  have hs2 := hg2.size
  have hal := World.grownBy_alloc w2 (.cells #[.int .i64 k1, .int .i64 n1, .string s1, .slice a1 m1 c1] 24) none
  have old : ∀ b, b < w2.heap.size → SL.ownBlock ≠ some b → b ≠ G → (w4.setCell ⟨G, 3, none⟩ (.slice (some ⟨g4, 0, none⟩) (j + 1) k4)).heap[b]? = w2.heap[b]? := fun b hlt hne hG =>
    (Below.heap_setCell _ _ _ _ hG).trans ((hg4.block b (by simp; omega) (fun e => hne e.symm)).trans (hal.block b hlt (by simp)))
  have low : ∀ b, b ≤ G → SL.ownBlock ≠ some b := fun b hle e => by have := hol b e; omega
  have hG4 : w4.heap[G]? = some (.cells #[.int .i64 3, .int .i64 0, .string ⟨#[]⟩, SL] 24 (0, 0)) :=
    (hg4.block G (by simp; omega) (fun e => low G (Nat.le_refl _) e.symm)).trans ((hal.block G (by omega) (by simp)).trans ((hg2.block G hGs (fun e => by injection e with e; omega)).trans hb))
  have hg4G : G + 1 ≤ g4 := by
    rcases hat with e | e
    · exact (hol g4 e).1
    · omega
  have hbox : Box (w4.setCell ⟨G, 3, none⟩ (.slice (some ⟨g4, 0, none⟩) (j + 1) k4)) G #[.int .i64 3, .int .i64 0, .string ⟨#[]⟩, .slice (some ⟨g4, 0, none⟩) (j + 1) k4] 24 := by
    unfold Box
    simp [World.setCell, Array.getElem?_modify, hG4]
  have hbz : Box (w4.setCell ⟨G, 3, none⟩ (.slice (some ⟨g4, 0, none⟩) (j + 1) k4)) w.heap.size zeroV 24 :=
    (old _ (by omega) (low _ (by omega)) (by omega)).trans ((hg2.block _ hzs (fun e => by injection e with e; omega)).trans hz)
  have hown : (w4.setCell ⟨G, 3, none⟩ (.slice (some ⟨g4, 0, none⟩) (j + 1) k4)).ownsRow (G + 1) 24 4 (.slice (some ⟨g4, 0, none⟩) (j + 1) k4) (j + 1) (xs ++ [.int .i64 k1, .int .i64 n1, .string s1, .slice a1 m1 c1]) :=
    ho4.kept (set_grown_at w4 G 3 _) (.inr (fun e => by simp [Value.ownBlock] at e; omega))
  have hgw : w.grownBy (w4.setCell ⟨G, 3, none⟩ (.slice (some ⟨g4, 0, none⟩) (j + 1) k4)) (some h) :=
    grown_own (grown_own (grown_trans (grown_trans hg hg2) (World.grownBy_alloc w2 _ _)) hg4 (fun i hi => by have := hol i hi; omega)) (set_grown_at w4 G 3 _) (fun i hi => by injection hi with hi; omega)
  have hRk : ∀ {q bd}, RR h w2 A c L q bd → RR h (w4.setCell ⟨G, 3, none⟩ (.slice (some ⟨g4, 0, none⟩) (j + 1) k4)) A c L q bd := fun hr => hr.keep fun k hk => old k (by omega) (low k (by omega)) (by omega)
  have hown4 : ∀ b, b < w2.heap.size → SL.ownBlock ≠ some b → (Value.slice (some ⟨g4, 0, none⟩) (j + 1) k4).ownBlock ≠ some b := by
    intro b hb hne e
    simp [Value.ownBlock] at e
    subst e
    rcases hat with h | h
    · exact hne h
    · omega
  have hO2 := ploop_step P ts u j (L.drop q) hj OO hO
  cases hx : P (L.drop q) with
  | none =>
    rw [hx] at ht
    obtain ⟨q', hR'⟩ := ht
    exact ⟨q', true, hbox, hbz, hown, hRk hR', hgw, hO2.1 hx⟩
  | some x =>
    rw [hx] at ht
    obtain ⟨hr, q', hq', hR'⟩ := ht
    refine ⟨q', false, hbox, hbz, hown, hRk hR', hgw, ts ++ [x.1], by rw [List.length_append, hts]; rfl, RowT.snoc (hrow.keep ?_) (by rw [hts]; exact ho.1) (hr.keep ?_), ?_⟩
    · rintro b ⟨hb1, hb2⟩ hb3
      exact ⟨⟨hb1, hown4 b (by omega) hb2⟩, (old b (by omega) hb2 (by omega)).trans (hg2.block b hb3 (fun e => by injection e with e; omega))⟩
    · intro b hb1 hb2
      have hne : SL.ownBlock ≠ some b := fun e => by have := hol b e; omega
      exact ⟨⟨by omega, hown4 b hb2 hne⟩, old b hb2 hne (by omega)⟩
    · rw [← hq']
      exact hO2.2 x hx

/-- Behind the call of Value: what append needs. -/
theorem LInv.called {h : Nat} {A : Option Addr} {c : Nat} {L : List UInt8} {w : World} {P : List UInt8 → Option (T × List UInt8)} {u : Nat} {OO : Option (List T × List UInt8)} {G j : Nat} {SL : Value} {wr : World} {q : Nat} {xs : List Value} {bd : Bool}
    (hI : LInv h A c L w P u OO G j SL wr q xs bd) (hw : h < w.heap.size) (hwG : w.heap.size < G) {w3 : World} {k1 n1 : Int} {s1 : ByteArray} {a1 : Option Addr} {m1 c1 : Nat} (hg3 : wr.grownBy w3 (some h)) :
    w3.cell? ⟨G, 3, none⟩ = some SL ∧
    (w3.alloc (.cells #[.int .i64 k1, .int .i64 n1, .string s1, .slice a1 m1 c1] 24)).cell? ⟨G, 3, none⟩ = some SL ∧
    (w3.alloc (.cells #[.int .i64 k1, .int .i64 n1, .string s1, .slice a1 m1 c1] 24)).frozen? ⟨G, 3, none⟩ = false ∧
    (w3.alloc (.cells #[.int .i64 k1, .int .i64 n1, .string s1, .slice a1 m1 c1] 24)).ownsRow (G + 1) 24 4 SL j xs ∧
    (∀ i u, [Value.int .i64 k1, .int .i64 n1, .string s1, .slice a1 m1 c1][i]? = some u → (w3.alloc (.cells #[.int .i64 k1, .int .i64 n1, .string s1, .slice a1 m1 c1] 24)).cell? ((⟨w3.heap.size, 0, none⟩ : Addr).add i) = some u) ∧
    (∀ x ∈ [Value.int .i64 k1, .int .i64 n1, .string s1, .slice a1 m1 c1], x.oneCell' = true) ∧
    G + 1 ≤ (w3.alloc (.cells #[.int .i64 k1, .int .i64 n1, .string s1, .slice a1 m1 c1] 24)).heap.size := by
  obtain ⟨hb, hz, ho, hR, hg, _⟩ := hI
  have hol := ho.lt
  have hs := hg3.size
  have hGl := hb.lt
  have hb3 : w3.heap[G]? = some (.cells #[.int .i64 3, .int .i64 0, .string ⟨#[]⟩, SL] 24 (0, 0)) := (hg3.block G hGl (fun e => by injection e with e; omega)).trans hb
  have hb4 : Box (w3.alloc (.cells #[.int .i64 k1, .int .i64 n1, .string s1, .slice a1 m1 c1] 24)) G #[.int .i64 3, .int .i64 0, .string ⟨#[]⟩, SL] 24 := Box.alloc hb3 _
  refine ⟨(show Box w3 G _ _ from hb3).cell 3, hb4.cell 3, by simp [World.frozen?, show (w3.alloc _).heap[G]? = _ from hb4], (ho.kept hg3 (.inr (fun e => by have := hol h e; omega))).alloc _, ?_, by simp [Value.oneCell'], by rw [World.size_alloc]; omega⟩
  exact World.news_of_block (w := w3.alloc (.cells #[.int .i64 k1, .int .i64 n1, .string s1, .slice a1 m1 c1] 24)) (B := w3.heap.size) (cs := #[.int .i64 k1, .int .i64 n1, .string s1, .slice a1 m1 c1]) (t := 24) (fr := (0, 0)) (heap_alloc_new w3 _)
end Go.Proofs.Ytkihimafeonibaa
