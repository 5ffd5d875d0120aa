/- The contracts in the form in which the statements' walks ask for them. -/
import Derived.Test.YtnmlfdmlcpgaaaaOps
import Derived.Test.YtnmlfdmlcpgaaaaCov
import Derived.Test.YtnmlfdmlcpgaaaaSame
namespace Go.Proofs.Ytnmlfdmlcpgaaaa
open Go.RowKit
set_option linter.unusedVariables false

/-- A slice of n spans. -/
def SlN (w : World) (A : Option Addr) (l : List (Int × Int)) (n c : Nat) : Prop := l.length = n ∧ n ≤ 1000000 ∧ Sl w A l c
theorem SlN.up {w w' : World} {A : Option Addr} {l : List (Int × Int)} {n c : Nat} (h : SlN w A l n c) (hb : Below w.heap.size w w') : SlN w' A l n c := ⟨h.1, h.2.1, h.2.2.up hb⟩
/-- A function has handed back n spans. -/
def Rw (l : List (Int × Int)) (n : Nat) (w : World) (e : Ending) (w' : World) : Prop := ∃ A c, e = .returned (.slice A n c) ∧ SlN w' A l n c ∧ Below w.heap.size w w'
def Rb (b : Bool) (w : World) (e : Ending) (w' : World) : Prop := e = .returned (.bool b) ∧ Below w.heap.size w w'
def Ri (i : Int) (w : World) (e : Ending) (w' : World) : Prop := e = .returned (.int .i64 i) ∧ Below w.heap.size w w'
theorem bstep {w w' : World} {o : Obj} (h : Below (w.alloc o).heap.size (w.alloc o) w') : Below w.heap.size w w' := ((Below.refl w.heap.size w).alloc (Nat.le_refl _) o).trans (h.mono (by simp))
theorem rw_of {l : List (Int × Int)} {n : Nat} {w : World} (hn : l.length = n) (hm : n ≤ 1000000) {e : Ending} {w' : World} (h : RowPost l w e w') : Rw l n w e w' := by
  obtain ⟨A, c, rfl, hS, hb⟩ := h
  subst hn
  exact ⟨A, c, rfl, ⟨rfl, hm, hS⟩, hb⟩

theorem mk2 (a b : Int) (g : Nat) (w : World) (hx : Box w g #[.int .i64 a, .int .i64 b] 3) :
    Calls Try.prog 24 #[.slice (some ⟨g, 0, none⟩) 2 2] w (Rw [(a, b)] 1 w) :=
  (mklist_any [a, b] g 2 3 w hx (by simp)).mono fun _ _ h => rw_of rfl (by simp) h
theorem mk4 (a b c d : Int) (g : Nat) (w : World) (hx : Box w g #[.int .i64 a, .int .i64 b, .int .i64 c, .int .i64 d] 3) :
    Calls Try.prog 24 #[.slice (some ⟨g, 0, none⟩) 4 4] w (Rw [(a, b), (c, d)] 2 w) :=
  (mklist_any [a, b, c, d] g 4 3 w hx (by simp)).mono fun _ _ h => rw_of rfl (by simp) h
theorem normalC {l r : List (Int × Int)} {n m c : Nat} {A : Option Addr} {w : World} (hS : SlN w A l n c) (h : nl (hasB l) 1024 = r) (hm : r.length = m) :
    Calls Try.prog 12 #[.slice A n c] w (Rw r m w) := by
  obtain ⟨rfl, hn, hS⟩ := hS
  refine (normal_any A c l w hS hn).mono fun _ _ k => ?_
  rw [h] at k
  exact rw_of hm (by rw [← hm, ← h]; have := nl_length (hasB l) 1024; omega) k
theorem unionC {l l' r : List (Int × Int)} {n n' m c c' : Nat} {A A' : Option Addr} {w : World} (hS : SlN w A l n c) (hS' : SlN w A' l' n' c') (h : nl (fun d => hasB l d || hasB l' d) 1024 = r) (hm : r.length = m) :
    Calls Try.prog 14 #[.slice A n c, .slice A' n' c'] w (Rw r m w) := by
  obtain ⟨rfl, hn, hS⟩ := hS
  obtain ⟨rfl, hn', hS'⟩ := hS'
  refine (union_any A A' c c' l l' w hS hS' hn hn').mono fun _ _ k => ?_
  rw [h] at k
  exact rw_of hm (by rw [← hm, ← h]; have := nl_length (fun d => hasB l d || hasB l' d) 1024; omega) k
theorem meetC {l l' r : List (Int × Int)} {n n' m c c' : Nat} {A A' : Option Addr} {w : World} (hS : SlN w A l n c) (hS' : SlN w A' l' n' c') (h : nl (fun d => hasB l d && hasB l' d) 1024 = r) (hm : r.length = m) :
    Calls Try.prog 16 #[.slice A n c, .slice A' n' c'] w (Rw r m w) := by
  obtain ⟨rfl, hn, hS⟩ := hS
  obtain ⟨rfl, hn', hS'⟩ := hS'
  refine (meet_any A A' c c' l l' w hS hS' hn hn').mono fun _ _ k => ?_
  rw [h] at k
  exact rw_of hm (by rw [← hm, ← h]; have := nl_length (fun d => hasB l d && hasB l' d) 1024; omega) k
theorem minusC {l l' r : List (Int × Int)} {n n' m c c' : Nat} {A A' : Option Addr} {w : World} (hS : SlN w A l n c) (hS' : SlN w A' l' n' c') (h : nl (fun d => hasB l d && !hasB l' d) 1024 = r) (hm : r.length = m) :
    Calls Try.prog 18 #[.slice A n c, .slice A' n' c'] w (Rw r m w) := by
  obtain ⟨rfl, hn, hS⟩ := hS
  obtain ⟨rfl, hn', hS'⟩ := hS'
  refine (minus_any A A' c c' l l' w hS hS' hn hn').mono fun _ _ k => ?_
  rw [h] at k
  exact rw_of hm (by rw [← hm, ← h]; have := nl_length (fun d => hasB l d && !hasB l' d) 1024; omega) k
theorem sameT {l l' : List (Int × Int)} {n n' c c' : Nat} {A A' : Option Addr} {w : World} (hS : SlN w A l n c) (hS' : SlN w A' l' n' c') (h : l = l') :
    Calls Try.prog 11 #[.slice A n c, .slice A' n' c'] w (Rb true w) := by
  obtain ⟨rfl, hn, hS⟩ := hS
  obtain ⟨rfl, hn', hS'⟩ := hS'
  refine (same_any A A' c c' l l' w hS hS' hn hn').mono fun _ _ k => ?_
  rw [decide_eq_true h] at k
  exact k
theorem coversC {l : List (Int × Int)} {n c : Nat} {A : Option Addr} {w : World} (a b : Int) (hS : SlN w A l n c) (r : Bool) (h : cov l (a, b) = r) :
    Calls Try.prog 22 #[.slice A n c, .agg #[.int .i64 a, .int .i64 b]] w (Rb r w) := by
  obtain ⟨rfl, hn, hS⟩ := hS
  subst h
  exact covers_any A c l (a, b) w hS hn
theorem hasC {l : List (Int × Int)} {n c : Nat} {A : Option Addr} {w : World} (d : Int) (hS : SlN w A l n c) (r : Bool) (h : hasD l d = r) :
    Calls Try.prog 20 #[.slice A n c, .int .i64 d] w (Rb r w) := by
  obtain ⟨rfl, hn, hS⟩ := hS
  subst h
  exact has_any d A c l w hS hn
theorem checkC {l : List (Int × Int)} {n c : Nat} {A : Option Addr} {w : World} (hS : SlN w A l n c) (r : Int) (h : chk l = r) :
    Calls Try.prog 9 #[.slice A n c] w (Ri r w) := by
  obtain ⟨rfl, hn, hS⟩ := hS
  subst h
  exact check_any A c l w hS hn
theorem SlN.nil (w : World) : SlN w none [] 0 0 := ⟨rfl, by omega, Sl.nil w⟩

theorem ex1 : nl (hasB [(10, 20), (15, 30)]) 1024 = [(10, 30)] := by decide +kernel
theorem ex2 : nl (hasB [(-5, 2000)]) 1024 = [(0, 1024)] := by decide +kernel
theorem ex3 : nl (hasB [(5, 5)]) 1024 = [] := by decide +kernel
theorem ex4 : nl (fun d => hasB [(0, 1024)] d && !hasB [(0, 10)] d) 1024 = [(10, 1024)] := by decide +kernel
theorem ex5 : nl (fun d => hasB [(3, 4)] d || hasB [(4, 5)] d) 1024 = [(3, 5)] := by decide +kernel
theorem ex6 : nl (fun d => hasB [(3, 9)] d && hasB [(5, 12)] d) 1024 = [(5, 9)] := by decide +kernel
theorem ex7 : cov [(0, 10), (10, 20)] (5, 15) = true := by decide +kernel
theorem ex8 : cov [] (7, 7) = true := by decide +kernel
theorem ex9 : cov [(0, 1024)] (1023, 1025) = false := by decide +kernel
theorem ex10 : hasD [(0, 1024)] 1023 = true := by decide +kernel
theorem ex11 : hasD [(0, 1024)] 1024 = false := by decide +kernel
theorem ex12 : chk [(0, 0)] = 30 := by decide +kernel
theorem ex13 : chk [(0, 1024)] = 0 := by decide +kernel
end Go.Proofs.Ytnmlfdmlcpgaaaa
