/- The reference's contracts in the form in which the statements' walks ask for them. -/
import Derived.Test.YtnmlfdmlcpgaaaaROps
namespace Go.Proofs.Ytnmlfdmlcpgaaaa
open Go.RowKit
set_option linter.unusedVariables false

theorem refNormalD {l : List (Int × Int)} {n m c : Nat} {A : Option Addr} {w : World} (hS : SlN w A l n c) (hm : Hid ((Nm l).length = m)) :
    Calls Try.prog 13 #[.slice A n c] w (Rw (Nm l) m w) := by
  obtain ⟨rfl, hn, hS⟩ := hS
  exact (refNormal_any A c l w hS hn).mono fun _ _ k => rw_of hm.out (by rw [← hm.out]; have := nl_length (hasB l) 1024; unfold Nm; omega) k
theorem refUnionD {l l' : List (Int × Int)} {n n' m c c' : Nat} {A A' : Option Addr} {w : World} (hS : SlN w A l n c) (hS' : SlN w A' l' n' c') (hm : Hid ((U l l').length = m)) :
    Calls Try.prog 15 #[.slice A n c, .slice A' n' c'] w (Rw (U l l') m w) := by
  obtain ⟨rfl, hn, hS⟩ := hS
  obtain ⟨rfl, hn', hS'⟩ := hS'
  exact (refUnion_any A A' c c' l l' w hS hS' hn hn').mono fun _ _ k => rw_of hm.out (by rw [← hm.out]; have := nl_length (fun d => hasB l d || hasB l' d) 1024; unfold U; omega) k
theorem refMeetD {l l' : List (Int × Int)} {n n' m c c' : Nat} {A A' : Option Addr} {w : World} (hS : SlN w A l n c) (hS' : SlN w A' l' n' c') (hm : Hid ((Mt l l').length = m)) :
    Calls Try.prog 17 #[.slice A n c, .slice A' n' c'] w (Rw (Mt l l') m w) := by
  obtain ⟨rfl, hn, hS⟩ := hS
  obtain ⟨rfl, hn', hS'⟩ := hS'
  exact (refMeet_any A A' c c' l l' w hS hS' hn hn').mono fun _ _ k => rw_of hm.out (by rw [← hm.out]; have := nl_length (fun d => hasB l d && hasB l' d) 1024; unfold Mt; omega) k
theorem refMinusD {l l' : List (Int × Int)} {n n' m c c' : Nat} {A A' : Option Addr} {w : World} (hS : SlN w A l n c) (hS' : SlN w A' l' n' c') (hm : Hid ((Mn l l').length = m)) :
    Calls Try.prog 19 #[.slice A n c, .slice A' n' c'] w (Rw (Mn l l') m w) := by
  obtain ⟨rfl, hn, hS⟩ := hS
  obtain ⟨rfl, hn', hS'⟩ := hS'
  exact (refMinus_any A A' c c' l l' w hS hS' hn hn').mono fun _ _ k => rw_of hm.out (by rw [← hm.out]; have := nl_length (fun d => hasB l d && !hasB l' d) 1024; unfold Mn; omega) k
theorem refCoversC {l : List (Int × Int)} {n c : Nat} {A : Option Addr} {w : World} (a b : Int) (hS : SlN w A l n c) (r : Bool) (h : cov l (a, b) = r) :
    Calls Try.prog 23 #[.slice A n c, .agg #[.int .i64 a, .int .i64 b]] w (Rb r w) := by
  obtain ⟨rfl, hn, hS⟩ := hS
  subst h
  exact refCovers_any A c l (a, b) w hS hn
theorem refHasC {l : List (Int × Int)} {n c : Nat} {A : Option Addr} {w : World} (d : Int) (hS : SlN w A l n c) (r : Bool) (h : hasD l d = r) :
    Calls Try.prog 21 #[.slice A n c, .int .i64 d] w (Rb r w) := by
  obtain ⟨rfl, hn, hS⟩ := hS
  subst h
  exact refHas_any d A c l w hS hn
theorem refCheckC {l : List (Int × Int)} {n c : Nat} {A : Option Addr} {w : World} (hS : SlN w A l n c) (r : Int) (h : chk l = r) :
    Calls Try.prog 10 #[.slice A n c] w (Ri r w) := by
  obtain ⟨rfl, hn, hS⟩ := hS
  subst h
  exact refCheck_any A c l w hS hn
end Go.Proofs.Ytnmlfdmlcpgaaaa
