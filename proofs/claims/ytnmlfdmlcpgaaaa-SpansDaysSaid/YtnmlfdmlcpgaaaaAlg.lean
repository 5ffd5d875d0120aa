/- The laws of sets, plainly; contracts by name. -/
import Derived.Test.YtnmlfdmlcpgaaaaSane
namespace Go.Proofs.Ytnmlfdmlcpgaaaa
open Go.RowKit
set_option linter.unusedVariables false

def U (a b : List (Int × Int)) : List (Int × Int) := nl (fun d => hasB a d || hasB b d) 1024
def Mt (a b : List (Int × Int)) : List (Int × Int) := nl (fun d => hasB a d && hasB b d) 1024
def Mn (a b : List (Int × Int)) : List (Int × Int) := nl (fun d => hasB a d && !hasB b d) 1024
def Nm (a : List (Int × Int)) : List (Int × Int) := nl (hasB a) 1024
theorem has_U {a b : List (Int × Int)} {k : Nat} (h : k < 1024) : hasB (U a b) k = (hasB a k || hasB b k) := by unfold U; rw [nl_has]; simp [h]
theorem has_Mt {a b : List (Int × Int)} {k : Nat} (h : k < 1024) : hasB (Mt a b) k = (hasB a k && hasB b k) := by unfold Mt; rw [nl_has]; simp [h]
theorem has_Mn {a b : List (Int × Int)} {k : Nat} (h : k < 1024) : hasB (Mn a b) k = (hasB a k && !hasB b k) := by unfold Mn; rw [nl_has]; simp [h]
theorem has_Nm {a : List (Int × Int)} {k : Nat} (h : k < 1024) : hasB (Nm a) k = hasB a k := by unfold Nm; rw [nl_has]; simp [h]
theorem U_comm (a b : List (Int × Int)) : U a b = U b a := nl_congr fun k hk => by cases hasB a k <;> cases hasB b k <;> rfl
theorem Mt_comm (a b : List (Int × Int)) : Mt a b = Mt b a := nl_congr fun k hk => by cases hasB a k <;> cases hasB b k <;> rfl
theorem U_assoc (a b c : List (Int × Int)) : U (U a b) c = U a (U b c) := nl_congr fun k hk => by rw [has_U hk, has_U hk]; cases hasB a k <;> cases hasB b k <;> cases hasB c k <;> rfl
theorem Mt_assoc (a b c : List (Int × Int)) : Mt (Mt a b) c = Mt a (Mt b c) := nl_congr fun k hk => by rw [has_Mt hk, has_Mt hk]; cases hasB a k <;> cases hasB b k <;> cases hasB c k <;> rfl
theorem Mt_U (a b c : List (Int × Int)) : Mt a (U b c) = U (Mt a b) (Mt a c) := nl_congr fun k hk => by rw [has_U hk, has_Mt hk, has_Mt hk]; cases hasB a k <;> cases hasB b k <;> cases hasB c k <;> rfl
theorem U_self (a : List (Int × Int)) : U a a = Nm a := nl_congr fun k hk => by cases hasB a k <;> rfl
theorem Mt_self (a : List (Int × Int)) : Mt a a = Nm a := nl_congr fun k hk => by cases hasB a k <;> rfl
theorem Nm_self (a : List (Int × Int)) : Nm (Nm a) = Nm a := nl_congr fun k hk => by rw [has_Nm hk]
theorem Mn_U (a b c : List (Int × Int)) : Mn a (U b c) = Mn (Mn a b) c := nl_congr fun k hk => by rw [has_U hk, has_Mn hk]; cases hasB a k <;> cases hasB b k <;> cases hasB c k <;> rfl
theorem Mn_self (a : List (Int × Int)) : Mn a a = [] := nl_nil.2 fun k hk => by cases hasB a k <;> rfl
theorem div1 (a b : List (Int × Int)) : Mt (Mn a b) (Mt a b) = [] := nl_nil.2 fun k hk => by rw [has_Mn hk, has_Mt hk]; cases hasB a k <;> cases hasB b k <;> rfl
theorem div2 (a b : List (Int × Int)) : Mt (Mn a b) b = [] := nl_nil.2 fun k hk => by rw [has_Mn hk]; cases hasB a k <;> cases hasB b k <;> rfl
theorem div3 (a b : List (Int × Int)) : U (Mn a b) (Mt a b) = Nm a := nl_congr fun k hk => by rw [has_Mn hk, has_Mt hk]; cases hasB a k <;> cases hasB b k <;> rfl
theorem div4 (a b : List (Int × Int)) : U (Mn a b) b = U a b := nl_congr fun k hk => by rw [has_Mn hk]; cases hasB a k <;> cases hasB b k <;> rfl

theorem normalD {l : List (Int × Int)} {n m c : Nat} {A : Option Addr} {w : World} (hS : SlN w A l n c) (hm : Hid ((Nm l).length = m)) :
    Calls Try.prog 12 #[.slice A n c] w (Rw (Nm l) m w) := normalC hS rfl hm.out
theorem unionD {l l' : List (Int × Int)} {n n' m c c' : Nat} {A A' : Option Addr} {w : World} (hS : SlN w A l n c) (hS' : SlN w A' l' n' c') (hm : Hid ((U l l').length = m)) :
    Calls Try.prog 14 #[.slice A n c, .slice A' n' c'] w (Rw (U l l') m w) := unionC hS hS' rfl hm.out
theorem meetD {l l' : List (Int × Int)} {n n' m c c' : Nat} {A A' : Option Addr} {w : World} (hS : SlN w A l n c) (hS' : SlN w A' l' n' c') (hm : Hid ((Mt l l').length = m)) :
    Calls Try.prog 16 #[.slice A n c, .slice A' n' c'] w (Rw (Mt l l') m w) := meetC hS hS' rfl hm.out
theorem minusD {l l' : List (Int × Int)} {n n' m c c' : Nat} {A A' : Option Addr} {w : World} (hS : SlN w A l n c) (hS' : SlN w A' l' n' c') (hm : Hid ((Mn l l').length = m)) :
    Calls Try.prog 18 #[.slice A n c, .slice A' n' c'] w (Rw (Mn l l') m w) := minusC hS hS' rfl hm.out
theorem lenH (l : List (Int × Int)) : ∃ m, Hid (l.length = m) := ⟨_, rfl⟩

/-- A slice that came in. -/
def SlG (w : World) (A : Option Addr) (l : List (Int × Int)) (n c : Nat) : Prop := l.length = n ∧ Sl w A l c
theorem SlG.up {w w' : World} {A : Option Addr} {l : List (Int × Int)} {n c : Nat} (h : SlG w A l n c) (hb : Below w.heap.size w w') : SlG w' A l n c := ⟨h.1, h.2.up hb⟩
theorem SlG.few {w : World} {A : Option Addr} {l : List (Int × Int)} {n c : Nat} (h : SlG w A l n c) (hn : n ≤ 40) : SlN w A l n c := ⟨h.1, by omega, h.2⟩
theorem fewT {A : Option Addr} {n c : Nat} (w : World) (hn : n ≤ 40) : Calls Try.prog 8 #[.slice A n c] w (Rb true w) :=
  (few_any A c n w).mono fun _ _ ⟨h, hw⟩ => by
    subst hw
    rw [decide_eq_true hn] at h
    exact ⟨h, Below.refl _ _⟩
theorem fewF {A : Option Addr} {n c : Nat} (w : World) (hn : ¬ n ≤ 40) : Calls Try.prog 8 #[.slice A n c] w (Rb false w) :=
  (few_any A c n w).mono fun _ _ ⟨h, hw⟩ => by
    subst hw
    rw [decide_eq_false hn] at h
    exact ⟨h, Below.refl _ _⟩
end Go.Proofs.Ytnmlfdmlcpgaaaa
