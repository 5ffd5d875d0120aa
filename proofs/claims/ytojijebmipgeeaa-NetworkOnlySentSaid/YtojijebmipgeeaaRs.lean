/- The reference's Few, SamePacket. -/
import Derived.Test.YtojijebmipgeeaaSe
namespace Go.Proofs.Ytojijebmipgeeaa
open Go.RowKit
set_option linter.unusedVariables false

theorem few_any (n : Nt) (A B : Option Addr) (c k : Nat) (w : World) :
    Calls Try.prog 10 #[ntv n A c B k] w (BoolPost (few n) w) := by
  have HB := Lib.hid ((Below.refl w.heap.size w).alloc (Nat.le_refl _) (.cells (ntc n A c B k) 25))
  have hf : few n = (decide (n.q.length ≤ 40) && decide (n.ap.length ≤ 40)) := rfl
  unfold BoolPost
  rw [hf]
  clear hf
  unfold ntv ntc at *
  generalize n.q.length = N at *
  generalize n.ap.length = M at *
  by_cases h1 : N ≤ 40
  · have d1 : decide ((N : Int) ≤ 40) = true := decide_eq_true (by omega)
    rw [decide_eq_true h1]
    by_cases h2 : M ≤ 40
    · have d2 : decide ((M : Int) ≤ 40) = true := decide_eq_true (by omega)
      rw [decide_eq_true h2]
      go_enter Try.func10, Try.ntmps10
      go_wp2_with fail
      go_ret
      exact ⟨rfl, HB.out⟩
    · have d2 : decide ((M : Int) ≤ 40) = false := decide_eq_false (by omega)
      rw [decide_eq_false h2]
      go_enter Try.func10, Try.ntmps10
      go_wp2_with fail
      go_ret
      exact ⟨rfl, HB.out⟩
  · have d1 : decide ((N : Int) ≤ 40) = false := decide_eq_false (by omega)
    rw [decide_eq_false h1]
    go_enter Try.func10, Try.ntmps10
    go_wp2_with fail
    go_ret
    exact ⟨rfl, HB.out⟩

theorem bytes_eq (l l2 : List UInt8) : ((⟨l.toArray⟩ : ByteArray).toList == (⟨l2.toArray⟩ : ByteArray).toList) = (l == l2) := by
  have h : ∀ l : List UInt8, (⟨l.toArray⟩ : ByteArray).toList = l := fun l => by simp
  rw [h, h]

set_option maxHeartbeats 1000000 in
theorem samePacket_any (p r : Pk) (D E : Option Addr) (d e : Nat) (w : World) (hp : Sl w D p.da d) (hr : Sl w E r.da e) :
    Calls Try.prog 22 #[pkv p D d, pkv r E e] w (BoolPost (spk p r) w) := by
  have hb := ((Below.refl w.heap.size w).alloc (Nat.le_refl _) (.cells (pkc p D d) 28)).alloc (by simp) (.cells (pkc r E e) 28)
  have c1 := fun W (h : Below w.heap.size w W) => sl_str (hp.up h) rfl
  have c2 := fun W (h : Below w.heap.size w W) => sl_str (hr.up h) rfl
  have HB := Lib.hid hb
  have HC := Lib.hid (And.intro (c1 _ hb) (c2 _ hb))
  have hs : spk p r = (p.fr == r.fr && p.to == r.to && p.da == r.da) := rfl
  have he := bytes_eq p.da r.da
  unfold BoolPost
  rw [hs]
  clear hs hb c1 c2 hp hr
  unfold pkv pkc at *
  have HE := Lib.hid he
  clear he
  obtain ⟨q, hq⟩ : ∃ q, (p.da == r.da) = q := ⟨_, rfl⟩
  rw [hq] at HE ⊢
  clear hq
  generalize p.da.length = m at *
  generalize r.da.length = m2 at *
  generalize (ByteArray.mk p.da.toArray) = s1 at *
  generalize (ByteArray.mk r.da.toArray) = s2 at *
  generalize p.fr = a at *
  generalize p.to = b at *
  generalize r.fr = a2 at *
  generalize r.to = b2 at *
  cases h1 : a == a2
  · go_enter Try.func22, Try.ntmps22
    go_wp2_with fail
    go_ret
    exact ⟨rfl, HB.out⟩
  · cases h2 : b == b2
    · go_enter Try.func22, Try.ntmps22
      go_wp2_with fail
      go_ret
      exact ⟨rfl, HB.out⟩
    · obtain ⟨k1, k2⟩ := HC.out
      have k3 := HE.out
      go_enter Try.func22, Try.ntmps22
      go_wp2_with fail
      go_ret
      exact ⟨rfl, HB.out⟩
end Go.Proofs.Ytojijebmipgeeaa
