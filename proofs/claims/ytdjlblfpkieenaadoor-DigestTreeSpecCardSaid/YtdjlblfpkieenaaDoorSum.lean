/- Sum. -/
import Derived.Test.YtdjlblfpkieenaaDoorLast
namespace Go.Proofs.YtdjlblfpkieenaaDoor
open Go.RowKit
set_option linter.unusedVariables false

theorem last_length (S : Nat) (l : List UInt8) (n : Nat) (h : l.length + 9 ≤ S) : (last S l n).length = S := by
  simp [last, be_length]
  omega
def LastPost (l : List UInt8) (n : Nat) (w : World) (e : Ending) (w' : World) : Prop :=
  ∃ S k, S = 64 * k ∧ l.length + 9 ≤ S ∧ S ≤ 128 ∧ S - l.length - 9 = gap n ∧ e = .returned (.slice (some ⟨w.heap.size, 0, none⟩) S S) ∧ Box w' w.heap.size (rowOf (last S l n)) 5 ∧ Below w.heap.size w w'
theorem last_any (A : Option Addr) (c n : Nat) (l : List UInt8) (w : World) (hB : Bs w.heap.size w A l) (hl : l.length = n % 64) (h1 : l.length ≤ c) (h2 : c ≤ maxLen) :
    Calls Tryd.prog 29 #[.slice A l.length c, .int .u64 n] w (LastPost l n w) := by
  by_cases h : l.length ≤ 55
  · exact (last64_any A c n l w hB h h1 h2).mono fun e w' ⟨he, hb, hw⟩ => ⟨64, 1, rfl, by omega, by omega, by unfold gap; omega, he, hb, hw⟩
  · exact (last128_any A c n l w hB (by omega) (by omega) h1 h2).mono fun e w' ⟨he, hb, hw⟩ => ⟨128, 2, rfl, by omega, by omega, by unfold gap; omega, he, hb, hw⟩

theorem sha_parts (l : List UInt8) (q S k : Nat) (hq : q = l.length / 64) (hS : S = 64 * k) (hl : (l.drop (64 * q)).length + 9 ≤ S) (hg : S - (l.drop (64 * q)).length - 9 = gap l.length) :
    sha l = bytes8 (blocks k (last S (l.drop (64 * q)) l.length) (blocks q (l.take (64 * q)) s0)) := by
  have hp : pad l = l.take (64 * q) ++ last S (l.drop (64 * q)) l.length := by
    unfold pad last
    rw [hg, ← List.append_assoc, List.take_append_drop, Nat.mul_comm 8]
  have h1 : (l.take (64 * q)).length = 64 * q := by rw [List.length_take]; omega
  have h2 : (pad l).length / 64 = q + k := by
    rw [hp, List.length_append, h1, last_length _ _ _ hl]
    omega
  unfold sha
  rw [h2, hp, blocks_append q k _ _ _ h1]

/-- What a hash leaves. -/
def HashPost (l : List UInt8) (w : World) (e : Ending) (w' : World) : Prop := e = .returned (.agg (dcells (sha l))) ∧ Below w.heap.size w w'

set_option maxHeartbeats 1000000 in
set_option maxRecDepth 100000 in
theorem sum_any (A : Option Addr) (c : Nat) (l : List UInt8) (w : World) (hK : KT w) (hB : Bs w.heap.size w A l) (h1 : l.length ≤ c) (h2 : c ≤ maxLen) :
    Calls Tryd.prog 12 #[.slice A l.length c] w (HashPost l w) := by
  have HM := Lib.hid h2
  unfold maxLen at h2
  obtain ⟨q, hq⟩ : ∃ q, q = l.length / 64 := ⟨_, rfl⟩
  have hz : Box (w.alloc (.cells (bcells []) 26)) w.heap.size (bcells []) 26 := Box.new w _ _
  have hbz := (Below.refl w.heap.size w).alloc (Nat.le_refl _) (.cells (bcells []) 26)
  have HZ := Lib.hid (And.intro hz hbz)
  have HK := Lib.hid hK
  have HB := Lib.hid hB
  have hlen1 : (l.take (64 * q)).length = 64 * q := by rw [List.length_take]; omega
  have hlen2 : (l.drop (64 * q)).length = l.length - 64 * q := by rw [List.length_drop]
  have HL1 := Lib.hid hlen1
  have HL2 := Lib.hid hlen2
  have HSP := Lib.hid (fun S k => sha_parts l q S k hq)
  clear hz hbz hK hB hlen1 hlen2
  have hw : (l.length : Int) - (l.length : Int) % 64 = ((64 * q : Nat) : Int) := by omega
  have hWl : 64 * q ≤ l.length := by omega
  have hr : l.length - 64 * q = l.length % 64 := by omega
  generalize hm : l.length = m at *
  have HMM := Lib.hid hm
  have HR := Lib.hid hr
  have HW : Hid (64 * q = 64 * q) := rfl
  generalize hWd : 64 * q = W at *
  have HWD := Lib.hid hWd
  clear hm hq hr hWd HW
  go_enter Tryd.func12, Tryd.ntmps12
  go_wp2_with fail
  generalize hW0 : w.alloc _ = W0
  have hbr : Box W0 w.heap.size (bcells []) 26 := by rw [← hW0]; exact HZ.out.1
  have hb0 : Below w.heap.size w W0 := by rw [← hW0]; exact HZ.out.2
  clear hW0 HZ
  refine (start_any _).mono ?_
  rintro e w1 ⟨rfl, hS1, hb1⟩
  have hbw1 := bthen hb0 hb1
  have hbr1 := hbr.below hb1
  have hgh : w.heap.size < W0.heap.size := hbr.lt
  generalize W0.heap.size = h at *
  have hKT1 := HK.out.below hbw1
  have hB1 := HB.out.below (Nat.le_refl _) hbw1
  have hne1 : 0 < l.length → ∀ b off, A = some ⟨b, off, none⟩ → b ≠ h := by
    intro hl b off e
    obtain ⟨b', off', e', hlt, _⟩ := HB.out hl
    rw [e] at e'
    injection e' with e'
    injection e' with e1
    omega
  clear hb0 hb1 hbr
  have HA1 := absorbAll_any h q A c (l.take W) s0 w1 hKT1 (by omega) hS1 (hB1.take.more hbw1.size) (fun hl => hne1 (by rw [List.length_take] at hl; omega)) (by rw [HL1.out, HWD.out]) (by rw [HL1.out]; omega) HM.out
  rw [HL1.out] at HA1
  have HA1 := Lib.hid HA1
  have HB1 := Lib.hid hB1
  have HNE1 := Lib.hid hne1
  clear hS1 hKT1 hB1 hne1
  go_wp2_with fail
  refine HA1.out.mono ?_
  rintro e w2 ⟨rfl, hS2, hg2⟩
  have hbw2 : Below w.heap.size w w2 := hbw1.trans (below_grown hg2 (Nat.le_of_lt hgh) hbw1.size)
  have hbr2 := hbr1.grown hg2 (fun e => by injection e with e; omega)
  have hB2 : Bs w.heap.size w2 A l := HB.out.below (Nat.le_refl _) hbw2
  have hS2z := hS2.lt
  have hla : c = W → ∀ c', m - W ≤ c' → c' ≤ maxLen → Calls Tryd.prog 29 #[.slice A (m - W) c', .int .u64 m] w2 (LastPost (l.drop W) m w2) := by
    intro hcw c' h3 h4
    have hlz : l.drop W = [] := List.drop_of_length_le (by rw [HMM.out]; omega)
    have := last_any A c' m (l.drop W) w2 (by rw [hlz]; exact Bs.none_) (by rw [HL2.out, HR.out]) (by rw [HL2.out]; exact h3) h4
    rw [HL2.out] at this
    exact this
  have hlb : ∀ c', m - W ≤ c' → c' ≤ maxLen → Calls Tryd.prog 29 #[.slice (A.map (fun x => x.add W)) (m - W) c', .int .u64 m] w2 (LastPost (l.drop W) m w2) := by
    intro c' h3 h4
    have := last_any (A.map (fun x => x.add W)) c' m (l.drop W) w2 (hB2.drop.more hbw2.size) (by rw [HL2.out, HR.out]) (by rw [HL2.out]; exact h3) h4
    rw [HL2.out] at this
    exact this
  have HLA := Lib.hid hla
  have HLB := Lib.hid hlb
  clear hbr1 hB2 hg2 hla hlb
  go_wp2_with fail
  refine (HLA.out h _ (by omega) (by unfold maxLen; omega)).mono ?_
  rotate_left
  refine (HLB.out _ (by omega) (by unfold maxLen; omega)).mono ?_
  all_goals
    rintro e w3 ⟨S, k, hSk, hS9, hS128, hgap, rfl, hb3, hb23⟩
    have hbw3 := hbw2.trans (hb23.mono hbw2.size)
    have hbr3 := hbr2.below hb23
    have hS3 := hS2.below hb23
    have hsha := HSP.out S k hSk hS9 hgap
    have hlast := last_length S (l.drop W) m hS9
    have HA2 := absorbAll_any _ k (some ⟨w2.heap.size, 0, none⟩) S (last S (l.drop W) m) _ w3 (HK.out.below hbw3) (Nat.lt_of_le_of_lt (Nat.zero_le _) hgh) hS3 (Bs.of_box hb3) (fun _ b off e => by injection e with e; injection e with e1; omega) (hlast.trans hSk) (by omega) (by unfold maxLen; omega)
    rw [hlast] at HA2
    have HA2 := Lib.hid HA2
    have HSHA := Lib.hid hsha
    clear hsha hlast hS3 hb3 hb23 hSk hS9 hgap HLA HLB HA1 hS2 hbr2 hbw2
    go_wp2_with fail
    refine HA2.out.mono ?_
    rintro e w4 ⟨rfl, hS4, hg4⟩
    have hbw4 : Below w.heap.size w w4 := hbw3.trans (below_grown hg4 (Nat.le_of_lt hgh) hbw3.size)
    have hbr4 := hbr3.grown hg4 (fun e => by injection e with e; omega)
    have HD := digest_any _ _ w4 hS4
    rw [← HSHA.out] at HD
    have HD := Lib.hid HD
    clear hbr3 hbw3 hg4 hS4 HA2
    go_wp2_with fail
    refine HD.out.mono ?_
    rintro e w5 ⟨rfl, hb5⟩
    have hbw5 := hbw4.trans (hb5.mono hbw4.size)
    have hbr5 := hbr4.below hb5
    have hsz : (dcells (sha l)).size = 32 := by simp [dcells, sha_length]
    have hi := size32 hsz
    have hone : (dcells (sha l)).all (·.oneCell') = true := by rw [← bcells_full _ (sha_length l)]; exact bcells_one _
    generalize hCS : dcells (sha l) = CS at *
    have HCS := Lib.hid hCS
    have HI := Lib.hid hi
    have HONE := Lib.hid hone
    have HSZ := Lib.hid hsz
    have HBX := Lib.hid hbr5
    clear hsz hi hone hCS hbr5 hbr4 hb5 hbw4 HD
    go_wp2_with (first | (refine wpList_store_row rfl 26 (.tmp 2) (.tmp 27) rfl w.heap.size CS rfl rfl 26 (bcells []) HBX.out HI.out HSZ.out.symm HONE.out ?_))
    refine bodyPost_ret (v := .agg CS) ?_ rfl ?_
    · exact results_cell_row Tryd.results12 _ _ w.heap.size 26 CS (0, 0) _ rfl (Box.setRow HBX.out) Tryd.underlying26 rfl HI.out
    · exact ⟨by rw [HCS.out], hbw5.trans (below_grown (setRow_grown w5 w.heap.size CS) (Nat.le_refl _) hbw5.size)⟩
end Go.Proofs.YtdjlblfpkieenaaDoor
