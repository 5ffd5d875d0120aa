/- The examples of the chapter: what every law begins with. -/
import Derived.Test.YtkihimafeonibaaDecode2
import Derived.Test.YtkihimafeonibaaDecode3
import Derived.Test.YtkihimafeonibaaSize
import Derived.Test.YtkihimafeonibaaEqual
import Derived.LoopTactic
namespace Go.Proofs.Ytkihimafeonibaa
open Go.RowKit
set_option linter.unusedVariables false

theorem decode_any (l : List UInt8) (A : Option Addr) (c : Nat) (w : World) (hB : Bs w.heap.size w A l) (h1 : l.length ≤ c) (h2 : c ≤ maxLen) (hl : l.length ≤ 1000000) :
    Calls Try.prog 18 #[.slice A l.length c] w (DPost w (decode l)) := by
  unfold decode
  cases hp : pval 16 l with
  | none => exact decode_none l A c w hB h1 h2 hl hp
  | some x =>
    obtain ⟨t, r⟩ := x
    simp only
    by_cases hr : r = []
    · subst hr
      rw [if_pos rfl]
      exact decode_good l A c w hB h1 h2 hl t hp
    · rw [if_neg hr]
      exact decode_more l A c w hB h1 h2 hl t r hp hr

/-- A row of the call's own, as bytes that came in. -/
theorem Bs.of_own {w : World} {B c : Nat} {A : Option Addr} {l : List UInt8} (h : w.ownsRow B 5 1 (.slice A l.length c) l.length (l.map bv)) : Bs w.heap.size w A l ∧ l.length ≤ c ∧ c ≤ maxLen := by
  rcases h.2 with ⟨hv, hn⟩ | ⟨g, cap, cur, hv, hbg, hg, h1, h2, _⟩
  · injection hv with hA hl hc
    exact ⟨fun hp => absurd hp (by omega), by omega, by omega⟩
  · injection hv with hA hl hc
    subst hA hc
    refine ⟨fun hp => ⟨g, 0, rfl, heap_lt hg, fun j u hu => ?_⟩, h1, h2⟩
    have := h.cells (g := g) rfl j (bv u) (by simp [hu])
    rw [add_off] at this
    exact this

/-- []byte(s). -/
theorem conv_str (w : World) (s : ByteArray) (hs : s.size ≤ maxLen) : ∃ c w', (convert 9 27 (.string s)).run Try.prog w = .ok (.slice (some ⟨w.heap.size, 0, none⟩) s.size c) w' ∧ Below w.heap.size w w' ∧
    Bs w'.heap.size w' (some ⟨w.heap.size, 0, none⟩) s.data.toList ∧ s.size ≤ c ∧ c ≤ maxLen := by
  refine ⟨_, _, run_bytes_of_string w _ _ _ s Try.underlying9 Try.underlying27 Try.underlying5, ?_, ?_, ?_, ?_⟩
  · exact ((Below.refl w.heap.size w).drew).alloc (Nat.le_refl _) _
  · intro hp
    refine ⟨w.heap.size, 0, rfl, by simp, fun j u hu => ?_⟩
    have hc := World.cell?_alloc_mark w.drew (bytesRow s (grownCap w s.size 0 5)) 5 ((bytesRow s (grownCap w s.size 0 5)).size, (bytesRow s (grownCap w s.size 0 5)).size + 1) j
    rw [Nat.zero_add]
    refine hc.trans ?_
    have hj : j < s.data.size := by
      have := (List.getElem?_eq_some_iff.1 hu).1
      simpa using this
    unfold bytesRow
    rw [Array.getElem?_append_left (by simpa using hj), Array.getElem?_map]
    have : s.data[j]? = some u := by simpa using hu
    rw [this]
    rfl
  · exact grownCap_ge w s.size 0 _
  · exact grownCap_le_maxLen w s.size 0 _ hs

/-- The four encodings of the chapter that are none. -/
def badStr : Nat → ByteArray
  | 0 => ⟨#[]⟩
  | 1 => ⟨#[1, 128, 0]⟩
  | 2 => ⟨#[1, 5, 0]⟩
  | _ => ⟨#[2, 3, 97]⟩
theorem bad_none (j : Nat) : decode (badStr j).data.toList = none := by
  match j with
  | 0 => rfl
  | 1 => rfl
  | 2 => rfl
  | _ + 3 => rfl
theorem bad_size (j : Nat) : (badStr j).size ≤ 3 := by
  match j with
  | 0 => decide
  | 1 => decide
  | 2 => decide
  | _ + 3 => exact (by decide : (ByteArray.mk #[2, 3, 97]).size ≤ 3)

/-- The list of 100 and ab. -/
def tV : T := .mk 3 0 ⟨#[]⟩ 2 (fun i => if i = 0 then tInt 100 else tText [97, 98])
theorem enc_m3 : enc (tInt (-3)) = [1, 5] := by rfl
theorem enc_tV : enc tV = [3, 2, 1, 200, 1, 2, 2, 97, 98] := by rfl
theorem dec_eq : decode [3, 2, 1, 200, 1, 2, 2, 97, 98] = some (tList [tInt 100, tText [97, 98]]) := by rfl
theorem dec_same : same tV (tList [tInt 100, tText [97, 98]]) = true := by
  simp [same, tV, tList, tInt, tText, allTo]
theorem chk_m3 : chk (tInt (-3)) = 0 := by
  simp [chk, wfB, tInt, dep]
theorem chk_tV : chk tV = 0 := by
  simp [chk, wfB, tV, tInt, tText, dep, allTo, maxTo]
theorem same_empty : same (tText []) (tList []) = false := by
  simp [same, tList, tText]
end Go.Proofs.Ytkihimafeonibaa
