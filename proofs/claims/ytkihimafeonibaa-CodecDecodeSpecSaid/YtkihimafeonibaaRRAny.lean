/- The reference's reader: Value. -/
import Derived.Test.YtkihimafeonibaaRRLst3
namespace Go.Proofs.Ytkihimafeonibaa
open Go.RowKit
set_option linter.unusedVariables false

theorem ploop_none {P : List UInt8 → Option (T × List UInt8)} (hp : ∀ l t r, P l = some (t, r) → r.length < l.length) {u : Nat} {l : List UInt8} (h : l.length < u) : ploop P u l = none := by
  cases hx : ploop P u l with
  | none => rfl
  | some y =>
    have := ploop_len hp u l y.1 y.2 hx
    omega

theorem rv_any (h : Nat) (A : Option Addr) (c : Nat) (L : List UInt8) (hL : L.length ≤ 1000000) : ∀ (room : Nat), room ≤ 16 → ∀ (p : Nat) (w : World), RR h w A c L p false →
    Calls Try.prog 36 #[.pointer (some ⟨h, 0, none⟩), .int .i64 (16 - (room : Int))] w (RVPost h A c L w (pval room (L.drop p))) := by
  intro room
  induction room with
  | zero =>
    intro _ p w hR
    by_cases hp : L.length ≤ p
    · rw [List.drop_eq_nil_of_le hp]
      exact rv_end h A c L p _ w hR hp
    · have hp' : p < L.length := by omega
      have hd : L[p]? = some L[p] := List.getElem?_eq_getElem hp'
      have hdr : L.drop p = L[p] :: L.drop (p + 1) := List.drop_eq_getElem_cons hp'
      generalize L[p] = d at *
      rw [hdr]
      simp only [pval]
      by_cases h1 : d.toNat = 1
      · rw [if_pos h1]
        exact rv_int h A c L p _ d w hR hd h1
      · rw [if_neg h1]
        by_cases h2 : d.toNat = 2
        · rw [if_pos h2]
          by_cases hb : ∀ u l1, pn 0 0 (L.drop (p + 1)) = some (u, l1) → l1.length < u
          · exact rv_text_bad h A c L p _ d w hR hd h2 hL hb
          · obtain ⟨u, hb⟩ := Classical.not_forall.1 hb
            obtain ⟨l1, hb⟩ := Classical.not_forall.1 hb
            have hO : pn 0 0 (L.drop (p + 1)) = some (u, l1) := Classical.byContradiction fun hn => hb (fun he => absurd he hn)
            exact rv_text_good h A c L p _ d w hR hd h2 hL u l1 hO (fun hl => hb (fun _ => hl))
        · rw [if_neg h2]
          by_cases h3 : d.toNat = 3
          · exact rv_list_bad h A c L p _ d w hR hd h3 hL (fun _ _ _ => .inr (by omega))
          · exact rv_other h A c L p _ d w hR hd h1 h2 h3
  | succ room ih =>
    intro hr p w hR
    by_cases hp : L.length ≤ p
    · rw [List.drop_eq_nil_of_le hp]
      exact rv_end h A c L p _ w hR hp
    · have hp' : p < L.length := by omega
      have hd : L[p]? = some L[p] := List.getElem?_eq_getElem hp'
      have hdr : L.drop p = L[p] :: L.drop (p + 1) := List.drop_eq_getElem_cons hp'
      generalize L[p] = d at *
      rw [hdr]
      simp only [pval]
      by_cases h1 : d.toNat = 1
      · rw [if_pos h1]
        exact rv_int h A c L p _ d w hR hd h1
      · rw [if_neg h1]
        by_cases h2 : d.toNat = 2
        · rw [if_pos h2]
          by_cases hb : ∀ u l1, pn 0 0 (L.drop (p + 1)) = some (u, l1) → l1.length < u
          · exact rv_text_bad h A c L p _ d w hR hd h2 hL hb
          · obtain ⟨u, hb⟩ := Classical.not_forall.1 hb
            obtain ⟨l1, hb⟩ := Classical.not_forall.1 hb
            have hO : pn 0 0 (L.drop (p + 1)) = some (u, l1) := Classical.byContradiction fun hn => hb (fun he => absurd he hn)
            exact rv_text_good h A c L p _ d w hR hd h2 hL u l1 hO (fun hl => hb (fun _ => hl))
        · rw [if_neg h2]
          by_cases h3 : d.toNat = 3
          · rw [if_pos h3]
            have hlen := pval_len room
            cases hO : pn 0 0 (L.drop (p + 1)) with
            | none => exact rv_list_bad h A c L p _ d w hR hd h3 hL (fun u l1 he => by rw [hO] at he; cases he)
            | some x =>
              obtain ⟨u, l1⟩ := x
              show Calls _ _ _ w (RVPost h A c L w (tlist (ploop (pval room) u l1)))
              by_cases hb : l1.length < u
              · rw [ploop_none hlen hb]
                exact rv_list_bad h A c L p _ d w hR hd h3 hL (fun u' l1' he => by rw [hO] at he; injection he with he; injection he with e1 e2; subst e1 e2; exact .inl hb)
              · refine rv_list_good h A c L p _ d w hR hd h3 hL u l1 hO hb (by omega) (by omega) (pval room) hlen ?_
                intro q w' hq
                have := ih (by omega) q w' hq
                rw [show (16 : Int) - ((room + 1 : Nat) : Int) + 1 = 16 - (room : Int) by omega]
                exact this
          · rw [if_neg h3]
            exact rv_other h A c L p _ d w hR hd h1 h2 h3
end Go.Proofs.Ytkihimafeonibaa
