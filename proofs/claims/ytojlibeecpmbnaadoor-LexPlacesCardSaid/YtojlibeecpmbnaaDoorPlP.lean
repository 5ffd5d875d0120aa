/- Plain facts of the places of tokens. -/
import Derived.Test.YtojlibeecpmbnaaDoorPlG
namespace Go.Proofs.YtojlibeecpmbnaaDoor
set_option linter.unusedVariables false
set_option linter.unusedSimpArgs false

/-- The tokens stand at their places, with gaps between them. -/
def Pla (s : List UInt8) : Nat → List Tk → Prop
  | i, [] => gp false (s.drop i) ≠ none
  | i, t :: r => ∃ q : Nat, i ≤ q ∧ t.p = (q : Int) ∧ gp false ((s.drop i).take (q - i)) = some false ∧ (∀ b, s[q]? = some b → isSp b = false) ∧ 0 < (txk t).length ∧ q + (txk t).length ≤ s.length ∧ (s.drop q).take (txk t).length = txk t ∧ Pla s (q + (txk t).length) r
theorem take_tw (p : UInt8 → Bool) (l : List UInt8) : l.take (l.takeWhile p).length = l.takeWhile p := (List.prefix_iff_eq_take.1 (List.takeWhile_prefix p)).symm
theorem tok_text {s : List UInt8} {i m : Nat} {k n : Int} {t : List UInt8} {c : UInt8} (hc : s[i]? = some c) (h : st (s.drop i) = .tok k t n m) : isSp c = false ∧ txk ⟨k, t, n, (i : Int)⟩ = (s.drop i).take m ∧ m ≤ (s.drop i).length := by
  have hne : s.drop i ≠ [] := by rw [drop_at hc]; simp
  have hm := st_tok hne h
  refine ⟨?_, ?_, hm.2⟩
  · cases hs : isSp c with
    | false => rfl
    | true => rw [st_sp hc hs] at h; cases h
  · rw [st_at hc] at h
    rcases cl7 c with e | e | e | e | e | e | e <;> rw [e] at h
    · cases h
    · cases h
    · rw [stc2] at h
      split at h
      · cases h; exact (take_tw isP _).symm
      · cases h
    · rw [stc3] at h
      split at h
      next n' hn =>
        cases h
        have h0 : 0 < ((s.drop i).takeWhile isD).length := hm.1
        show (if (2 : Int) = 2 then Lib.itoa (n' : Int) else _) = _
        rw [if_pos rfl, itoa_nat (show (0 : Int) ≤ (n' : Int) by omega), show ((n' : Int)).toNat = n' from rfl, num_back h0 List.all_takeWhile hn]
        exact (take_tw isD _).symm
      · cases h
    · cases h
    · cases h; rfl
    · rw [stc6] at h
      split at h
      · cases h
      · cases h; rfl
/-- What is skipped: a space, or a comment up to the end of its line. -/
theorem skip_piece {s : List UInt8} {i m : Nat} {c : UInt8} (hc : s[i]? = some c) (h : st (s.drop i) = .skip m) :
    ∃ X, s.drop i = X ++ s.drop (i + m) ∧ X.length = m ∧ ((∀ G, gp false (X ++ G) = gp false G) ∨ ((∀ G, gp false (X ++ G) = gp true G) ∧ ∀ b, s[i + m]? = some b → b = 10)) := by
  have hne : s.drop i ≠ [] := by rw [drop_at hc]; simp
  have hm := st_skip hne h
  have hsp : s.drop i = (s.drop i).take m ++ s.drop (i + m) := by rw [← List.drop_drop, List.take_append_drop]
  refine ⟨(s.drop i).take m, hsp, by rw [List.length_take]; omega, ?_⟩
  rw [st_at hc] at h
  rcases cl7 c with e | e | e | e | e | e | e <;> rw [e] at h
  · cases h
  · cases h
    left
    intro G
    have hs : isSp c = true := by
      have := u8_all (fun b => decide (cl b = 1 → isSp b = true)) (by decide +kernel) c
      exact of_decide_eq_true this e
    rw [drop_at hc]
    exact gp_sp hs G
  · rw [stc2] at h; split at h <;> cases h
  · rw [stc3] at h; split at h <;> cases h
  · cases h
  · cases h
  · rw [stc6] at h
    split at h
    next h2 =>
      cases h
      right
      refine ⟨fun G => ?_, fun b hb => ?_⟩
      · rw [take_tw]
        obtain ⟨Y, hY⟩ : ∃ Y, s.drop i = 47 :: 47 :: Y := ⟨(s.drop i).drop 2, by
          have := List.take_append_drop 2 (s.drop i)
          rw [h2] at this
          exact this.symm⟩
        have ha : ((s.drop i).takeWhile noLf).all noLf = true := List.all_takeWhile
        rw [hY, tw_cons rfl, tw_cons rfl] at ha ⊢
        exact gp_com ha
      · have h3 : (s.drop i).drop ((s.drop i).takeWhile noLf).length = (s.drop i).dropWhile noLf := by
          have h4 := List.takeWhile_append_dropWhile (p := noLf) (l := s.drop i)
          have h7 : ((s.drop i).takeWhile noLf ++ (s.drop i).dropWhile noLf).drop ((s.drop i).takeWhile noLf).length = (s.drop i).dropWhile noLf := List.drop_left' rfl
          rwa [h4] at h7
        have h5 : ((s.drop i).dropWhile noLf).head? = some b := by
          rw [← h3, List.head?_drop, List.getElem?_drop]
          exact hb
        have h6 : noLf b = false := by
          have := List.head?_dropWhile_not noLf (s.drop i)
          rw [h5] at this
          simpa using this
        have := u8_all (fun b => decide (noLf b = false → b = 10)) (by decide +kernel) b
        exact of_decide_eq_true this h6
    · cases h
theorem pla_skip {s : List UInt8} {i m : Nat} {X : List UInt8} (hX : s.drop i = X ++ s.drop (i + m)) (hm : X.length = m) (hle : i + m ≤ s.length)
    (hp : (∀ G, gp false (X ++ G) = gp false G) ∨ ((∀ G, gp false (X ++ G) = gp true G) ∧ ∀ b, s[i + m]? = some b → b = 10)) (ts : List Tk) (h : Pla s (i + m) ts) : Pla s i ts := by
  cases ts with
  | nil =>
    show gp false (s.drop i) ≠ none
    have h : gp false (s.drop (i + m)) ≠ none := h
    rw [hX]
    rcases hp with hp | ⟨hp, h10⟩
    · rw [hp]; exact h
    · rw [hp]
      by_cases hn : s.drop (i + m) = []
      · rw [hn]; simp [gp]
      · rw [gp_same (fun b hb => h10 b (by rw [List.head?_drop] at hb; exact hb)) hn]
        exact h
  | cons t r =>
    obtain ⟨q, hq, hp1, hg, hsp, h0, hl, ht, hr⟩ := h
    refine ⟨q, by omega, hp1, ?_, hsp, h0, hl, ht, hr⟩
    have hG : (s.drop i).take (q - i) = X ++ (s.drop (i + m)).take (q - (i + m)) := by
      rw [hX, List.take_append, List.take_of_length_le (by omega), hm, show q - i - m = q - (i + m) by omega]
    rw [hG]
    rcases hp with hp | ⟨hp, h10⟩
    · rw [hp]; exact hg
    · rw [hp]
      rcases Nat.lt_or_ge (i + m) q with hlt | hge
      · obtain ⟨d, hd⟩ : ∃ d, s[i + m]? = some d := ⟨_, List.getElem?_eq_getElem (by omega)⟩
        have hh : (s.drop (i + m)).take (q - (i + m)) = d :: (s.drop (i + m + 1)).take (q - (i + m) - 1) := by
          rw [drop_at hd]
          obtain ⟨y, hy⟩ : ∃ y, q - (i + m) = y + 1 := ⟨q - (i + m) - 1, by omega⟩
          rw [hy]
          rfl
        rw [gp_same (fun b hb => by rw [hh] at hb; cases hb; exact h10 d hd) (by rw [hh]; simp)]
        exact hg
      · obtain rfl : q = i + m := by omega
        obtain ⟨d, hd⟩ : ∃ d, s[i + m]? = some d := ⟨_, List.getElem?_eq_getElem (by omega)⟩
        have h1 := hsp d hd
        rw [h10 d hd] at h1
        cases h1
theorem pla_any (s : List UInt8) : ∀ (n i : Nat) (ts : List Tk), s.length - i ≤ n → i ≤ s.length → lxr s i = .ok ts → Pla s i ts
  | n, i, ts, hn, hi, h => by
    rcases Nat.lt_or_ge i s.length with hlt | hge
    case inr =>
      rw [lxr_end s i hge] at h
      cases h
      show gp false (s.drop i) ≠ none
      rw [List.drop_eq_nil_of_le hge]
      simp [gp]
    obtain ⟨c, hc⟩ : ∃ c, s[i]? = some c := ⟨_, List.getElem?_eq_getElem hlt⟩
    cases n with
    | zero => omega
    | succ n =>
    cases hst : st (s.drop i) with
    | bad => rw [lxr_bad hlt hst] at h; cases h
    | skip m =>
      obtain ⟨h1, h2, h3⟩ := lxr_skip hlt hst
      obtain ⟨X, hX, hm, hp⟩ := skip_piece hc hst
      rw [h3] at h
      exact pla_skip hX hm h2 hp ts (pla_any s n (i + m) ts (by omega) h2 h)
    | tok k t nn m =>
      obtain ⟨h1, h2, h3⟩ := lxr_tok hlt hst
      obtain ⟨hs, htx, hml⟩ := tok_text hc hst
      rw [h3] at h
      cases hr : lxr s (i + m) with
      | no j => rw [hr] at h; cases h
      | ok r =>
        rw [hr] at h
        have hts : ts = ⟨k, t, nn, (i : Int)⟩ :: r := by
          have : Rs.ok ([⟨k, t, nn, (i : Int)⟩] ++ r) = .ok ts := h
          injection this with e
          exact e.symm
        subst hts
        have hlen : (txk ⟨k, t, nn, (i : Int)⟩).length = m := by rw [htx, List.length_take]; omega
        refine ⟨i, Nat.le_refl _, rfl, by rw [Nat.sub_self, List.take_zero]; rfl, fun b hb => by rw [hc] at hb; cases hb; exact hs, by omega, by omega, by rw [hlen, htx], ?_⟩
        rw [hlen]
        exact pla_any s n (i + m) r (by omega) h2 hr
theorem places_all {s : List UInt8} {ts : List Tk} (h : lex s = .ok ts) : Pla s 0 ts := pla_any s s.length 0 ts (by omega) (Nat.zero_le _) (by rw [lxr_zero]; exact h)
end Go.Proofs.YtojlibeecpmbnaaDoor
