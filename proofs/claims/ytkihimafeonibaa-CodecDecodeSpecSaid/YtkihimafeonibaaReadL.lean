import Derived.Test.YtkihimafeonibaaReadN
import Derived.Deep.AppendLies
namespace Go.Proofs.Ytkihimafeonibaa
open Go.RowKit
set_option linter.unusedVariables false

set_option maxRecDepth 100000 in
theorem list_bad (rd : Nat) (w : World) :
    Calls Try.prog 49 #[.pointer (some ⟨rd, 0, none⟩), .int .i64 0] w (Bad rd w) := by
  go_enter Try.func49, Try.ntmps49
  go_wp2_with fail
  exact ⟨rfl, rfl, World.grownBy.refl w _⟩

theorem ploop_step (p : List UInt8 → Option (T × List UInt8)) (ts : List T) (u j : Nat) (l : List UInt8) (h : j < u) (O : Option (List T × List UInt8))
    (hO : O = match ploop p (u - j) l with | none => none | some y => some (ts ++ y.1, y.2)) :
    (p l = none → O = none) ∧ (∀ x, p l = some x → O = match ploop p (u - (j + 1)) x.2 with | none => none | some y => some (ts ++ [x.1] ++ y.1, y.2)) := by
  rw [show u - j = (u - (j + 1)) + 1 by omega] at hO
  simp only [ploop] at hO
  refine ⟨fun hp => by rw [hO, hp], fun x hx => ?_⟩
  rw [hO, hx]
  simp only []
  cases ploop p (u - (j + 1)) x.2 with
  | none => rfl
  | some y => simp

set_option maxHeartbeats 400000 in
set_option maxRecDepth 100000 in
theorem list_any (rd : Nat) (r : Int) (l : List UInt8) (p : List UInt8 → Option (T × List UInt8)) (w : World) (hR : RS rd w l) (hl : l.length ≤ 1000000) (hr1 : 1 ≤ r) (hr2 : r ≤ 1000)
    (hp : ∀ l t r, p l = some (t, r) → r.length < l.length)
    (hV : ∀ (l : List UInt8) (w : World), RS rd w l → l.length ≤ 1000000 → Calls Try.prog 35 #[.pointer (some ⟨rd, 0, none⟩), .int .i64 (r - 1)] w (VPost rd w (p l))) :
    Calls Try.prog 49 #[.pointer (some ⟨rd, 0, none⟩), .int .i64 r] w (LPost rd w (plist p (pn 0 0 l))) := by
  obtain ⟨i0, hi0, hz0, hz1, hz2⟩ := info_parts val_info
  have hrd := hR.lt
  have HN := Lib.hid (rnum_any rd l w hR)
  have HV := Lib.hid hV
  have HP := Lib.hid hp
  have hr0 : (r == 0 : Bool) = false := by simp; omega
  have hbd : ∀ x, pn 0 0 l = some x → x.1 < 18446744073709551616 ∧ x.2.length < l.length := fun x hx => pn_lt (x := x.1) (r := x.2) hx
  have HBD := Lib.hid hbd
  generalize hOO : plist p (pn 0 0 l) = OO
  have HOO := Lib.hid hOO
  clear hR hV hp hbd hOO
  go_enter Try.func49, Try.ntmps49
  go_wp2_with fail
  refine HN.out.mono ?_
  intro e w1 hq
  cases hO : pn 0 0 l with
  | none =>
    rw [hO] at hq
    obtain ⟨rfl, hg⟩ := hq
    have HO := Lib.hid hO
    clear hO
    go_wp2_with fail
    exact ⟨rfl, by rw [← HOO.out, HO.out]; exact ⟨rfl, hg⟩⟩
  | some x =>
    obtain ⟨u, l1⟩ := x
    rw [hO] at hq
    obtain ⟨rfl, hR1, hg⟩ := hq
    simp only at hR1
    have hu := HBD.out _ hO
    simp only at hu
    have hu64 : (u : Int) ≤ 18446744073709551615 := by omega
    have hl1 := hu.2
    have HO := Lib.hid hO
    clear hO hu
    go_wp2_with fail
    go_loopw [4, 10] (fun v i wr => ∃ (j : Nat) (ts : List T) (xs : List Value) (l2 : List UInt8), i = .int .u64 j ∧ j ≤ u ∧ ts.length = j ∧ wr.ownsRow w.heap.size 24 4 v j xs ∧
      RowT (fun b => w.heap.size ≤ b ∧ v.ownBlock ≠ some b) wr ts xs ∧ RS rd wr l2 ∧ w.grownBy wr (some rd) ∧ l2.length + j ≤ l1.length ∧
      OO = (match ploop p (u - j) l2 with | none => none | some y => some (ts ++ y.1, y.2))) (fun _ i _ => u - (intOf i).toNat)
    case atStart =>
      refine ⟨0, [], [], l1, rfl, Nat.zero_le _, rfl, World.ownsRow_nil _ _ _ _, fun i t h => by simp at h, hR1, hg, by omega, ?_⟩
      rw [← HOO.out, HO.out]
      simp only [plist, Nat.sub_zero, List.nil_append]
      cases ploop p u l1 <;> rfl
    case round =>
      clear hR1 hg HN
      obtain ⟨j, ts, xs, l2, rfl, hj, hts, hown, hrow, hR2, hg2, hlen, hO2⟩ := hrel
      have HO2 := Lib.hid hO2
      have HTS := Lib.hid hts
      clear hO2 hts
      by_cases hlt : j < u
      · obtain ⟨hst1, hst2⟩ := ploop_step p ts u j l2 hlt OO HO2.out
        have HS1 := Lib.hid hst1
        have HS2 := Lib.hid hst2
        have HC := Lib.hid (HV.out l2 wr hR2 (by omega))
        clear hst1 hst2 HO2 HO HBD
        go_wp2_with fail
        refine HC.out.mono ?_
        intro e w2 hq
        cases hx : p l2 with
        | none =>
          rw [hx] at hq
          obtain ⟨rfl, hg3⟩ := hq
          have HX := Lib.hid (HS1.out hx)
          clear hx
          go_wp2_with fail
          exact ⟨rfl, by rw [HX.out]; exact ⟨rfl, grown_trans hg2 hg3⟩⟩
        | some x =>
          obtain ⟨t, l3⟩ := x
          rw [hx] at hq
          obtain ⟨v3, rfl, hrt, hR3, hg3⟩ := hq
          simp only at hrt hR3
          have hl3 := HP.out l2 t l3 hx
          have HX := Lib.hid (HS2.out _ hx)
          clear hx HS1 HS2 HC
          obtain ⟨k1, n1, s1, a1, m1, c1, rfl⟩ := hrt.form
          have hol := hown.lt
          have hz2' := hg2.size
          have hz3' := hg3.size
          have ho2 := (hown.kept hg3 (.inr (fun e => by have := hol rd e; omega))).alloc (.cells #[.int .i64 k1, .int .i64 n1, .string s1, .slice a1 m1 c1] 24)
          have fin : ∀ (g4 k4 : Nat) (w4 : World), (w2.alloc (.cells #[.int .i64 k1, .int .i64 n1, .string s1, .slice a1 m1 c1] 24)).grownBy w4 u4.ownBlock → (u4.ownBlock = some g4 ∨ g4 = w2.heap.size + 1) →
              RowT (fun b => w.heap.size ≤ b ∧ (Value.slice (some ⟨g4, 0, none⟩) (j + 1) k4).ownBlock ≠ some b) w4 (ts ++ [t]) (xs ++ [.int .i64 k1, .int .i64 n1, .string s1, .slice a1 m1 c1]) ∧ RS rd w4 l3 ∧ w.grownBy w4 (some rd) := by
            intro g4 k4 w4 hg4 hat
            have hal := World.grownBy_alloc w2 (.cells #[.int .i64 k1, .int .i64 n1, .string s1, .slice a1 m1 c1] 24) none
            have old : ∀ b, b < w2.heap.size → u4.ownBlock ≠ some b → w4.heap[b]? = w2.heap[b]? := fun b hb hne =>
              (hg4.block b (by simp; omega) (fun e => hne e.symm)).trans (hal.block b hb (by simp))
            have hown4 : ∀ b, b < w2.heap.size → u4.ownBlock ≠ some b → (Value.slice (some ⟨g4, 0, none⟩) (j + 1) k4).ownBlock ≠ some b := by
              intro b hb hne e
              simp [Value.ownBlock] at e
              subst e
              rcases hat with h | h
              · exact hne h
              · omega
            refine ⟨RowT.snoc (hrow.keep ?_) (by rw [HTS.out]; exact hown.1) (hrt.keep ?_), hR3.keep ?_, ?_⟩
            · rintro b ⟨hb1, hb2⟩ hb3
              exact ⟨⟨hb1, hown4 b (by omega) hb2⟩, (old b (by omega) hb2).trans (hg3.block b hb3 (fun e => by injection e with e; omega))⟩
            · intro b hb1 hb2
              have hne : u4.ownBlock ≠ some b := fun e => by have := hol b e; omega
              exact ⟨⟨by omega, hown4 b hb2 hne⟩, old b hb2 hne⟩
            · intro k hk
              exact old k (by omega) (fun e => by have := hol k e; omega)
            · exact grown_own (grown_trans (grown_trans hg2 hg3) (World.grownBy_alloc w2 _ _)) hg4 (fun i hi => (hol i hi).1)
          have HF := Lib.hid fin
          clear fin hrt hrow hR2 hR3
          have h63 : j + 1 ≤ maxLen := le_maxLen (by omega)
          have h47 : (j + 1) * 56 ≤ 140737488355328 := by omega
          have hone : ∀ x ∈ [Value.int .i64 k1, .int .i64 n1, .string s1, .slice a1 m1 c1], x.oneCell' = true := by simp [Value.oneCell']
          have hnw := World.news_of_block (w := w2.alloc (.cells #[.int .i64 k1, .int .i64 n1, .string s1, .slice a1 m1 c1] 24)) (B := w2.heap.size) (cs := #[.int .i64 k1, .int .i64 n1, .string s1, .slice a1 m1 c1]) (t := 24) (fr := (0, 0)) (heap_alloc_new w2 _)
          have HNW := Lib.hid hnw
          have HONE := Lib.hid hone
          clear hnw hone
          have hbase : w.heap.size ≤ (w2.alloc (.cells #[.int .i64 k1, .int .i64 n1, .string s1, .slice a1 m1 c1] 24)).heap.size := by simp; omega
          go_wp2_with (at_builtin; refine wpList_append_lies _ rfl (.tmp 12) (.tmp 17) 22 rfl w.heap.size 24 i0 _ 4 56 Try.underlying22 hi0 hz0 hz1 hz2 rfl (by decide) u4 j xs rfl ho2 ⟨w2.heap.size, 0, none⟩ 1 1 [.int .i64 k1, .int .i64 n1, .string s1, .slice a1 m1 c1] rfl rfl HNW.out HONE.out (by decide) h63 h47 hbase (w2.heap.size + 1) (by simp) ?_; intro g4 k4 w4 hown4 hg4 hat _; have hq := HF.out g4 k4 w4 hg4 hat; have HQ := Lib.hid hq; clear hq hg4 hat)
          go_roundw
          case rel => exact ⟨j + 1, ts ++ [t], _, l3, by go_num, by omega, by rw [List.length_append, HTS.out]; rfl, hown4, HQ.out.1, HQ.out.2.1, HQ.out.2.2, by omega, HX.out⟩
          case measure => simp [intOf]; omega
      · have hju : j = u := by omega
        have hx : OO = some (ts, l2) := by rw [HO2.out, hju, Nat.sub_self]; simp [ploop]
        have HX := Lib.hid hx
        obtain ⟨A1, c1, hv1⟩ := own_form hown
        subst hv1
        have fin : LPost rd w OO (.returned (.slice A1 j c1)) wr := by
          rw [hx]
          exact ⟨A1, c1, xs, by rw [HTS.out], by rw [HTS.out]; exact hown, hrow.keep (fun b hb _ => ⟨hb.1, rfl⟩), hR2, hg2⟩
        have HF := Lib.hid fin
        clear hx hju HO2 fin
        go_wp2_with fail
        go_ret
        exact HF.out
end Go.Proofs.Ytkihimafeonibaa
