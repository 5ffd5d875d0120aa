/- DigestHalves. -/
import Derived.Test.YtgmhkippdnjbmaaDoorDgs2
import Derived.Test.YtgmhkippdnjbmaaDoorRel
namespace Go.Proofs.YtgmhkippdnjbmaaDoor
open Go.RowKit Go.Sort
set_option linter.unusedVariables false

/-- What lasts: the table, what was there, the digests. -/
structure HF (w : World) (A : Option Addr) (ds : List (List UInt8)) (W : World) : Prop where
  K : KT W
  B : Below w.heap.size w W
  D : Ds W.heap.size W A ds
theorem HF.up {w : World} {A : Option Addr} {ds : List (List UInt8)} {W W' : World} (h : HF w A ds W) (hb : Below W.heap.size W W') : HF w A ds W' :=
  ⟨h.K.below hb, h.B.trans (hb.mono h.B.size), h.D.up hb⟩
theorem half_eq (j n : Nat) (h1 : 2 ^ j < n) (h2 : n ≤ 2 ^ (j + 1)) : half n = 2 ^ j := by
  unfold half
  congr 1
  exact (Nat.log2_eq_iff (by omega)).2 ⟨by omega, by omega⟩

/-- .. and the digests of both halves. -/
structure GF (w : World) (A : Option Addr) (ds : List (List UInt8)) (g8 g9 : Nat) (M1 M2 : List UInt8) (W : World) : Prop where
  F : HF w A ds W
  X1 : Box W g8 (dcells M1) 26
  X2 : Box W g9 (dcells M2) 26
theorem GF.up {w : World} {A : Option Addr} {ds : List (List UInt8)} {g8 g9 : Nat} {M1 M2 : List UInt8} {W W' : World} (h : GF w A ds g8 g9 M1 M2 W) (hb : Below W.heap.size W W') : GF w A ds g8 g9 M1 M2 W' :=
  ⟨h.F.up hb, h.X1.below hb, h.X2.below hb⟩
/-- What the operations of 'a, b := Tree(l[:k]), Tree(l[k:])' leave. -/
def phi12 (b off n c1 k : Nat) (C1 C2 : Array Value) (B0 : Nat) : Nat → Value → World → Prop
  | 0, v, _ => v = .slice (some ⟨b, off, none⟩) n c1
  | 1, v, _ => v = .int .i64 k
  | 2, v, _ => v = .slice (some ⟨b, off, none⟩) k c1
  | 3, v, _ => v = .agg C1
  | 4, v, _ => v = .slice (some ⟨b, off, none⟩) n c1
  | 5, v, _ => v = .int .i64 k
  | 6, v, _ => v = .slice (some ⟨b, off + k * 32, none⟩) (n - k) (c1 - k)
  | 7, v, _ => v = .agg C2
  | 8, v, W => ∃ g, v = .pointer (some ⟨g, 0, none⟩) ∧ B0 ≤ g ∧ Box W g dz 26
  | 9, v, W => ∃ g, v = .pointer (some ⟨g, 0, none⟩) ∧ B0 ≤ g ∧ Box W g dz 26
  | _, _, _ => True
theorem phi12_lasts {b off n c1 k : Nat} {C1 C2 : Array Value} {B0 : Nat} : ∀ (i : Nat) (v : Value) (w w' : World), phi12 b off n c1 k C1 C2 B0 i v w → Below w.heap.size w w' → phi12 b off n c1 k C1 C2 B0 i v w'
  | 0, _, _, _, h, _ => h
  | 1, _, _, _, h, _ => h
  | 2, _, _, _, h, _ => h
  | 3, _, _, _, h, _ => h
  | 4, _, _, _, h, _ => h
  | 5, _, _, _, h, _ => h
  | 6, _, _, _, h, _ => h
  | 7, _, _, _, h, _ => h
  | 8, _, _, _, ⟨g, h1, h2, h3⟩, hb => ⟨g, h1, h2, h3.below hb⟩
  | 9, _, _, _, ⟨g, h1, h2, h3⟩, hb => ⟨g, h1, h2, h3.below hb⟩
  | _ + 10, _, _, _, _, _ => trivial
section
variable {b off n c1 k : Nat} {C1 C2 : Array Value} {B0 : Nat}
theorem phi12_0 : ∀ v w, phi12 b off n c1 k C1 C2 B0 0 v w → v = .slice (some ⟨b, off, none⟩) n c1 := fun _ _ h => h
theorem phi12_1 : ∀ v w, phi12 b off n c1 k C1 C2 B0 1 v w → v = .int .i64 k := fun _ _ h => h
theorem phi12_2 : ∀ v w, phi12 b off n c1 k C1 C2 B0 2 v w → v = .slice (some ⟨b, off, none⟩) k c1 := fun _ _ h => h
theorem phi12_3 : ∀ v w, phi12 b off n c1 k C1 C2 B0 3 v w → v = .agg C1 := fun _ _ h => h
theorem phi12_7 : ∀ v w, phi12 b off n c1 k C1 C2 B0 7 v w → v = .agg C2 := fun _ _ h => h
theorem phi12_8 : ∀ v w, phi12 b off n c1 k C1 C2 B0 8 v w → ∃ g, v = .pointer (some ⟨g, 0, none⟩) ∧ B0 ≤ g ∧ Box w g dz 26 := fun _ _ h => h
theorem phi12_9 : ∀ v w, phi12 b off n c1 k C1 C2 B0 9 v w → ∃ g, v = .pointer (some ⟨g, 0, none⟩) ∧ B0 ≤ g ∧ Box w g dz 26 := fun _ _ h => h
theorem phi12_4 : ∀ v w, phi12 b off n c1 k C1 C2 B0 4 v w → v = .slice (some ⟨b, off, none⟩) n c1 := fun _ _ h => h
theorem phi12_5 : ∀ v w, phi12 b off n c1 k C1 C2 B0 5 v w → v = .int .i64 k := fun _ _ h => h
theorem phi12_6 : ∀ v w, phi12 b off n c1 k C1 C2 B0 6 v w → v = .slice (some ⟨b, off + k * 32, none⟩) (n - k) (c1 - k) := fun _ _ h => h
end
/-- The two new blocks are two. -/
def psi12 (i j : Nat) (v u : Value) : Prop := (i = 8 ∧ j = 9 ∨ i = 9 ∧ j = 8) → v ≠ u
theorem psi12_no {i : Nat} {v : Value} {w : World} {φ : Nat → Value → World → Prop} (h : i < 8) : ∀ j u, j ≠ i → φ j u w → psi12 i j v u ∧ psi12 j i u v := fun j u _ _ =>
  ⟨fun hh => by omega, fun hh => by omega⟩
theorem psi12_new {i : Nat} {b off n c1 k : Nat} {C1 C2 : Array Value} {B0 : Nat} {w : World} (h : i = 8 ∨ i = 9) : ∀ j u, j ≠ i → phi12 b off n c1 k C1 C2 B0 j u w →
    psi12 i j (.pointer (some ⟨w.heap.size, 0, none⟩)) u ∧ psi12 j i u (.pointer (some ⟨w.heap.size, 0, none⟩)) := fun j u hne hu => by
  have key : j = 8 ∨ j = 9 → u ≠ .pointer (some ⟨w.heap.size, 0, none⟩) := fun hj he => by
    rcases hj with rfl | rfl
    · obtain ⟨g, h1, _, h3⟩ := hu
      have := h3.lt
      rw [he] at h1
      injection h1 with h1
      injection h1 with h1
      injection h1 with h1
      omega
    · obtain ⟨g, h1, _, h3⟩ := hu
      have := h3.lt
      rw [he] at h1
      injection h1 with h1
      injection h1 with h1
      injection h1 with h1
      omega
  exact ⟨fun hh he => key (by omega) he.symm, fun hh he => key (by omega) he⟩
attribute [local go_sem ↓] eql_dig neq_dig
attribute [local go_sem] putAll upd guard_dig
attribute [local go_sem] guard_dig

set_option maxHeartbeats 1000000 in
set_option maxRecDepth 100000 in
theorem lawHalves_any (A : Option Addr) (c : Nat) (l : List UInt8) (w : World) (hK : KT w) (hS : Sl w A l c) :
    Calls Tryd.prog 7 #[.slice A l.length c] w fun e w' => e = .returned (.bool true) ∧ Below w.heap.size w w' := by
  have HSN := Lib.hid (sane_any w hK)
  have HDO := Lib.hid (fun w' (hb : Below w.heap.size w w') => digestsOf_any A c l w' (hS.up hb))
  have HK := Lib.hid hK
  clear hK hS
  have hn24 : min l.length 24 ≤ 24 := by omega
  have hlen := dgk_length l (min l.length 24)
  have h32 := dgk_len32 l (min l.length 24)
  generalize hds : dgk l (min l.length 24) = ds at *
  generalize hnn : min l.length 24 = n at *
  have HLEN := Lib.hid hlen
  have H32 := Lib.hid h32
  clear hds hnn hlen h32
  generalize l.length = nl at *
  go_enter Tryd.func7, Tryd.ntmps7
  go_wp2_with fail
  refine HSN.out.mono ?_
  rintro e w1 ⟨rfl, hb1⟩
  go_wp2_with fail
  refine (HDO.out w1 hb1).mono ?_
  rintro e w2 ⟨A1, c1, rfl, ho2, hb2⟩
  have hbw2 := hb1.trans (hb2.mono hb1.size)
  obtain ⟨hD, hc1, hc2⟩ := Ds.of_own ho2 HLEN.out H32.out
  have F2 : HF w A1 ds w2 := ⟨HK.out.below hbw2, hbw2, hD⟩
  have hT : ∀ W, HF w A1 ds W → Calls Tryd.prog 17 #[.slice A1 n c1] W (DigPost (tr ds) W) := fun W hF => by
    have := tree_any n ds A1 c1 W (by rw [HLEN.out]; exact Nat.le_refl _) hF.K hF.D (by rw [HLEN.out]; exact hc1) hc2 (by rw [HLEN.out]; omega)
    rwa [HLEN.out] at this
  have HT := Lib.hid hT
  have HF2 := Lib.hid F2
  clear hb1 hb2 ho2 hbw2 hT hD F2 HSN HDO
  by_cases hn2 : n < 2
  · rcases (show n = 0 ∨ n = 1 by omega) with h0 | h1
    · subst h0
      have hds : ds = [] := List.length_eq_zero_iff.1 HLEN.out
      subst hds
      have hTE : ∀ W, KT W → Calls Tryd.prog 14 #[.string ⟨#[101, 109, 112, 116, 121]⟩, .slice none 0 0] W (DigPost (tr []) W) := fun W hk => by
        rw [tr_zero]
        exact tagged_any ⟨#[101, 109, 112, 116, 121]⟩ none 0 [] W hk ⟨Bs.none_, by simp, by unfold maxLen; omega, fun _ => ⟨rfl, rfl⟩⟩ (by decide) (by simp)
      have HTE := Lib.hid hTE
      have iT := IsDig.of (tr_length [])
      clear hTE hc2
      unfold DigPost at HT HTE
      generalize dcells (tr []) = CT at *
      go_wp2_with fail
      refine (HT.out w2 HF2.out).mono ?_
      rintro e w3 ⟨rfl, hb3⟩
      have F3 := HF2.out.up hb3
      clear hb3
      go_wp2_with fail
      refine (HTE.out w3 F3.K).mono ?_
      rintro e w4 ⟨rfl, hb4⟩
      have F4 := F3.up hb4
      clear hb4
      go_wp2_with fail
      go_ret
      exact ⟨rfl, F4.B⟩
    · subst h1
      obtain ⟨d, hds⟩ : ∃ d, ds = [d] := List.length_eq_one_iff.1 HLEN.out
      subst hds
      have hd32 : d.length = 32 := H32.out d (by simp)
      have HC2 := Lib.hid hc2
      obtain ⟨b, off, rfl, _, _⟩ := HF2.out.D.2 (by simp)
      have hTL : ∀ W, HF w (some ⟨b, off, none⟩) [d] W → Calls Tryd.prog 14 #[.string ⟨#[108, 101, 97, 102]⟩, .slice (some ⟨b, off, none⟩) 32 32] W (DigPost (tr [d]) W) := fun W hF => by
        obtain ⟨b', off', hA, hbl, hc⟩ := hF.D.2 (by simp)
        injection hA with hA
        injection hA with hb1 ho1 _
        subst hb1 ho1
        have hr := hc 0 d rfl
        have hs : Sl W (some ⟨b, off, none⟩) d 32 := ⟨fun _ => ⟨b, off, rfl, hbl, fun j x hx => by
          have := hr j (bv x) (by rw [List.getElem?_map, hx]; rfl)
          rw [show off + 0 * 32 + j = off + j by omega] at this
          exact this⟩, by omega, by unfold maxLen; omega, fun h => by cases h⟩
        have := tagged_any ⟨#[108, 101, 97, 102]⟩ (some ⟨b, off, none⟩) 32 d W hF.K hs (by decide) (by omega)
        rw [hd32] at this
        rw [tr_one]
        exact this
      have HTL := Lib.hid hTL
      have iT := IsDig.of (tr_length [d])
      have HFD := Lib.hid (HF2.out.up (Below.refl w2.heap.size w2).drew)
      clear hTL hc2 hd32
      unfold DigPost at HT HTL
      generalize dcells (tr [d]) = CT at *
      go_wp2_with fail
      go_region_held3 (fun _ => True) (trivial)
        (first
          | (go_at_call 17; (with_reducible refine (HT.out _ HFD.out).mono ?_); rintro e w6 ⟨rfl, hb6⟩; have F6 := Lib.hid (HFD.out.up hb6); clear hb6)
          | (go_at_call 14; (with_reducible refine (HTL.out _ F6.out).mono ?_); rintro e w9 ⟨rfl, hb9⟩; have F9 := F6.out.up hb9)
          | fail)
      all_goals
        go_wp2_with fail
        go_ret
        exact ⟨rfl, F9.B⟩
  have hdl : 1 < ds.length := by rw [HLEN.out]; omega
  have hC2 := Lib.hid hc2
  obtain ⟨b, off, rfl, _, _⟩ := HF2.out.D.2 (by omega)
  have t0 : ((n : Int) == 0) = false := by simp; omega
  have t1 : ((n : Int) == 1) = false := by simp; omega
  clear hc2 hdl
  go_wp2_with fail
  go_loop [4] (fun v => ∃ j k : Nat, k = 2 ^ j ∧ v = .int .i64 k ∧ k < n) (fun v => 24 - (intOf v).toNat)
  case atStart => exact ⟨0, 1, rfl, rfl, by omega⟩
  case round =>
    obtain ⟨j, k, hk, rfl, hkn⟩ := hrel
    have hk0 : 0 < k := by rw [hk]; exact Nat.pow_pos (by omega)
    have HKJ := Lib.hid hk
    clear hk
    by_cases hlt : 2 * k < n
    · go_wp2_with fail
      go_round
      case rel => exact ⟨j + 1, k * 2, by rw [HKJ.out, Nat.pow_succ], by go_num, by omega⟩
      case measure => simp [intOf]; omega
    · have hhalf : half n = k := by
        rw [HKJ.out]
        exact half_eq j n (by rw [← HKJ.out]; exact hkn) (by rw [Nat.pow_succ, ← HKJ.out]; omega)
      have i2 : (k : Int) ≤ (n : Int) := by omega
      have i3 : (k : Int) ≤ (c1 : Int) := by omega
      have i4 : (n : Int) ≤ (c1 : Int) := by omega
      go_upto_region 12 with fail
      have hTn : tr ds = tg [110, 111, 100, 101] (tr (ds.take k) ++ tr (ds.drop k)) := by
        have := tr_node ds (by rw [HLEN.out]; omega)
        rwa [HLEN.out, hhalf] at this
      have hT1 : ∀ W, HF w2 (some ⟨b, off, none⟩) ds W → Calls Tryd.prog 17 #[.slice (some ⟨b, off, none⟩) k c1] W (DigPost (tr (ds.take k)) W) := fun W hF => by
        have hl : (ds.take k).length = k := by rw [List.length_take, HLEN.out]; omega
        have := tree_any k (ds.take k) (some ⟨b, off, none⟩) c1 W (by rw [hl]; exact Nat.le_refl _) hF.K (hF.D.take k) (by rw [hl]; omega) hC2.out (by rw [hl]; omega)
        rwa [hl] at this
      have hT2 : ∀ W, HF w2 (some ⟨b, off, none⟩) ds W → Calls Tryd.prog 17 #[.slice (some ⟨b, off + k * 32, none⟩) (n - k) (c1 - k)] W (DigPost (tr (ds.drop k)) W) := fun W hF => by
        have hl : (ds.drop k).length = n - k := by rw [List.length_drop, HLEN.out]
        have := tree_any (n - k) (ds.drop k) (some ⟨b, off + k * 32, none⟩) (c1 - k) W (by rw [hl]; exact Nat.le_refl _) hF.K (hF.D.drop k) (by rw [hl]; omega) (Nat.le_trans (Nat.sub_le _ _) hC2.out) (by rw [hl]; omega)
        rwa [hl] at this
      unfold DigPost at hT1 hT2
      obtain ⟨C1, hC1⟩ : ∃ C1, dcells (tr (ds.take k)) = C1 := ⟨_, rfl⟩
      obtain ⟨C2, hC2'⟩ : ∃ C2, dcells (tr (ds.drop k)) = C2 := ⟨_, rfl⟩
      rw [hC1] at hT1
      rw [hC2'] at hT2
      have HC1 := Lib.hid hC1
      have HC2 := Lib.hid hC2'
      have HT1 := Lib.hid hT1
      have HT2 := Lib.hid hT2
      have HTN := Lib.hid hTn
      have hck : ¬ c1 = k := by omega
      clear hT1 hT2 hTn hC1 hC2'
      refine region_put 10 [35, 36, 37, 38, 39, 40, 41, 42, 5, 6] (HF w2 (some ⟨b, off, none⟩) ds) (phi12 b off n c1 k C1 C2 w2.heap.size) psi12 (by kernel_rfl) ?_ (fun _ => undef) ?_ ?_ phi12_lasts ?_ ?_
      · kernel_rfl
      · kernel_rfl
      · exact ⟨HF2.out.K.below (Below.refl w2.heap.size w2).drew, (Below.refl w2.heap.size w2).drew, HF2.out.D.up (Below.refl w2.heap.size w2).drew⟩
      · simp only [List.take_succ_cons, List.take_zero, Steps, Nat.reduceAdd, Nat.zero_add]
        refine ⟨?_, ?_, ?_, ?_, ?_, ?_, ?_, ?_, ?_, ?_, trivial⟩
        · constructor
          intro vs W hC hd
          go_simp
          refine Left.intro (.slice (some ⟨b, off, none⟩) n c1) ?_ (Below.refl _ _) hC rfl (psi12_no (by omega))
          kernel_rfl
        · constructor
          intro vs W hC hd
          go_simp
          refine Left.intro (.int .i64 k) ?_ (Below.refl _ _) hC rfl (psi12_no (by omega))
          kernel_rfl
        · refine step_two 0 1 _ _ ?_ ?_ phi12_0 phi12_1 ?_
          · kernel_rfl
          · kernel_rfl
          intro vs W hC
          go_simp
          refine Left.intro (.slice (some ⟨b, off, none⟩) k c1) ?_ (Below.refl _ _) hC rfl (psi12_no (by omega))
          kernel_rfl
        · refine step_one 2 _ ?_ phi12_2 ?_
          · kernel_rfl
          intro vs W hC
          go_simp
          refine (HT1.out W hC).mono ?_
          rintro e w' ⟨rfl, hb⟩
          refine Left.intro (.agg C1) ?_ hb (hC.up hb) rfl (psi12_no (by omega))
          kernel_rfl
        · constructor
          intro vs W hC hd
          go_simp
          refine Left.intro (.slice (some ⟨b, off, none⟩) n c1) ?_ (Below.refl _ _) hC rfl (psi12_no (by omega))
          kernel_rfl
        · constructor
          intro vs W hC hd
          go_simp
          refine Left.intro (.int .i64 k) ?_ (Below.refl _ _) hC rfl (psi12_no (by omega))
          kernel_rfl
        · refine step_two 4 5 _ _ ?_ ?_ phi12_4 phi12_5 ?_
          · kernel_rfl
          · kernel_rfl
          intro vs W hC
          go_simp
          refine Left.intro (.slice (some ⟨b, off + k * 32, none⟩) (n - k) (c1 - k)) ?_ (Below.refl _ _) hC rfl (psi12_no (by omega))
          kernel_rfl
        · refine step_one 6 _ ?_ phi12_6 ?_
          · kernel_rfl
          intro vs W hC
          go_simp
          refine (HT2.out W hC).mono ?_
          rintro e w' ⟨rfl, hb⟩
          refine Left.intro (.agg C2) ?_ hb (hC.up hb) rfl (psi12_no (by omega))
          kernel_rfl
        · constructor
          intro vs W hC hd
          have hb := (Below.refl W.heap.size W).alloc (Nat.le_refl _) (.cells dz 26)
          go_simp
          refine Left.intro (.pointer (some ⟨W.heap.size, 0, none⟩)) ?_ hb (hC.up hb) ⟨W.heap.size, rfl, hC.B.size, Box.new W dz _⟩ (psi12_new (.inl rfl))
          kernel_rfl
        · constructor
          intro vs W hC hd
          have hb := (Below.refl W.heap.size W).alloc (Nat.le_refl _) (.cells dz 26)
          go_simp
          refine Left.intro (.pointer (some ⟨W.heap.size, 0, none⟩)) ?_ hb (hC.up hb) ⟨W.heap.size, rfl, hC.B.size, Box.new W dz _⟩ (psi12_new (.inr rfl))
          kernel_rfl
      · intro vs W hC hv hp
        have e3 := phi12_3 _ _ (hv 3 (by omega))
        have e7 := phi12_7 _ _ (hv 7 (by omega))
        obtain ⟨g8, e8, hg8, hx8⟩ := phi12_8 _ _ (hv 8 (by omega))
        obtain ⟨g9, e9, hg9, hx9⟩ := phi12_9 _ _ (hv 9 (by omega))
        have hne : g8 ≠ g9 := fun h => hp 8 9 (by omega) (by omega) (by omega) (.inl ⟨rfl, rfl⟩) (by rw [e8, e9, h])
        clear hv hp
        have HFW := Lib.hid hC
        have HX8 := Lib.hid hx8
        have HX9 := Lib.hid (hx9.grown (setRow_grown W g8 C1) (fun e => by injection e with e; omega))
        have hd1 : DF C1 := by rw [← HC1.out]; exact DF.of (tr_length _)
        have hd2 : DF C2 := by rw [← HC2.out]; exact DF.of (tr_length _)
        have HD1 := Lib.hid hd1
        have HD2 := Lib.hid hd2
        have HG := Lib.hid (And.intro hg8 (And.intro hg9 hne))
        clear hC hx8 hx9 hd1 hd2 hg8 hg9 hne HT1 HT2
        simp only [List.drop_succ_cons, List.drop_zero, putAll, e3, e7, e8, e9, Nat.reduceAdd, Nat.zero_add]
        clear e3 e7 e8 e9
        simp only [Act.put, List.setIfInBounds_toArray, List.set_cons_succ, List.set_cons_zero]
        go_upto_region 13 with (first
          | (refine wpList_store_row rfl 26 (.tmp 5) (.tmp 38) rfl g8 C1 rfl rfl 26 dz HX8.out HD1.out.info HD1.out.size HD1.out.one ?_)
          | (refine wpList_store_row rfl 26 (.tmp 6) (.tmp 42) rfl g9 C2 rfl rfl 26 dz HX9.out HD2.out.info HD2.out.size HD2.out.one ?_))
        generalize hW : World.setRow (World.setRow W _ C1) _ C2 = W5
        have hb5 : Below w2.heap.size w2 W5 := by rw [← hW]; exact fin_store C2 (fin_store C1 HFW.out.B HG.out.1) HG.out.2.1
        have hx8 : Box W5 g8 C1 26 := by rw [← hW]; exact (Box.setRow HX8.out).grown (setRow_grown _ g9 C2) (fun e => by injection e with e; exact HG.out.2.2 e)
        have hx9 : Box W5 g9 C2 26 := by rw [← hW]; exact Box.setRow HX9.out
        rw [← HC1.out] at hx8
        rw [← HC2.out] at hx9
        have G5 : GF w (some ⟨b, off, none⟩) ds g8 g9 (tr (ds.take k)) (tr (ds.drop k)) W5 := ⟨HF2.out.up hb5, hx8, hx9⟩
        have GD := Lib.hid (G5.up (Below.refl W5.heap.size W5).drew)
        have hbA : Below W5.heap.size W5 ((W5.alloc (.cells #[] 5)).drew) := ((Below.refl W5.heap.size W5).alloc (Nat.le_refl _) _).drew
        have GA := Lib.hid (G5.up hbA)
        have hown : ((W5.alloc (.cells #[] 5)).drew).ownsRow w.heap.size 5 1 (.slice (some ⟨W5.heap.size, 0, none⟩) 0 0) 0 [] := own_empty W5 G5.F.B.size
        have HO := Lib.hid hown
        have hl1 := tr_length (ds.take k)
        have hl2 := tr_length (ds.drop k)
        have HTN1 := HTN.out
        have hdt := tr_length ds
        clear hW hb5 hx8 hx9 G5 hbA hown HX8 HX9 HFW HD1 HD2 HG HC1 HC2 HF2 HTN HKJ
        generalize tr (ds.take k) = M1 at *
        generalize tr (ds.drop k) = M2 at *
        have hTG : ∀ W A1 c1, KT W → W.ownsRow w.heap.size 5 1 (.slice A1 64 c1) 64 ([] ++ M1.map bv ++ M2.map bv) → Calls Tryd.prog 14 #[.string ⟨#[110, 111, 100, 101]⟩, .slice A1 64 c1] W (DigPost (tr ds) W) := fun W A1 c1 hk ho => by
          have hl : (M1 ++ M2).length = 64 := by rw [List.length_append, hl1, hl2]
          have hs := Sl.of_own (B := w.heap.size) (A := A1) (c := c1) (l := M1 ++ M2) (w := W) (by rw [hl, List.map_append]; exact ho)
          have := tagged_any ⟨#[110, 111, 100, 101]⟩ A1 c1 (M1 ++ M2) W hk hs (by decide) (by omega)
          rw [hl] at this
          rw [HTN1]
          exact this
        have HTG := Lib.hid hTG
        have iT := IsDig.of hdt
        have HL1 := Lib.hid hl1
        have HL2 := Lib.hid hl2
        clear hTG HTN1 hdt hl1 hl2
        unfold DigPost at HTG HT
        generalize dcells (tr ds) = CT at *
        go_region_held3 (fun _ => True) (trivial)
          (first
            | (go_at_call 17; first
                | ((with_reducible refine (HT.out _ GD.out.F).mono ?_); rintro e w6 ⟨rfl, hb6⟩; have G6 := Lib.hid (GD.out.up hb6); clear hb6; have GB := Lib.hid (G6.out.up ((Below.refl w6.heap.size w6).alloc (Nat.le_refl _) (.cells #[] 5))); have OB := Lib.hid (own_empty (base := w.heap.size) w6 G6.out.F.B.size))
                | ((with_reducible refine (HT.out _ GA.out.F).mono ?_); rintro e w6 ⟨rfl, hb6⟩; have GB := Lib.hid (GA.out.up hb6); have OB := Lib.hid (own_below HO.out hb6); clear hb6))
            | (go_at_call 14; (with_reducible refine (HTG.out _ _ _ (HK.out.below hb8) ho8).mono ?_); rintro e w9 ⟨rfl, hb9⟩; have hb9 := hb8.trans (hb9.mono hb8.size))
            | ((refine step_append_sl (by rfl) (.tmp 45) (.tmp 46) (by rfl) _ 0 [] (by rfl) OB.out (some ⟨g8, 0, none⟩) M1 32 32 HL1.out (by rfl) (Sl.of_box GB.out.X1 HL1.out) 32 rfl (by omega) GB.out.F.B.size ?_); intro A7 c7 w7 ho7 hg7; have hb7 := GB.out.F.B.grown hg7 GB.out.F.B.size (fun i hi => (OB.out.lt i hi).1); have S7 := Lib.hid (Sl.of_box (GB.out.X2.grown hg7 (own_other OB.out GB.out.X2 (by decide))) HL2.out))
            | ((refine step_append_sl (by rfl) (.tmp 47) (.tmp 48) (by rfl) _ 32 _ (by rfl) ho7 (some ⟨g9, 0, none⟩) M2 32 32 HL2.out (by rfl) S7.out 64 rfl (by omega) hb7.size ?_); intro A8 c8 w8 ho8 hg8; have hb8 := hb7.grown hg8 hb7.size (fun i hi => (ho7.lt i hi).1))
            | fail)
        all_goals
          go_wp2_with fail
          go_ret
          exact ⟨rfl, hb9⟩
end Go.Proofs.YtgmhkippdnjbmaaDoor
