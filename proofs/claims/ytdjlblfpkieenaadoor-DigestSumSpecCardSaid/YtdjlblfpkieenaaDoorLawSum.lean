/- DigestSumSpec. -/
import Derived.Test.YtdjlblfpkieenaaDoorRfTag
import Derived.Test.YtdjlblfpkieenaaDoorApp
namespace Go.Proofs.YtdjlblfpkieenaaDoor
open Go.RowKit Go.Sort
set_option linter.unusedVariables false

attribute [local go_sem ↓] eql_dig neq_dig
attribute [local go_sem] guard_dig

theorem row_set (L : List UInt8) (k : Nat) (x : UInt8) : (rowOf L).setIfInBounds k (bv x) = rowOf (L.set k x) := by
  unfold rowOf
  rw [List.setIfInBounds_toArray, List.map_set]
theorem row_at (L : List UInt8) (k : Nat) (h : k < L.length) : (rowOf L)[k]? = some (bv (L.getD k 0)) := by
  unfold rowOf
  rw [List.getElem?_toArray, List.getElem?_map, List.getElem?_eq_getElem h, List.getD_eq_getElem?_getD, List.getElem?_eq_getElem h]
  rfl
theorem byte_of (n : Nat) : Value.int .u8 ((n : Int) % 256) = bv (UInt8.ofNat (n % 256)) := by
  rw [bv_of _ (Nat.mod_lt _ (by omega)), Int.natCast_emod]
  rfl
theorem Sl.of_row {w : World} {g : Nat} {L : List UInt8} {t : TypeId} (h : Box w g (rowOf L) t) (hn : L.length ≤ 1000000) : Sl w (some ⟨g, 0, none⟩) L L.length :=
  ⟨Bs.of_box h, Nat.le_refl _, le_maxLen (by omega), fun h => by cases h⟩

/-- What lasts through the law's loops. -/
structure LF (w : World) (A : Option Addr) (l : List UInt8) (c : Nat) (W : World) : Prop where
  K : KT W
  B : Below w.heap.size w W
  S : Sl W A l c
theorem LF.up {w : World} {A : Option Addr} {l : List UInt8} {c : Nat} {W W' : World} (h : LF w A l c W) (hb : Below W.heap.size W W') : LF w A l c W' :=
  ⟨h.K.below hb, h.B.trans (hb.mono h.B.size), h.S.up hb⟩

theorem LF.set {w : World} {A : Option Addr} {l : List UInt8} {c : Nat} {W : World} {G k : Nat} (v : Value) (h : LF w A l c W) (hG : w.heap.size ≤ G) (h0 : 0 < G) (hne : 0 < l.length → ∀ b off, A = some ⟨b, off, none⟩ → b < G) :
    LF w A l c (W.setCell ⟨G, k, none⟩ v) := by
  refine ⟨h.K.grown (set_grown_at W G k v) h0, h.B.trans (below_grown (set_grown_at W G k v) hG h.B.size), ⟨fun hl => ?_, h.S.2⟩⟩
  exact ((h.S.1.keep (set_grown_at W G k v) (fun b off e he => by injection he with he; have := hne hl b off e; omega)).more (by simp [World.setCell])) hl

set_option maxHeartbeats 1000000 in
set_option maxRecDepth 100000 in
theorem lawSum_any (A : Option Addr) (c : Nat) (l : List UInt8) (tag : ByteArray) (m : Int) (w : World) (hK : KT w) (hS : Sl w A l c) (hm : (Lit.int IntKind.u8 m).wf = true) :
    Calls Tryd.prog 3 #[.slice A l.length c, .string tag, .int .u8 m] w fun e w' => e = .returned (.bool true) ∧ Below w.heap.size w w' := by
  have HSN := Lib.hid (sane_any w hK)
  by_cases h1 : 300 < l.length
  · generalize l.length = n at *
    clear hm
    go_enter Tryd.func3, Tryd.ntmps3
    go_wp2_with fail
    refine HSN.out.mono ?_
    rintro e w1 ⟨rfl, hb1⟩
    go_wp2_with fail
    go_ret
    exact ⟨rfl, hb1⟩
  by_cases h2 : 300 < tag.size
  · generalize l.length = n at *
    clear hm
    go_enter Tryd.func3, Tryd.ntmps3
    go_wp2_with fail
    refine HSN.out.mono ?_
    rintro e w1 ⟨rfl, hb1⟩
    go_wp2_with fail
    go_ret
    exact ⟨rfl, hb1⟩
  have hm0 : 0 ≤ m ∧ m < 256 := by
    simp [Lit.wf] at hm
    have e1 : IntKind.u8.min = 0 := rfl
    have e2 : IntKind.u8.max = 255 := rfl
    omega
  obtain ⟨k0, rfl⟩ := Int.eq_ofNat_of_zero_le hm0.1
  have hK0 := hK.1
  have HF0 := Lib.hid (show ∀ w1, Below w.heap.size w w1 → LF w A l c w1 from fun w1 hb => ⟨hK.below hb, hb, hS.up hb⟩)
  obtain ⟨n, hn⟩ : ∃ n, l.length = n := ⟨_, rfl⟩
  have HN := Lib.hid hn
  rw [hn] at h1 ⊢
  have htg : tag.size ≤ 300 := by omega
  have hnl : n ≤ 300 := by omega
  clear hn hm hK hS
  have hmk : ∀ w : World, (Instr.makeSlice 22 (.int .i64 ((k0 : Int) + 1)) (.int .i64 ((k0 : Int) + 1))).run Tryd.prog w = .ok (.slice (some ⟨w.heap.size, 0, none⟩) (k0 + 1) (k0 + 1)) (w.alloc (.cells (zrow (k0 + 1)) 5)) := fun w => make_any (k0 + 1) w (by omega)
  have e1 : decide ((300 : Int) < (n : Int)) = false := by simp; omega
  have e2 : decide ((300 : Int) < (tag.size : Int)) = false := by simp; omega
  go_enter Tryd.func3, Tryd.ntmps3
  go_wp2_with fail
  refine HSN.out.mono ?_
  rintro e w1 ⟨rfl, hb1⟩
  go_wp2_with fail
  clear hmk e1 e2 HSN
  have hbA := (Below.refl w1.heap.size w1).alloc (Nat.le_refl _) (.cells (zrow (k0 + 1)) 5)
  have HL1 := Lib.hid ((HF0.out w1 hb1).up hbA)
  have HBX : Hid (Box (w1.alloc (.cells (zrow (k0 + 1)) 5)) w1.heap.size (rowOf (List.replicate (k0 + 1) 0)) 5) := Lib.hid (Box.new w1 _ _)
  have hG := hb1.size
  have hbs : 0 < l.length → ∀ b off, A = some ⟨b, off, none⟩ → b < w1.heap.size := fun hp b off e => by
    obtain ⟨b', off', e', hlt, _⟩ := (HF0.out w1 hb1).S.1 hp
    rw [e] at e'
    injection e' with e'
    injection e' with e1
    omega
  have HBS := Lib.hid hbs
  clear hbA hb1 HF0 hbs
  generalize w1.heap.size = G at *
  go_loopw [27] (fun i wr => ∃ (k : Nat) (L : List UInt8), k ≤ k0 + 1 ∧ L.length = k0 + 1 ∧ i = .int .i64 k ∧ LF w A l c wr ∧ Box wr G (rowOf L) 5) (fun i _ => k0 + 1 - (intOf i).toNat)
  case atStart => exact ⟨0, _, Nat.zero_le _, List.length_replicate, rfl, HL1.out, HBX.out⟩
  case round =>
    clear HL1 HBX
    obtain ⟨k, L, hk, hL, rfl, hlf, hb⟩ := hrel
    have HLF := Lib.hid hlf
    have HB := Lib.hid hb
    by_cases hlt : k < k0 + 1
    · have hcell : wr.cell? ⟨G, k, none⟩ = some (.int .u8 ((L.getD k 0).toNat : Int)) := by rw [hb.cell k]; exact row_at L k (by omega)
      have hfz : wr.frozen? ⟨G, k, none⟩ = false := hb.frozen k
      have HLL := Lib.hid hL
      generalize (L.getD k 0).toNat = x0 at *
      clear hlf hb hL
      by_cases hn0 : 0 < n
      · obtain ⟨b, off, rfl, hbl, hc⟩ := HLF.out.S.1 (by rw [HN.out]; exact hn0)
        have hmod : k % n < n := Nat.mod_lt _ hn0
        have hsrc : wr.cell? ⟨b, off + k % n, none⟩ = some (.int .u8 ((l.getD (k % n) 0).toNat : Int)) := hc _ _ (by rw [List.getD_eq_getElem?_getD, List.getElem?_eq_getElem (by rw [HN.out]; exact hmod)]; rfl)
        have hbG := HBS.out (by rw [HN.out]; exact hn0) b off rfl
        generalize l.getD (k % n) 0 = x1 at *
        clear hc
        go_wp2_with fail
        go_roundw
        case rel =>
          refine ⟨k + 1, (L.set k (UInt8.ofNat k)).set k x1, by omega, ?_, by go_num, (HLF.out.set _ hG (by omega) HBS.out).set _ hG (by omega) HBS.out, ?_⟩
          rotate_left
          · have h1 := HB.out.set (i := k) (v := bv (UInt8.ofNat k))
            rw [row_set] at h1
            have h2 := h1.set (i := k) (v := bv x1)
            rw [row_set] at h2
            rw [← bv_of k (by omega)]
            exact h2
          · simp [HLL.out]
        case measure => simp [intOf]; omega
      · obtain rfl : n = 0 := by omega
        go_wp2_with fail
        go_roundw
        case rel =>
          refine ⟨k + 1, L.set k (UInt8.ofNat k), by omega, ?_, by go_num, HLF.out.set _ hG (by omega) HBS.out, ?_⟩
          rotate_left
          · have h1 := HB.out.set (i := k) (v := bv (UInt8.ofNat k))
            rw [row_set] at h1
            rw [← bv_of k (by omega)]
            exact h1
          · simp [HLL.out]
        case measure => simp [intOf]; omega
    · obtain rfl : k = k0 + 1 := by omega
      clear hlf hb hk hlt
      go_wp2_with fail
      rw [show ((k0 + 1 : Nat) : Int) = (k0 : Int) + 1 from rfl]
      have hba := (Below.refl wr.heap.size wr).alloc (Nat.le_refl _) (.cells #[.slice A n c, .slice (some ⟨G, 0, none⟩) (k0 + 1) (k0 + 1)] 22)
      have HL2 := Lib.hid (HLF.out.up hba)
      have HB2 := Lib.hid (HB.out.below hba)
      have HR2 := Lib.hid (Box.new wr #[.slice A n c, .slice (some ⟨G, 0, none⟩) (k0 + 1) (k0 + 1)] 22)
      clear hba HLF HB
      generalize wr.heap.size = R at *
      go_loopw [53] (fun i wr => ∃ k : Nat, k ≤ 2 ∧ i = .int .i64 k ∧ LF w A l c wr ∧ Box wr G (rowOf L) 5 ∧ Box wr R #[.slice A n c, .slice (some ⟨G, 0, none⟩) (k0 + 1) (k0 + 1)] 22) (fun i _ => 2 - (intOf i).toNat)
      case atStart => exact ⟨0, by omega, rfl, HL2.out, HB2.out, HR2.out⟩
      case round =>
        clear HL2 HB2 HR2
        obtain ⟨k, hk, rfl, hlf, hb, hr⟩ := hrel
        by_cases hlt : k < 2
        · obtain ⟨A', l', m', c', hcell, hsl, hlen, hle⟩ : ∃ A' l' m' c', wr.cell? ⟨R, k, none⟩ = some (.slice A' m' c') ∧ Sl wr A' l' c' ∧ l'.length = m' ∧ m' ≤ 300 := by
            match k, hlt with
            | 0, _ => exact ⟨A, l, n, c, hr.cell 0, hlf.S, HN.out, hnl⟩
            | 1, _ =>
              refine ⟨some ⟨G, 0, none⟩, L, k0 + 1, k0 + 1, hr.cell 1, ?_, hL, by omega⟩
              have := Sl.of_row hb (by omega)
              rwa [hL] at this
          have HC1 : ∀ W, Below wr.heap.size wr W → Calls Tryd.prog 12 #[.slice A' m' c'] W (HashPost l' W) := fun W hW => by
            have hs := hsl.up hW
            have := sum_any A' c' l' W (hlf.K.below hW) hs.1 hs.2.1 hs.2.2.1
            rwa [hlen] at this
          have HC2 : ∀ W, Below wr.heap.size wr W → Calls Tryd.prog 13 #[.slice A' m' c'] W (HashPost l' W) := fun W hW => by
            have := refSum_any A' c' l' W (hsl.up hW) (by omega)
            rwa [hlen] at this
          have HC3 : ∀ W, Below wr.heap.size wr W → Calls Tryd.prog 14 #[.string tag, .slice A' m' c'] W (DigPost (tg tag.data.toList l') W) := fun W hW => by
            have := tagged_any tag A' c' l' W (hlf.K.below hW) (hsl.up hW) (by omega) (by omega)
            rwa [hlen] at this
          have HC4 : ∀ W, Below wr.heap.size wr W → Calls Tryd.prog 15 #[.string tag, .slice A' m' c'] W (DigPost (tg tag.data.toList l') W) := fun W hW => by
            have := refTagged_any tag A' c' l' W (hsl.up hW) (by omega) (by omega)
            rwa [hlen] at this
          have i1 := IsDig.of (sha_length l')
          have i2 := IsDig.of (tg_length tag.data.toList l')
          unfold HashPost at HC1 HC2
          unfold DigPost at HC3 HC4
          generalize dcells (sha l') = CS at *
          generalize dcells (tg tag.data.toList l') = CT at *
          have H1 := Lib.hid HC1
          have H2 := Lib.hid HC2
          have H3 := Lib.hid HC3
          have H4 := Lib.hid HC4
          have HLF := Lib.hid hlf
          have HB := Lib.hid hb
          have HR := Lib.hid hr
          have hb0 := Below.refl wr.heap.size wr
          clear HC1 HC2 HC3 HC4 hlf hb hr hsl hlen
          go_wp2_with (first
            | (go_at_call 12; (with_reducible refine (H1.out _ hb0).mono ?_); rintro e w1' ⟨rfl, hb1⟩)
            | (go_at_call 13; (with_reducible refine (H2.out _ (hb0.trans (hb1.mono hb0.size))).mono ?_); rintro e w2' ⟨rfl, hb2⟩; have hb2 := (hb0.trans (hb1.mono hb0.size)).trans (hb2.mono (hb0.trans (hb1.mono hb0.size)).size))
            | (go_at_call 14; (with_reducible refine (H3.out _ hb2).mono ?_); rintro e w3' ⟨rfl, hb3⟩; have hb3 := hb2.trans (hb3.mono hb2.size))
            | (go_at_call 15; (with_reducible refine (H4.out _ hb3).mono ?_); rintro e w4' ⟨rfl, hb4⟩; have hb4 := hb3.trans (hb4.mono hb3.size)))
          go_roundw
          case rel => exact ⟨k + 1, by omega, by go_num, HLF.out.up hb4, HB.out.below hb4, HR.out.below hb4⟩
          case measure => simp [intOf]; omega
        · obtain rfl : k = 2 := by omega
          clear hb hr
          go_wp2_with fail
          go_ret
          exact ⟨rfl, hlf.B⟩
end Go.Proofs.YtdjlblfpkieenaaDoor
