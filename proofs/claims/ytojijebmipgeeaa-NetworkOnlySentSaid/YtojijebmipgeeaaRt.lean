/- The reference's Same. -/
import Derived.Test.YtojijebmipgeeaaRs
import Derived.Deep.QuietTactic
import Derived.BigQuiet
namespace Go.Proofs.Ytojijebmipgeeaa
open Go.RowKit
set_option linter.unusedVariables false

def sq (l l2 : List Pk) (k : Nat) : Prop := ∀ j, j < k → spk (l.getD j pk0) (l2.getD j pk0) = true
def sa (l l2 : List (Int × Int)) (k : Nat) : Prop := ∀ j, j < k → (l.getD j (0, 0) == l2.getD j (0, 0)) = true
theorem sq_zero (l l2 : List Pk) : sq l l2 0 := fun j h => by omega
theorem sa_zero (l l2 : List (Int × Int)) : sa l l2 0 := fun j h => by omega
theorem sq_succ {l l2 : List Pk} {k : Nat} {p r : Pk} (h : sq l l2 k) (hp : l[k]? = some p) (hr : l2[k]? = some r) (hs : spk p r = true) : sq l l2 (k + 1) := fun j hj => by
  by_cases e : j = k
  · subst e
    rw [List.getD_eq_getElem?_getD, List.getD_eq_getElem?_getD, hp, hr]
    exact hs
  · exact h j (by omega)
theorem sa_succ {l l2 : List (Int × Int)} {k : Nat} {p r : Int × Int} (h : sa l l2 k) (hp : l[k]? = some p) (hr : l2[k]? = some r) (hs : (p == r) = true) : sa l l2 (k + 1) := fun j hj => by
  by_cases e : j = k
  · subst e
    rw [List.getD_eq_getElem?_getD, List.getD_eq_getElem?_getD, hp, hr]
    exact hs
  · exact h j (by omega)
theorem smn_true {a b : Nt} (h1 : a.q.length = b.q.length) (h2 : a.ap.length = b.ap.length) (hq : sq a.q b.q a.q.length) (ha : sa a.ap b.ap a.ap.length) : smn a b = true := by
  unfold smn smq
  rw [decide_eq_true h1, decide_eq_true h2]
  simp only [Bool.true_and, Bool.and_true, Bool.and_eq_true, List.all_eq_true]
  exact ⟨fun j hj => hq j (List.mem_range.1 hj), fun j hj => ha j (List.mem_range.1 hj)⟩
theorem smn_len {a b : Nt} (h : a.q.length ≠ b.q.length) : smn a b = false := by
  unfold smn smq
  rw [decide_eq_false h]
  simp
theorem smn_len2 {a b : Nt} (h : a.ap.length ≠ b.ap.length) : smn a b = false := by
  unfold smn
  rw [decide_eq_false h]
  simp
theorem smn_q {a b : Nt} {k : Nat} {p r : Pk} (hp : a.q[k]? = some p) (hr : b.q[k]? = some r) (hs : spk p r = false) : smn a b = false := by
  have hk := (List.getElem?_eq_some_iff.1 hp).1
  have : (List.range a.q.length).all (fun k => spk (a.q.getD k pk0) (b.q.getD k pk0)) = false := by
    rw [List.all_eq_false]
    refine ⟨k, List.mem_range.2 hk, ?_⟩
    rw [List.getD_eq_getElem?_getD, List.getD_eq_getElem?_getD, hp, hr]
    simp [hs]
  unfold smn smq
  rw [this]
  simp
theorem smn_a {a b : Nt} {k : Nat} {p r : Int × Int} (hp : a.ap[k]? = some p) (hr : b.ap[k]? = some r) (hs : (p == r) = false) : smn a b = false := by
  have hk := (List.getElem?_eq_some_iff.1 hp).1
  have : (List.range a.ap.length).all (fun k => a.ap.getD k (0, 0) == b.ap.getD k (0, 0)) = false := by
    rw [List.all_eq_false]
    refine ⟨k, List.mem_range.2 hk, ?_⟩
    rw [List.getD_eq_getElem?_getD, List.getD_eq_getElem?_getD, hp, hr]
    simp [hs]
  unfold smn
  rw [this]
  simp
theorem pair_cases (x y : Int × Int) : (x == y) = true ∨ (x == y) = false := by cases x == y <;> simp
theorem spk_cases (x y : Pk) : spk x y = true ∨ spk x y = false := by cases spk x y <;> simp

/-- Two links in boxes. -/
structure Duo (w W : World) (n n2 : Nt) (A : Option Addr) (c : Nat) (B : Option Addr) (k : Nat) (A2 : Option Addr) (c2 : Nat) (B2 : Option Addr) (k2 : Nat) : Prop where
  below : Below w.heap.size w W
  box : Box W w.heap.size (ntc n A c B k) 25
  box2 : Box W (w.heap.size + 1) (ntc n2 A2 c2 B2 k2) 25
theorem duo_new (w : World) (n n2 : Nt) (A : Option Addr) (c : Nat) (B : Option Addr) (k : Nat) (A2 : Option Addr) (c2 : Nat) (B2 : Option Addr) (k2 : Nat) : Duo w ((w.alloc (.cells (ntc n A c B k) 25)).alloc (.cells (ntc n2 A2 c2 B2 k2) 25)) n n2 A c B k A2 c2 B2 k2 := by
  refine ⟨((Below.refl _ w).alloc (Nat.le_refl _) _).alloc (by simp) _, Box.alloc (Box.new w _ _) _, ?_⟩
  have := Box.new (w.alloc (.cells (ntc n A c B k) 25)) (ntc n2 A2 c2 B2 k2) 25
  rw [World.size_alloc] at this
  exact this

attribute [local go_sem ↓] eql_pair neq_pair
attribute [local go_sem] guard_pair
set_option maxHeartbeats 4000000 in
set_option maxRecDepth 100000 in
theorem same_any (n n2 : Nt) (A B A2 B2 : Option Addr) (c k c2 k2 : Nat) (w : World) (h1 : NtIn w n A c B k) (h2 : NtIn w n2 A2 c2 B2 k2) :
    Calls Try.prog 15 #[ntv n A c B k, ntv n2 A2 c2 B2 k2] w (BoolPost (smn n n2) w) := by
  obtain ⟨m1, m2⟩ := nt_len h1
  obtain ⟨m3, m4⟩ := nt_len h2
  have hD := duo_new w n n2 A c B k A2 c2 B2 k2
  have HS := Lib.hid (And.intro (h1.up hD.below) (h2.up hD.below))
  have HD := Lib.hid hD
  have HSP := Lib.hid (fun p r D E d e W hp hr => samePacket_any p r D E d e W hp hr)
  have HL := Lib.hid (fun h => @smn_len n n2 h)
  have HL2 := Lib.hid (fun h => @smn_len2 n n2 h)
  have HTR := Lib.hid (fun h1 h2 hq ha => @smn_true n n2 h1 h2 hq ha)
  unfold BoolPost at *
  unfold ntv ntc pkv pkc at *
  clear h1 h2 hD
  obtain ⟨N, hN⟩ : ∃ N, n.q.length = N := ⟨_, rfl⟩
  obtain ⟨M, hM⟩ : ∃ M, n.ap.length = M := ⟨_, rfl⟩
  obtain ⟨N2, hN2⟩ : ∃ N2, n2.q.length = N2 := ⟨_, rfl⟩
  obtain ⟨M2, hM2⟩ : ∃ M2, n2.ap.length = M2 := ⟨_, rfl⟩
  have HN := Lib.hid (And.intro hN (And.intro hM (And.intro hN2 hM2)))
  rw [hN] at m1
  rw [hM] at m2
  rw [hN2] at m3
  rw [hM2] at m4
  rw [hN, hN2] at HL
  rw [hM, hM2] at HL2
  rw [hN, hM, hN2, hM2] at HTR
  rw [hN, hM, hN2, hM2] at HD HS ⊢
  clear hN hM hN2 hM2
  have HBX := Lib.hid (fun V (hb : Below ((w.alloc (.cells #[.slice A N c, .slice B M k] 25)).alloc (.cells #[.slice A2 N2 c2, .slice B2 M2 k2] 25)).heap.size ((w.alloc (.cells #[.slice A N c, .slice B M k] 25)).alloc (.cells #[.slice A2 N2 c2, .slice B2 M2 k2] 25)) V) => show
      (V.cell? ⟨w.heap.size, 0, none⟩ = some (.slice A N c) ∧ V.cell? ⟨w.heap.size, 1, none⟩ = some (.slice B M k)) ∧ (V.cell? ⟨w.heap.size + 1, 0, none⟩ = some (.slice A2 N2 c2) ∧ V.cell? ⟨w.heap.size + 1, 1, none⟩ = some (.slice B2 M2 k2)) from by
    have b1 := Box.alloc (Box.new w #[.slice A N c, .slice B M k] 25) (.cells #[.slice A2 N2 c2, .slice B2 M2 k2] 25)
    have b2 := Box.new (w.alloc (.cells #[.slice A N c, .slice B M k] 25)) #[.slice A2 N2 c2, .slice B2 M2 k2] 25
    rw [World.size_alloc] at b2
    exact ⟨⟨(b1.below hb).cell 0, (b1.below hb).cell 1⟩, (b2.below hb).cell 0, (b2.below hb).cell 1⟩)
  by_cases hn : N = N2
  · have hnd : ((N : Int) != (N2 : Int)) = false := by simp [hn]
    by_cases hm : M = M2
    · subst hn hm
      clear hnd HL HL2
      go_enter Try.func15, Try.ntmps15
      go_wp2_with fail
      generalize World.alloc _ _ = W at *
      obtain ⟨⟨x0, x1⟩, y0, y1⟩ := HBX.out _ (Below.refl _ _)
      go_wp2_with fail
      clear x0 x1 y0 y1
      go_loopw [5] (fun i wr => ∃ j : Nat, j ≤ N ∧ i = .int .i64 j ∧ sq n.q n2.q j ∧ Below W.heap.size W wr) (fun i _ => N - (intOf i).toNat)
      case atStart => exact ⟨0, Nat.zero_le _, rfl, sq_zero _ _, Below.refl _ _⟩
      case round =>
        obtain ⟨j, hj, rfl, hsq, hb⟩ := hrel
        obtain ⟨⟨x0, x1⟩, y0, y1⟩ := HBX.out _ hb
        by_cases hlt : j < N
        · have hjl : j < n.q.length := by have := HN.out.1; omega
          have hjl2 : j < n2.q.length := by have := HN.out.2.2.1; omega
          have hp : n.q[j]? = some n.q[j] := List.getElem?_eq_getElem hjl
          have hr : n2.q[j]? = some n2.q[j] := List.getElem?_eq_getElem hjl2
          obtain ⟨p, hpe⟩ : ∃ p, n.q[j] = p := ⟨_, rfl⟩
          obtain ⟨r, hre⟩ : ∃ r, n2.q[j] = r := ⟨_, rfl⟩
          rw [hpe] at hp
          rw [hre] at hr
          clear hpe hre
          obtain ⟨b, off, D, d, rfl, hlb, a0, a1, a2, a3⟩ := (HS.out.1.1.up hb).at_ hp
          obtain ⟨b', off', E, e, rfl, hlb', e0, e1, e2, e3⟩ := (HS.out.2.1.up hb).at_ hr
          have HPR := Lib.hid (And.intro hp (And.intro hr (And.intro hsq hb)))
          have HSPJ := Lib.hid (HSP.out p r D E d e wr.drew (a3.up (Below.refl _ wr).drew) (e3.up (Below.refl _ wr).drew))
          clear hp hr hsq a3 e3
          have hjj : (j : Int) < (N : Int) := by omega
          have hj0 : (0 : Int) ≤ (j : Int) := by omega
          have HSC := Lib.hid (spk_cases p r)
          obtain ⟨ss, hss⟩ : ∃ ss, spk p r = ss := ⟨_, rfl⟩
          rw [hss] at HSPJ
          have HSS := Lib.hid hss
          clear hss
          generalize p.da.length = mp at *
          generalize r.da.length = mr at *
          generalize p.fr = pa at *
          generalize p.to = pb at *
          generalize r.fr = ra at *
          generalize r.to = rb at *
          go_wp2_with fail
          have HQ := Lib.hid (show wr.drew.cell? ⟨w.heap.size, 0, none⟩ = some (.slice (some ⟨b, off, none⟩) N c) ∧ wr.drew.cell? ⟨w.heap.size + 1, 0, none⟩ = some (.slice (some ⟨b', off', none⟩) N c2) ∧ wr.drew.cell? ⟨b, off + j * 3, none⟩ = some (.int .i64 pa) ∧ wr.drew.cell? ⟨b, off + j * 3 + 1, none⟩ = some (.int .i64 pb) ∧ wr.drew.cell? ⟨b, off + j * 3 + 2, none⟩ = some (.slice D mp d) ∧ wr.drew.cell? ⟨b', off' + j * 3, none⟩ = some (.int .i64 ra) ∧ wr.drew.cell? ⟨b', off' + j * 3 + 1, none⟩ = some (.int .i64 rb) ∧ wr.drew.cell? ⟨b', off' + j * 3 + 2, none⟩ = some (.slice E mr e) from ⟨x0, y0, a0, a1, a2, e0, e1, e2⟩)
          have HX1 := Lib.hid (World.block_lt_of_cell? _ _ x0)
          have HX2 := Lib.hid (World.block_lt_of_cell? _ _ y0)
          have HK := Lib.hid (fun V (hv : Below wr.heap.size wr V) => show V.cell? ⟨w.heap.size, 0, none⟩ = some (.slice (some ⟨b, off, none⟩) N c) ∧ V.cell? ⟨w.heap.size + 1, 0, none⟩ = some (.slice (some ⟨b', off', none⟩) N c2) ∧ V.cell? ⟨b, off + j * 3, none⟩ = some (.int .i64 pa) ∧ V.cell? ⟨b, off + j * 3 + 1, none⟩ = some (.int .i64 pb) ∧ V.cell? ⟨b, off + j * 3 + 2, none⟩ = some (.slice D mp d) ∧ V.cell? ⟨b', off' + j * 3, none⟩ = some (.int .i64 ra) ∧ V.cell? ⟨b', off' + j * 3 + 1, none⟩ = some (.int .i64 rb) ∧ V.cell? ⟨b', off' + j * 3 + 2, none⟩ = some (.slice E mr e) from
            ⟨(hv.cell (p := ⟨w.heap.size, 0, none⟩) HX1.out).trans x0, (hv.cell (p := ⟨w.heap.size + 1, 0, none⟩) HX2.out).trans y0, (hv.cell (p := ⟨b, off + j * 3, none⟩) hlb).trans a0, (hv.cell (p := ⟨b, off + j * 3 + 1, none⟩) hlb).trans a1, (hv.cell (p := ⟨b, off + j * 3 + 2, none⟩) hlb).trans a2, (hv.cell (p := ⟨b', off' + j * 3, none⟩) hlb').trans e0, (hv.cell (p := ⟨b', off' + j * 3 + 1, none⟩) hlb').trans e1, (hv.cell (p := ⟨b', off' + j * 3 + 2, none⟩) hlb').trans e2⟩)
          clear x0 x1 y0 y1 a0 a1 a2 e0 e1 e2 hlb hlb' hb
          cases ss
          all_goals
            go_region_held3 (fun w' => w'.cell? ⟨w.heap.size, 0, none⟩ = some (.slice (some ⟨b, off, none⟩) N c) ∧ w'.cell? ⟨w.heap.size + 1, 0, none⟩ = some (.slice (some ⟨b', off', none⟩) N c2) ∧ w'.cell? ⟨b, off + j * 3, none⟩ = some (.int .i64 pa) ∧ w'.cell? ⟨b, off + j * 3 + 1, none⟩ = some (.int .i64 pb) ∧ w'.cell? ⟨b, off + j * 3 + 2, none⟩ = some (.slice D mp d) ∧ w'.cell? ⟨b', off' + j * 3, none⟩ = some (.int .i64 ra) ∧ w'.cell? ⟨b', off' + j * 3 + 1, none⟩ = some (.int .i64 rb) ∧ w'.cell? ⟨b', off' + j * 3 + 2, none⟩ = some (.slice E mr e))
              (with_reducible first | exact HQ.out | exact HK.out _ B5.out)
              (first
                | (go_at_call 22; ((with_reducible refine HSPJ.out.mono ?_); rintro e w5 ⟨rfl, hb5⟩; have B5 := Lib.hid (show Below wr.heap.size wr w5 from (Below.refl _ wr).drew.trans hb5); clear hb5))
                | fail)
            go_wp2_with fail
          · go_ret
            exact ⟨by rw [smn_q HPR.out.1 HPR.out.2.1 HSS.out]; rfl, HD.out.below.trans ((HPR.out.2.2.2.trans (B5.out.mono HPR.out.2.2.2.size)).mono HD.out.below.size)⟩
          · go_roundw
            case rel => exact ⟨j + 1, by omega, by go_num, sq_succ HPR.out.2.2.1 HPR.out.1 HPR.out.2.1 HSS.out, HPR.out.2.2.2.trans (B5.out.mono HPR.out.2.2.2.size)⟩
            case measure => simp [intOf]; omega
        · obtain rfl : j = N := by omega
          have HSQ := Lib.hid (And.intro hsq hb)
          clear hsq hb
          go_wp2_with fail
          clear x0 x1 y0 y1
          go_loopw [6] (fun i wr => ∃ h : Nat, h ≤ M ∧ i = .int .i64 h ∧ sa n.ap n2.ap h ∧ Below W.heap.size W wr) (fun i _ => M - (intOf i).toNat)
          case atStart => exact ⟨0, Nat.zero_le _, rfl, sa_zero _ _, HSQ.out.2⟩
          case round =>
            obtain ⟨h, hh, rfl, hsa, hb⟩ := hrel
            obtain ⟨⟨x0, x1⟩, y0, y1⟩ := HBX.out _ hb
            by_cases hlt2 : h < M
            · have hjl : h < n.ap.length := by have := HN.out.2.1; omega
              have hjl2 : h < n2.ap.length := by have := HN.out.2.2.2; omega
              have hp : n.ap[h]? = some n.ap[h] := List.getElem?_eq_getElem hjl
              have hr : n2.ap[h]? = some n2.ap[h] := List.getElem?_eq_getElem hjl2
              obtain ⟨p, hpe⟩ : ∃ p, n.ap[h] = p := ⟨_, rfl⟩
              obtain ⟨r, hre⟩ : ∃ r, n2.ap[h] = r := ⟨_, rfl⟩
              rw [hpe] at hp
              rw [hre] at hr
              clear hpe hre
              obtain ⟨b, off, rfl, hlb, a0, a1⟩ := (HS.out.1.2.up hb).at_ hp
              obtain ⟨b', off', rfl, hlb', e0, e1⟩ := (HS.out.2.2.up hb).at_ hr
              obtain ⟨p1, p2⟩ := p
              obtain ⟨r1, r2⟩ := r
              simp only at a0 a1 e0 e1
              have HPR := Lib.hid (And.intro hp (And.intro hr (And.intro hsa hb)))
              have hnq : neqp p1 p2 r1 r2 = !((p1, p2) == (r1, r2)) := rfl
              clear hp hr hsa hb
              rcases pair_cases (p1, p2) (r1, r2) with hc | hc
              · rw [hc] at hnq
                have HCC := Lib.hid hc
                clear hc
                go_wp2_with fail
                go_quiet (fail)
                go_wp2_with fail
                go_roundw
                case rel => exact ⟨h + 1, by omega, by go_num, sa_succ HPR.out.2.2.1 HPR.out.1 HPR.out.2.1 HCC.out, HPR.out.2.2.2.trans ((below_drewN wr nq).mono HPR.out.2.2.2.size)⟩
                case measure => simp [intOf]; omega
              · rw [hc] at hnq
                have HCC := Lib.hid hc
                clear hc
                go_wp2_with fail
                go_quiet (fail)
                go_wp2_with fail
                go_ret
                exact ⟨by rw [smn_a HPR.out.1 HPR.out.2.1 HCC.out]; rfl, HD.out.below.trans ((HPR.out.2.2.2.trans ((below_drewN wr nq).mono HPR.out.2.2.2.size)).mono HD.out.below.size)⟩
            · obtain rfl : h = M := by omega
              have HF := Lib.hid (HTR.out trivial trivial HSQ.out.1 hsa)
              have HB := Lib.hid hb
              clear hsa hb
              go_wp2_with fail
              go_ret
              exact ⟨by rw [HF.out]; rfl, HD.out.below.trans (HB.out.mono HD.out.below.size)⟩
    · have HF := Lib.hid (HL2.out hm)
      have hmd : ((M : Int) == (M2 : Int)) = false := by simp; omega
      have hmd2 : ((M : Int) != (M2 : Int)) = true := by simp; omega
      clear hm
      subst hn
      clear hnd
      go_enter Try.func15, Try.ntmps15
      go_wp2_with fail
      go_ret
      exact ⟨by rw [HF.out]; rfl, HD.out.below⟩
  · have HF := Lib.hid (HL.out hn)
    have hmd : ((N : Int) == (N2 : Int)) = false := by simp; omega
    have hmd2 : ((N : Int) != (N2 : Int)) = true := by simp; omega
    clear hn
    go_enter Try.func15, Try.ntmps15
    go_wp2_with fail
    go_ret
    exact ⟨by rw [HF.out]; rfl, HD.out.below⟩
end Go.Proofs.Ytojijebmipgeeaa
