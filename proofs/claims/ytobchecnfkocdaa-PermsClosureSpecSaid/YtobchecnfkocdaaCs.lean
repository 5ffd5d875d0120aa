/- Closure. -/
import Derived.Test.YtobchecnfkocdaaEx
import Derived.Test.YtobchecnfkocdaaSr
namespace Go.Proofs.Ytobchecnfkocdaa
open Go.RowKit
set_option linter.unusedVariables false
set_option linter.unusedSimpArgs false

/-- In the middle of Closure: the group of the first generators. -/
structure Grp (N : Nat) (gs K els : List (List Nat)) : Prop where
  pmK : ∀ q ∈ K, Pm N q
  pme : ∀ q ∈ els, Pm N q
  nd : els.Nodup
  len : els.length ≤ 4096
  same : ∀ q, Gen N K q ↔ Gen N gs q
  all : ∀ q, q ∈ els ↔ Gen N gs q
theorem Grp.start (N : Nat) : Grp N [] [] [List.range N] := by
  refine ⟨fun q h => absurd h (List.not_mem_nil), fun q h => by rw [List.mem_singleton.1 h]; exact Pm.id N, by simp, by simp, fun q => Iff.rfl, fun q => ?_⟩
  rw [List.mem_singleton]
  constructor
  · rintro rfl; exact Gen.id
  · intro h
    cases h with
    | id => rfl
    | mul _ hm => exact absurd hm (List.not_mem_nil)
theorem Grp.next {N : Nat} {gs K els K' els' : List (List Nat)} {p : List Nat} (h : Grp N gs K els) (hg : ∀ q ∈ gs, Pm N q) (hp : Pm N p) (he : ExtP N K els p true K' els') : Grp N (gs ++ [p]) K' els' := by
  rcases he with ⟨h1, _, rfl, rfl⟩ | ⟨h1, rfl, h2, h3, h4, h5, h6, h7, _⟩
  · have hgp : Gen N gs p := (h.all p).1 h1
    have hi := gen_in hg hgp
    exact ⟨h.pmK, h.pme, h.nd, h.len, fun q => (h.same q).trans (hi q).symm, fun q => (h.all q).trans (hi q).symm⟩
  · have hm := gen_more h.pmK hg hp h.same
    have hn := gen_new h.pmK hp (fun q => (h.all q).trans (h.same q).symm) h2 (h7 rfl) h6
    exact ⟨pm_app h.pmK hp, h5, h3, h4, hm, fun q => (hn q).trans (hm q)⟩
/-- More elements than there may be. -/
def Big (N : Nat) (gs : List (List Nat)) : Prop := ∃ M : List (List Nat), M.Nodup ∧ M.length = 4097 ∧ ∀ q ∈ M, Gen N gs q
theorem Grp.big {N : Nat} {gs K els K' els' : List (List Nat)} {p : List Nat} (h : Grp N gs K els) (hg : ∀ q ∈ gs, Pm N q) (hp : Pm N p) (he : ExtP N K els p false K' els') : Big N (gs ++ [p]) := by
  rcases he with ⟨_, h1, _⟩ | ⟨h1, rfl, h2, h3, h4, h5, h6, _, h8⟩
  · cases h1
  · obtain ⟨h9, x, y, hx, hy, hz⟩ := h8 rfl
    obtain ⟨M, m1, m2, m3⟩ := gen_big (fun q => (h.all q).trans (h.same q).symm) h6 h3 hx hy hz
    exact ⟨M, m1, by omega, fun q hq => (gen_more h.pmK hg hp h.same q).1 (m3 q hq)⟩
theorem Big.more {N : Nat} {a b : List (List Nat)} (h : Big N a) (hs : ∀ g ∈ a, g ∈ b) : Big N b := by
  obtain ⟨M, m1, m2, m3⟩ := h
  exact ⟨M, m1, m2, fun q hq => Gen.sub hs (m3 q hq)⟩
/-- What Closure hands back for valid generators. -/
def ClQ (N : Nat) (gs : List (List Nat)) (w : World) (e : Ending) (w' : World) : Prop :=
  (Big N gs ∧ e = .returned (.tuple #[.slice none 0 0, .int .i64 2]) ∧ Below w.heap.size w w') ∨
  ∃ (A : Option Addr) (m c : Nat) (ls : List (List Nat)), e = .returned (.tuple #[.slice A m c, .int .i64 0]) ∧ OL w.heap.size w' A m c (ls.map ints) ∧ Srt (ls.map ints) ∧ (∀ p, p ∈ ls ↔ Gen N gs p) ∧ ls.length ≤ 4096 ∧ Below w.heap.size w w'
def ClP (n : Int) (gens : List (List Int)) (w : World) (e : Ending) (w' : World) : Prop :=
  (cge n gens ≠ 0 ∧ e = .returned (.tuple #[.slice none 0 0, .int .i64 (cge n gens)]) ∧ Below w.heap.size w w') ∨
  (cge n gens = 0 ∧ ∃ (N : Nat) (gs : List (List Nat)), n = (N : Int) ∧ N ≤ 256 ∧ gens = gs.map ints ∧ (∀ g ∈ gs, Pm N g) ∧ ClQ N gs w e w')
theorem srt_nodup {ls : List (List Nat)} (h : Srt (ls.map ints)) : ls.Nodup := by
  have := h.nodup
  unfold List.Nodup at this ⊢
  rw [List.pairwise_map] at this
  exact this.imp (fun {a b} hab e => hab (by rw [e]))
/-- What this loop keeps. -/
def ClR (N : Nat) (gs : List (List Nat)) (B G mb : Nat) (w wr : World) (j : Nat) : Prop :=
  ∃ (K els : List (List Nat)) (Ag : Option Addr) (cg : Nat) (Ae : Option Addr) (ce : Nat), Grp N (gs.take j) K els ∧ K.length ≤ j ∧ GS B N wr G K els mb els.length Ag cg Ae ce ∧ Below w.heap.size w wr ∧ w.heap.size ≤ B ∧ B ≤ wr.heap.size

set_option maxHeartbeats 8000000 in
set_option maxRecDepth 100000 in
theorem closure_any (hsort : SortE) (n : Int) (A : Option Addr) (c : Nat) (gens : List (List Int)) (w : World) (hA : RI w A gens c) :
    Calls Try.prog 19 #[.int .i64 n, .slice A gens.length c] w (ClP n gens w) := by
  have HC := Lib.hid (checkGens_any n A c gens w hA)
  have HST := Lib.hid hsort
  clear hsort
  obtain ⟨o, ho⟩ : ∃ o, cge n gens = o := ⟨_, rfl⟩
  have HO := Lib.hid ho
  rw [ho] at HC
  by_cases q : o = 0
  case neg =>
    have d1 : (o != 0) = true := by rw [bne_iff_ne]; exact q
    have HQ := Lib.hid q
    generalize gens.length = L at *
    clear hA ho q
    go_enter Try.func19, Try.ntmps19
    go_wp2_with fail
    refine HC.out.mono ?_
    rintro e w1 ⟨rfl, hb⟩
    have HB := Lib.hid hb
    clear hb
    go_wp2_with fail
    go_ret2
    exact .inl ⟨by rw [HO.out]; exact HQ.out, by rw [HO.out]; rfl, HB.out⟩
  subst q
  obtain ⟨N, gs, rfl, hN, hgs, hpm, hlen⟩ := cge_ok ho
  have HK := Lib.hid (And.intro hgs hpm)
  have HA := Lib.hid (show RI w A (gs.map ints) c from by rw [← hgs]; exact hA)
  have hgl : gens.length = gs.length := by rw [hgs, List.length_map]
  rw [hgl] at HC hlen ⊢
  obtain ⟨L, hL⟩ : ∃ L, gs.length = L := ⟨_, rfl⟩
  have HL := Lib.hid hL
  rw [hL] at HC hlen ⊢
  have HFIN := Lib.hid (fun e w' (h : ClQ N gs w e w') => show ClP (N : Int) gens w e w' from .inr ⟨ho, N, gs, rfl, hN, hgs, hpm, h⟩)
  clear hA ho hgs hpm hgl hL
  go_enter Try.func19, Try.ntmps19
  go_wp2_with fail
  refine HC.out.mono ?_
  rintro e w1 ⟨rfl, hb⟩
  have HB := Lib.hid hb
  have HTG := Lib.hid (trivial_any N w1 hN)
  clear hb HC
  go_wp2_with fail
  refine HTG.out.mono ?_
  rintro e w2 ⟨G, mb, Ae, ce, rfl, hgs, hb⟩
  have HR0 := Lib.hid (show ClR N gs w1.heap.size G mb w w2 0 from ⟨[], [List.range N], none, 0, Ae, ce, Grp.start N, Nat.le_refl _, hgs, HB.out.trans (hb.mono HB.out.size), HB.out.size, hb.size⟩)
  clear hgs hb HTG
  obtain ⟨B, hBe⟩ : ∃ B, w1.heap.size = B := ⟨_, rfl⟩
  rw [hBe] at HR0
  clear hBe HB
  go_wp2_with fail
  go_loopw [19] (fun i wr => ∃ j : Nat, j ≤ L ∧ i = .int .i64 (j : Int) ∧ ClR N gs B G mb w wr j) (fun i _ => L - (intOf i).toNat)
  case atStart => exact ⟨0, Nat.zero_le _, rfl, HR0.out⟩
  case round =>
    obtain ⟨j, hj, rfl, hr⟩ := hrel
    clear HR0
    obtain ⟨K, els, Ag, cg, Ae, ce, hgrp, hKl, hGS, hbw, hwB, hBw⟩ := hr
    have KR := Lib.hid (And.intro hgrp (And.intro hGS (And.intro hbw (And.intro hwB hBw))))
    clear hgrp hGS hbw hwB hBw
    by_cases hlt : j < L
    case neg =>
      have hdj : decide ((j : Int) < (L : Int)) = false := decide_eq_false (by omega)
      obtain rfl : j = L := by omega
      have htk : gs.take j = gs := List.take_of_length_le (by rw [HL.out]; exact Nat.le_refl _)
      have hgr := KR.out.1
      rw [htk] at hgr
      have HGR := Lib.hid hgr
      have hpos : 0 < els.length := List.length_pos_of_mem ((hgr.all _).2 Gen.id)
      have HSR := Lib.hid (sorted_any HST.out B N G K els mb els.length Ag cg Ae ce wr KR.out.2.1 hN hgr.nd hpos hgr.len)
      clear hgr htk hpos
      go_wp2_with fail
      refine HSR.out.mono ?_
      rintro e w4 ⟨A', m, c', ls, rfl, hol, hsr, hmem, hb4⟩
      have HF := Lib.hid (HFIN.out (.returned (.tuple #[.slice A' m c', .int .i64 0])) w4 (.inr ⟨A', m, c', ls, rfl, by
        obtain ⟨h0, vs, h1, h2⟩ := hol
        exact ⟨h0, vs, own_mono h1 KR.out.2.2.2.1, h2⟩, hsr, fun p => (hmem p).trans (HGR.out.all p), by
          rw [nd_len (srt_nodup hsr) HGR.out.nd hmem]
          exact HGR.out.len, KR.out.2.2.1.trans (hb4.mono KR.out.2.2.2.1)⟩))
      clear hol hsr hmem hb4
      go_wp2_with fail
      go_ret2
      exact HF.out
    have hdj : decide ((j : Int) < (L : Int)) = true := decide_eq_true (by omega)
    obtain ⟨p, hp⟩ : ∃ p, gs[j]? = some p := ⟨_, List.getElem?_eq_getElem (by rw [HL.out]; exact hlt)⟩
    have hpm := HK.out.2 p (List.mem_of_getElem? hp)
    obtain ⟨b, off, A1, c1, rfl, hbl, hc, hs⟩ := HA.out.at_ (i := j) (l := ints p) (by rw [List.getElem?_map, hp]; rfl)
    rw [ints_length] at hc
    have z0 : wr.cell? ⟨b, off + j, none⟩ = some (.slice A1 p.length c1) := (KR.out.2.2.1.cell (p := ⟨b, off + j, none⟩) hbl).trans hc
    have htk : gs.take (j + 1) = gs.take j ++ [p] := take_next hp
    have htp : ∀ q ∈ gs.take j, Pm N q := fun q hq => HK.out.2 q (List.mem_of_mem_take hq)
    have HEL := Lib.hid (elementOf_any A1 c1 p wr (hs.up KR.out.2.2.1) (fun x hx => by have := hpm.2.1 x hx; omega) (by have := hpm.1; omega))
    have HEX := Lib.hid (fun V (hV : Below wr.heap.size wr V) => extend_any B N G K els mb Ag cg Ae ce p V (KR.out.2.1.up hV) hpm hN KR.out.1.pmK KR.out.1.pme KR.out.1.nd KR.out.1.len (by omega))
    have HPP := Lib.hid (And.intro hpm (And.intro htk htp))
    have i0 : (0 : Int) ≤ (j : Int) := by omega
    have i1 : (j : Int) < (L : Int) := by omega
    have HSUB := Lib.hid (fun g (hg : g ∈ gs.take (j + 1)) => List.mem_of_mem_take hg)
    generalize p.length = pl at *
    clear hp hpm hbl hc hs htk htp
    go_wp2_with fail
    refine HEL.out.mono ?_
    rintro e w3 ⟨rfl, hb3⟩
    have HX3 := Lib.hid (HEX.out w3 hb3)
    have HB3 := Lib.hid (KR.out.2.2.1.trans (hb3.mono (Nat.le_trans KR.out.2.2.2.1 KR.out.2.2.2.2)))
    have HB3s := Lib.hid (Nat.le_trans KR.out.2.2.2.2 hb3.size)
    clear hb3 HEL HEX z0
    go_wp2_with fail
    refine HX3.out.mono ?_
    rintro e w4 ⟨bb, K', els', Ag', cg', Ae', ce', rfl, hGS, hb4, hext⟩
    have hlK : K'.length ≤ j + 1 := by
      rcases hext with ⟨_, _, rfl, _⟩ | ⟨_, rfl, _⟩
      · omega
      · rw [List.length_append, List.length_singleton]; omega
    have K4 := Lib.hid (And.intro hGS (And.intro (HB3.out.trans (hb4.mono KR.out.2.2.2.1)) (And.intro hext (Nat.le_trans HB3s.out hb4.size))))
    clear hGS hb4 hext HX3
    cases bb with
    | true =>
      go_wp2_with fail
      go_roundw
      case rel => exact ⟨j + 1, by omega, by go_num, K', els', Ag', cg', Ae', ce', by rw [HPP.out.2.1]; exact KR.out.1.next HPP.out.2.2 HPP.out.1 K4.out.2.2.1, hlK, K4.out.1, K4.out.2.1, KR.out.2.2.2.1, K4.out.2.2.2⟩
      case measure => simp [intOf]; omega
    | false =>
      have HF := Lib.hid (HFIN.out (.returned (.tuple #[.slice none 0 0, .int .i64 2])) w4 (.inl ⟨by
        have h1 := KR.out.1.big HPP.out.2.2 HPP.out.1 K4.out.2.2.1
        rw [← HPP.out.2.1] at h1
        exact h1.more HSUB.out, rfl, K4.out.2.1⟩))
      go_wp2_with fail
      go_ret2
      exact HF.out
end Go.Proofs.Ytobchecnfkocdaa
