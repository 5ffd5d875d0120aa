/- DiskTogether. -/
import Derived.Test.YtiphajgmjmjanaaSane
import Derived.Test.YtiphajgmjmjanaaFew
import Derived.Test.YtiphajgmjmjanaaSame
import Derived.Test.YtiphajgmjmjanaaPlT
import Derived.Test.YtiphajgmjmjanaaRow
import Derived.Deep.Cut
import Derived.Deep.CutRange
import Derived.Deep.CutBlock
import Derived.Deep.RegionHeld3
namespace Go.Proofs.Ytiphajgmjmjanaa
open Go.RowKit
set_option linter.unusedVariables false
set_option linter.unusedSimpArgs false

theorem AA.up {w w' : World} {A : Option Addr} {l : List (Bool × UInt8 × UInt8)} {c : Nat} (h : AA w A l c) (k : Below w.heap.size w w') : AA w' A l c := by
  refine ⟨fun hp => ?_, h.2⟩
  obtain ⟨b, off, e, hb, hs⟩ := h.1 hp
  refine ⟨b, off, e, Nat.lt_of_lt_of_le hb k.size, fun i s hi => ?_⟩
  obtain ⟨h1, h2, h3⟩ := hs i s hi
  exact ⟨(k.cell (p := ⟨b, off + i * 3, none⟩) hb).trans h1, (k.cell (p := ⟨b, off + i * 3 + 1, none⟩) hb).trans h2, (k.cell (p := ⟨b, off + i * 3 + 2, none⟩) hb).trans h3⟩
/-- Four cells of another box are written. -/
theorem box_keep4 {w : World} {g b : Nat} {t : TypeId} {cs : Array Value} (v0 v1 v2 v3 : Value) (h : Box w g cs t) (hne : g ≠ b) : Box ((((w.setCell ⟨b, 0, none⟩ v0).setCell ⟨b, 1, none⟩ v1).setCell ⟨b, 2, none⟩ v2).setCell ⟨b, 3, none⟩ v3) g cs t :=
  box_other (box_other (box_other (box_other h hne) hne) hne) hne
/-- The writes of a script on a disk of N sectors. -/
def acw (N : Nat) (l : List (Bool × UInt8 × UInt8)) : List (Int × List UInt8) := l.map fun a => (((a.2.1.toNat % N : Nat) : Int), sec [a.2.2])
theorem acw_length (N : Nat) (l : List (Bool × UInt8 × UInt8)) : (acw N l).length = l.length := by simp [acw]
theorem acw_get {N i : Nat} {l : List (Bool × UInt8 × UInt8)} {a : Bool × UInt8 × UInt8} (h : l[i]? = some a) : (acw N l)[i]? = some (((a.2.1.toNat % N : Nat) : Int), sec [a.2.2]) := by
  unfold acw
  rw [List.getElem?_map, h]
  rfl
theorem acw_has {d : Dk} {l : List (Bool × UInt8 × UInt8)} (hN : 0 < d.secs.length) : ∀ a ∈ acw d.secs.length l, has d a.1 = true ∧ a.2.length = 128 := by
  intro a ha
  obtain ⟨b, _, e⟩ := List.mem_map.1 ha
  subst e
  refine ⟨decide_eq_true ⟨by omega, ?_⟩, sec_length _⟩
  have := Nat.mod_lt b.2.1.toNat hN
  show ((b.2.1.toNat % d.secs.length : Nat) : Int) < _
  omega

theorem whl_sy {d : Dk} (h : rng d = true) : whl (sy d) := by
  obtain ⟨hv, _⟩ := rng_facts h
  obtain ⟨f1, f2, f3, f4, f5⟩ := vld_facts.1 hv
  unfold sy
  rw [if_neg (by rw [h]; decide)]
  split
  · refine ⟨fun s hs => ?_, fun a ha => by cases ha⟩
    have hp := perf_mem (d.pend.take d.left.toNat) d.secs f4 (fun a ha => (f5 a (List.mem_of_mem_take ha)).2)
    rename_i hst
    unfold stops at hst
    obtain ⟨q1, q2⟩ := of_decide_eq_true hst
    have hlt : d.left.toNat < d.pend.length := by omega
    have hg : d.pend.getD d.left.toNat (0, []) = d.pend[d.left.toNat] := by rw [List.getD_eq_getElem?_getD, List.getElem?_eq_getElem hlt]; rfl
    obtain ⟨⟨g1, g2⟩, g3⟩ := f5 _ (List.getElem_mem hlt)
    rcases List.mem_or_eq_of_mem_set hs with h1 | h1
    · exact hp s h1
    · subst h1
      rw [hg]
      have hlt2 : (d.pend[d.left.toNat]).1.toNat < (perf d.secs (d.pend.take d.left.toNat)).length := by rw [perf_length]; omega
      refine torn_length ?_ g3
      rw [List.getD_eq_getElem?_getD, List.getElem?_eq_getElem hlt2]
      exact hp _ (List.getElem_mem hlt2)
  · exact ⟨perf_mem d.pend d.secs f4 (fun a ha => (f5 a ha).2), fun a ha => by cases ha⟩
theorem tog_round {d : Dk} {l : List (Int × List UInt8)} {i : Nat} {k : Int} {b : List UInt8} (hr : rng d = true) (hrl : rng { d with pend := l } = true) (hl : ∀ a ∈ l, has d a.1 = true ∧ a.2.length = 128) (hi : d.left = -1 ∨ (i : Int) ≤ d.left) (hk : l[i]? = some (k, sec b)) (hb : b.length ≤ 128) :
    wre (tog d l i) k b = 0 ∧ whl (wr (tog d l i) k b) ∧ whl (sy (wr (tog d l i) k b)) ∧ ((sye (wr (tog d l i) k b) = 0 ∧ sy (wr (tog d l i) k b) = tog d l (i + 1) ∧ (d.left = -1 ∨ ((i + 1 : Nat) : Int) ≤ d.left)) ∨ (sye (wr (tog d l i) k b) = 70 ∧ sy (wr (tog d l i) k b) = sy { d with pend := l } ∧ sye { d with pend := l } = 70)) := by
  obtain ⟨h1, h2, h3⟩ := tog_step hr hrl hl hi hk hb
  have h4 := wr_rng h1
  refine ⟨h1, whl_vld (rng_facts h4).1, whl_sy h4, ?_⟩
  by_cases e : d.left = (i : Int)
  · obtain ⟨q1, q2, q3⟩ := h2 e
    exact Or.inr ⟨q1, q3, q2⟩
  · exact Or.inl (h3 e)

theorem pend_round {d : Dk} {l : List (Int × List UInt8)} {i : Nat} {k : Int} {b : List UInt8} (hr : rng d = true) (hp : d.pend = []) (hl : ∀ a ∈ l, has d a.1 = true ∧ a.2.length = 128) (hn : l.length ≤ 4096) (hk : l[i]? = some (k, sec b)) (hb : b.length ≤ 128) :
    wre { d with pend := l.take i } k b = 0 ∧ whl (wr { d with pend := l.take i } k b) ∧ wr { d with pend := l.take i } k b = { d with pend := l.take (i + 1) } := by
  have hil := (List.getElem?_eq_some_iff.1 hk).1
  have hrt := wr_many hr hp (l.take i) (by rw [List.length_take]; omega) (fun a ha => hl a (List.mem_of_mem_take ha))
  have hw := wre_zero (d := { d with pend := l.take i }) (k := k) (b := b) hrt (hl _ (List.mem_of_getElem? hk)).1 hb (by show (l.take i).length < 4096; rw [List.length_take]; omega)
  refine ⟨hw, whl_vld (rng_facts (wr_rng hw)).1, ?_⟩
  rw [(wr_ok hw).2.2.2.2, take_snoc hk]

set_option maxHeartbeats 40000000 in
set_option maxRecDepth 100000 in
theorem lawTog_any (d : Dk) (A B C : Option Addr) (ca k0 cs : Nat) (l : List (Bool × UInt8 × UInt8)) (w : World) (hS : DkIn w d A ca B k0) (hC : AA w C l cs) :
    Calls Try.prog 8 #[dkv d A ca B k0, .slice C l.length cs] w fun e w' => e = .returned (.bool true) ∧ Below w.heap.size w w' := by
  obtain ⟨hx1, hi1, hb1⟩ := dk_put hS
  have HSN := Lib.hid (fun W => sane_any W)
  have HFW := Lib.hid (fun W (hb : Below w.heap.size w W) => few_any d A B ca k0 W (hS.up hb))
  have HCW := Lib.hid (fun W (hb : Below w.heap.size w W) => check_any d A B ca k0 W (hS.up hb))
  have HF := Lib.hid (fun W (hb : Below w.heap.size w W) => And.intro (hS.up hb) (hC.up hb))
  have hcm := Nat.le_trans hC.2.1 hC.2.2.1
  unfold maxLen at hcm
  obtain ⟨m1, m2⟩ := dkin_len hS
  have H1 := Lib.hid (And.intro hx1 hb1)
  unfold FewPost at *
  unfold dkv dkc at *
  clear hS hC hx1 hi1 hb1
  obtain ⟨n, hn⟩ : ∃ n, l.length = n := ⟨_, rfl⟩
  obtain ⟨N, hN⟩ : ∃ N, d.secs.length = N := ⟨_, rfl⟩
  obtain ⟨M, hM⟩ : ∃ M, d.pend.length = M := ⟨_, rfl⟩
  rw [hn] at hcm ⊢
  rw [hN] at HFW HCW m1 H1 ⊢
  rw [hM] at HFW HCW m2 H1 ⊢
  have HN := Lib.hid (And.intro hN (And.intro hM hn))
  clear hn hN hM
  go_enter Try.func8, Try.ntmps8
  go_wp2_with fail
  generalize w.alloc _ = u1 at *
  refine (HSN.out u1).mono ?_
  rintro e w1 ⟨rfl, hb1⟩
  have K1 := Lib.hid (And.intro (DBox.up H1.out.1 hb1) (bthen H1.out.2 hb1))
  clear hb1 H1
  obtain ⟨q0, q1, q2, q3⟩ := K1.out.1.cells
  rw [HN.out.1] at q0
  rw [HN.out.2.1] at q1
  go_wp2_with fail
  refine (HFW.out w1 K1.out.2).mono ?_
  rintro e w2 ⟨r, rfl, hb2⟩
  have K2 := Lib.hid (And.intro (DBox.up K1.out.1 hb2) (bthen K1.out.2 hb2))
  clear hb2 q0 q1 q2 q3 K1 HFW
  cases r
  · go_wp2_with fail
    go_ret
    exact ⟨rfl, K2.out.2⟩
  · by_cases hbig : 20 < n
    · have hd1 : decide ((20 : Int) < (n : Int)) = true := decide_eq_true (by omega)
      have hd2 : (20 : Int) < (n : Int) := by omega
      obtain ⟨q0, q1, q2, q3⟩ := K2.out.1.cells
      rw [HN.out.1] at q0
      rw [HN.out.2.1] at q1
      go_wp2_with fail
      go_ret
      exact ⟨rfl, K2.out.2⟩
    · have hd1 : decide ((20 : Int) < (n : Int)) = false := decide_eq_false (by omega)
      have hd2 : ¬ (20 : Int) < (n : Int) := by omega
      by_cases hM0 : 0 < M
      · have hd3 : decide ((0 : Int) < (M : Int)) = true := decide_eq_true (by omega)
        have hd4 : (0 : Int) < (M : Int) := by omega
        obtain ⟨q0, q1, q2, q3⟩ := K2.out.1.cells
        rw [HN.out.1] at q0
        rw [HN.out.2.1] at q1
        go_wp2_with fail
        go_ret
        exact ⟨rfl, K2.out.2⟩
      · obtain rfl : M = 0 := by omega
        obtain ⟨q0, q1, q2, q3⟩ := K2.out.1.cells
        rw [HN.out.1] at q0
        rw [HN.out.2.1] at q1
        by_cases hN0 : N = 0
        · subst hN0
          go_wp2_with fail
          go_ret
          exact ⟨rfl, K2.out.2⟩
        · have hd5 : ((N : Int) == 0) = false := by simp; omega
          have hd6 : ¬ (N : Int) = 0 := by omega
          by_cases hv : vld d = true
          · rw [show chk d = 0 by unfold chk; rw [if_pos hv]] at HCW
            go_wp2_with fail
            refine (HCW.out w2 K2.out.2).mono ?_
            rintro e w3 ⟨rfl, hb3⟩
            have K3 := Lib.hid (And.intro (DBox.up K2.out.1 hb3) (bthen K2.out.2 hb3))
            clear hb3 q0 q1 q2 q3 K2 HCW
            obtain ⟨q0, q1, q2, q3⟩ := K3.out.1.cells
            rw [HN.out.1] at q0
            rw [HN.out.2.1] at q1
            by_cases hst : d.stop = true
            · rw [hst] at q3
              go_wp2_with fail
              go_ret
              exact ⟨rfl, K3.out.2⟩
            · have hst2 : d.stop = false := by simpa using hst
              rw [hst2] at q3
              go_wp2_with fail
              clear hd1 hd2 hM0 hst
              go_cut [5, 6] from 47 (fun x y W' => ∃ b5 b6 : Nat, x = .pointer (some ⟨b5, 0, none⟩) ∧ y = .pointer (some ⟨b6, 0, none⟩) ∧ w.heap.size < b5 ∧ w.heap.size < b6 ∧ b5 ≠ b6 ∧ DBox W' b5 d A ca B k0 ∧ DBox W' b6 d A ca B k0 ∧ Below w3.heap.size w3 W')
              case first =>
                have HQ := Lib.hid (fun W (hb : Below w3.heap.size w3 W) => (DBox.up K3.out.1 hb).cells)
                rw [HN.out.1, HN.out.2.1, hst2] at HQ
                have hdk : dkc d A ca B k0 = #[.slice A N ca, .slice B 0 k0, .int .i64 d.left, .bool false] := by unfold dkc; rw [HN.out.1, HN.out.2.1, hst2]
                have x1 := Box.new w3 #[.slice A N ca, .slice B 0 k0, .int .i64 d.left, .bool false] 25
                have x2 := Box.new (w3.alloc (.cells #[.slice A N ca, .slice B 0 k0, .int .i64 d.left, .bool false] 25)) #[.slice A N ca, .slice B 0 k0, .int .i64 d.left, .bool false] 25
                rw [World.size_alloc] at x2
                have x3 := Box.alloc x1 (.cells #[.slice A N ca, .slice B 0 k0, .int .i64 d.left, .bool false] 25)
                rw [← hdk] at x2 x3
                have x4 := alloc2_below w3 (.cells #[.slice A N ca, .slice B 0 k0, .int .i64 d.left, .bool false] 25) (.cells #[.slice A N ca, .slice B 0 k0, .int .i64 d.left, .bool false] 25)
                rw [hdk] at x2 x3
                have HV5 := Lib.hid (And.intro (show DBox _ _ d A ca B k0 by unfold DBox; rw [hdk]; exact x3) (And.intro (show DBox _ _ d A ca B k0 by unfold DBox; rw [hdk]; exact x2) x4))
                have hz3 := Box.lt K3.out.1
                go_region_held3 (fun w' => w'.cell? ⟨w.heap.size, 0, none⟩ = some (.slice A N ca) ∧ w'.cell? ⟨w.heap.size, 1, none⟩ = some (.slice B 0 k0) ∧ w'.cell? ⟨w.heap.size, 2, none⟩ = some (.int .i64 d.left) ∧ w'.cell? ⟨w.heap.size, 3, none⟩ = some (.bool false))
                  (first | exact HQ.out _ (Below.refl w3.heap.size w3).drew | go_keep)
                  (first | fail)
                all_goals
                  go_wp2_with fail
                  go_meet
                  case rel => first | exact ⟨_, _, rfl, rfl, by omega, by omega, by omega, HV5.out.1, HV5.out.2.1, HV5.out.2.2.drew⟩ | exact ⟨_, _, rfl, rfl, by omega, by omega, by omega, HV5.out.2.1, HV5.out.1, HV5.out.2.2.drew⟩
              case rest =>
                obtain ⟨b5, b6, rfl, rfl, hz5, hz6, hz56, y5, y6, hbc⟩ := hcut
                have K4 := Lib.hid (And.intro (DBox.up K3.out.1 hbc) (And.intro y5 (And.intro y6 (bthen K3.out.2 hbc))))
                have hr : rng d = true := by unfold rng; rw [hv, hst2]; rfl
                have hpe : d.pend = [] := List.eq_nil_of_length_eq_zero HN.out.2.1
                have hacw := acw_has (d := d) (l := l) (by rw [HN.out.1]; omega)
                rw [HN.out.1] at hacw
                have hrl := wr_many hr hpe (acw N l) (by rw [acw_length, HN.out.2.2]; omega) hacw
                have hln : (acw N l).length = n := by rw [acw_length]; exact HN.out.2.2
                have HP := Lib.hid (And.intro hr (And.intro hpe (And.intro hacw (And.intro hrl (And.intro hln hst2)))))
                obtain ⟨E, hE⟩ : ∃ E, sye { d with pend := acw N l } = E := ⟨_, rfl⟩
                obtain ⟨Z, hZ⟩ : ∃ Z, sy { d with pend := acw N l } = Z := ⟨_, rfl⟩
                have HZ := Lib.hid (And.intro hE hZ)
                have hlf : -1 ≤ d.left := (vld_facts.1 hv).2.2.1.1
                have HLF := Lib.hid hlf
                clear hr hpe hacw hrl hln hst2 hE hZ hlf q0 q1 q2 q3 hbc y5 y6 K3 hv hd5
                go_upto_block 0 with fail
                go_cut [7] from 8 (fun e W' => ∃ A5 c5 B5 k5, e = .int .i64 E ∧ DBox W' b5 Z A5 c5 B5 k5 ∧ DkIn W' Z A5 c5 B5 k5 ∧ DBox W' b6 d A ca B k0 ∧ DBox W' w.heap.size d A ca B k0 ∧ Below w.heap.size w W')
                case first =>
                  go_wp2_with fail
                  go_loopw [7, 8] (fun e i wr => ∃ (k : Nat) (er : Int) (X : Dk) (A5 : Option Addr) (c5 : Nat) (B5 : Option Addr) (k5 : Nat), k ≤ n ∧ e = .int .i64 er ∧ i = .int .i64 k ∧ DBox wr b5 X A5 c5 B5 k5 ∧ DkIn wr X A5 c5 B5 k5 ∧ DBox wr b6 d A ca B k0 ∧ DBox wr w.heap.size d A ca B k0 ∧ Below w.heap.size w wr ∧ ((er = 0 ∧ X = tog d (acw N l) k ∧ (d.left = -1 ∨ (k : Int) ≤ d.left)) ∨ (er = 70 ∧ X = Z ∧ E = 70))) (fun e i _ => n - (intOf i).toNat)
                  case atStart => exact ⟨0, 0, d, A, ca, B, k0, Nat.zero_le _, rfl, rfl, K4.out.2.1, (HF.out wc K4.out.2.2.2).1, K4.out.2.2.1, K4.out.1, K4.out.2.2.2, Or.inl ⟨rfl, (tog_zero _ HP.out.2.1 HP.out.2.2.2.2.2).symm, by have := HLF.out; omega⟩⟩
                  case round =>
                    obtain ⟨k, er, X, A5, c5, B5, k5, hk, rfl, rfl, y5, i5, y6, y2, hbw, hX⟩ := hrel
                    have KR := Lib.hid (And.intro y5 (And.intro i5 (And.intro y6 (And.intro y2 hbw))))
                    clear y5 i5 y6 y2 hbw K4
                    rcases hX with ⟨rfl, hX, hlk⟩ | ⟨rfl, rfl, hE⟩
                    · by_cases hlt : k < n
                      · obtain ⟨a, ha⟩ : ∃ a, l[k]? = some a := ⟨_, List.getElem?_eq_getElem (by rw [HN.out.2.2]; exact hlt)⟩
                        obtain ⟨b, off, rfl, hb, hat⟩ := (HF.out wr KR.out.2.2.2.2).2.1 (by rw [HN.out.2.2]; omega)
                        obtain ⟨p0, p1, p2⟩ := hat k a ha
                        obtain ⟨hw0, hwy, hwz, hnx⟩ := tog_round HP.out.1 HP.out.2.2.2.1 HP.out.2.2.1 hlk (acw_get (N := N) ha) (by simp)
                        obtain ⟨ab, xa, xc⟩ := a
                        simp only at p1 p2 hw0 hwy hwz hnx
                        rw [← hX] at hw0 hwy hwz hnx
                        have hya := xa.toNat_lt
                        have hp1 : bv xa = .int .u8 (xa.toNat : Int) := rfl
                        have hp2 : bv xc = .int .u8 (xc.toNat : Int) := rfl
                        have hpl : xa.toNat % N < N := Nat.mod_lt _ (by omega)
                        rw [hp1] at p1
                        rw [hp2] at p2
                        have HWR := Lib.hid (fun W D kd (hb : DkIn W X A5 c5 B5 k5) (hD : Sl W D [xc] kd) => write_any X A5 B5 D c5 k5 kd ((xa.toNat % N : Nat) : Int) [xc] W hb hD)
                        rw [hw0] at HWR
                        obtain ⟨xn, hxn⟩ : ∃ xn, xa.toNat = xn := ⟨_, rfl⟩
                        obtain ⟨cn, hcn⟩ : ∃ cn, xc.toNat = cn := ⟨_, rfl⟩
                        rw [hxn] at p1 hya hpl HWR hw0 hwy hwz hnx
                        rw [hcn] at p2
                        obtain ⟨q, hq⟩ : ∃ q, xn % N = q := ⟨_, rfl⟩
                        have hwx : IntKind.i64.wrap (xn : Int) = (xn : Int) := by rw [IntKind.wrap_i64]; omega
                        have hrem : (xn : Int).tmod (N : Int) = (q : Int) := by rw [← hq]; rfl
                        rw [hq] at hpl HWR hw0 hwy hwz hnx
                        obtain ⟨Y, hY⟩ : ∃ Y, Go.Proofs.Ytiphajgmjmjanaa.wr X q [xc] = Y := ⟨_, rfl⟩
                        rw [hY] at HWR hwy hwz hnx
                        unfold DkPost at HWR
                        unfold dkv dkc at HWR
                        have HC := Lib.hid (And.intro hcn (And.intro hwy (And.intro hwz (And.intro hnx (And.intro hX hlk)))))
                        have q0 : wr.cell? ⟨w.heap.size, 0, none⟩ = some (.slice A N ca) := by have := KR.out.2.2.2.1.cells.1; rw [HN.out.1] at this; exact this
                        clear hxn hcn hq hw0 hwy hwz hnx hp1 hp2 hat ha hX hlk hY p0
                        have i1 : (0 : Int) ≤ (k : Int) := by omega
                        have i2 : (k : Int) < (n : Int) := by omega
                        have HQ := Lib.hid (show wr.drew.cell? ⟨w.heap.size, 0, none⟩ = some (.slice A N ca) ∧ wr.drew.cell? ⟨b, off + k * 3 + 1, none⟩ = some (.int .u8 (xn : Int)) from ⟨q0, p1⟩)
                        go_wp2_with fail
                        go_region_held3 (fun w' => w'.cell? ⟨w.heap.size, 0, none⟩ = some (.slice A N ca) ∧ w'.cell? ⟨b, off + k * 3 + 1, none⟩ = some (.int .u8 (xn : Int)))
                          (first | exact HQ.out | go_keep)
                          (first | fail)
                        go_upto_region 11 with (fail)
                        rw [show [xc].length = 1 from rfl] at HWR
                        have KV := Lib.hid (show DBox wr.drew b5 X A5 c5 B5 k5 ∧ DkIn wr.drew X A5 c5 B5 k5 ∧ DBox wr.drew b6 d A ca B k0 ∧ DBox wr.drew w.heap.size d A ca B k0 ∧ Below w.heap.size w wr.drew from ⟨KR.out.1, KR.out.2.1, KR.out.2.2.1, KR.out.2.2.2.1, KR.out.2.2.2.2.drew⟩)
                        have p3 : wr.drew.cell? ⟨b, off + k * 3 + 2, none⟩ = some (.int .u8 (cn : Int)) := p2
                        have hbV : b < wr.drew.heap.size := hb
                        clear p1 p2 q0 HQ KR hb
                        generalize wr.drew = V at *
                        have HK := Lib.hid (fun W (hb : Below V.heap.size V W) => And.intro (DBox.up KV.out.1 hb).cells ((hb.cell (p := ⟨b, off + k * 3 + 2, none⟩) hbV).trans p3))
                        simp only [and_assoc] at HK
                        have hcs : (([xc].map bv).toArray : Array Value) = #[.int .u8 (cn : Int)] := by rw [← HC.out.1]; rfl
                        have ba := (Below.refl V.heap.size V).alloc (Nat.le_refl _) (.cells #[.int .u8 (cn : Int)] 5)
                        have bb := (Below.refl V.heap.size V).alloc (Nat.le_refl _) (.cells #[.slice none 0 0, .slice none 0 0, .int .i64 0, .bool false] 25)
                        have bab := ba.alloc (by simp) (.cells #[.slice none 0 0, .slice none 0 0, .int .i64 0, .bool false] 25)
                        have bba := bb.alloc (by simp) (.cells #[.int .u8 (cn : Int)] 5)
                        have za := sl_lit V [xc] 1 rfl (by omega) #[.int .u8 (cn : Int)] hcs
                        have zab := za.up ((Below.refl _ (V.alloc (.cells #[.int .u8 (cn : Int)] 5))).alloc (Nat.le_refl _) (.cells #[.slice none 0 0, .slice none 0 0, .int .i64 0, .bool false] 25))
                        have zba := sl_lit (V.alloc (.cells #[.slice none 0 0, .slice none 0 0, .int .i64 0, .bool false] 25)) [xc] 1 rfl (by omega) #[.int .u8 (cn : Int)] hcs
                        have xb := Box.new V #[.slice none 0 0, .slice none 0 0, .int .i64 0, .bool false] 25
                        have xba := xb.alloc (.cells #[.int .u8 (cn : Int)] 5)
                        have xab := Box.new (V.alloc (.cells #[.int .u8 (cn : Int)] 5)) #[.slice none 0 0, .slice none 0 0, .int .i64 0, .bool false] 25
                        rw [World.size_alloc] at zba xab
                        have HA := Lib.hid (HWR.out (V.alloc (.cells #[.int .u8 (cn : Int)] 5)).drew (some ⟨V.heap.size, 0, none⟩) 1 (KV.out.2.1.up ba.drew) za)
                        have HAB := Lib.hid (HWR.out ((V.alloc (.cells #[.int .u8 (cn : Int)] 5)).alloc (.cells #[.slice none 0 0, .slice none 0 0, .int .i64 0, .bool false] 25)).drew (some ⟨V.heap.size, 0, none⟩) 1 (KV.out.2.1.up bab.drew) zab)
                        have HBA := Lib.hid (HWR.out ((V.alloc (.cells #[.slice none 0 0, .slice none 0 0, .int .i64 0, .bool false] 25)).alloc (.cells #[.int .u8 (cn : Int)] 5)).drew (some ⟨V.heap.size + 1, 0, none⟩) 1 (KV.out.2.1.up bba.drew) zba)
                        have XBA := Lib.hid (Box.drew xba)
                        have XAB := Lib.hid (Box.drew xab)
                        have Ba := Lib.hid ba.drew
                        have Bb := Lib.hid bb.drew
                        have Bab := Lib.hid bab.drew
                        have Bba := Lib.hid bba.drew
                        have HWY := Lib.hid HC.out.2.1
                        clear ba bb bab bba za zab zba xb xba xab hcs
                        go_cut [10, 11] from 49 to 87 (fun x e W7 => ∃ z A6 c6 B6 k6, x = .pointer (some ⟨z, 0, none⟩) ∧ e = .int .i64 0 ∧ V.heap.size ≤ z ∧ DBox W7 z Y A6 c6 B6 k6 ∧ DkIn W7 Y A6 c6 B6 k6 ∧ Below V.heap.size V W7)
                        case first =>
                          go_region_held3 (fun w' => w'.cell? ⟨b5, 0, none⟩ = some (.slice A5 X.secs.length c5) ∧ w'.cell? ⟨b5, 1, none⟩ = some (.slice B5 X.pend.length k5) ∧ w'.cell? ⟨b5, 2, none⟩ = some (.int .i64 X.left) ∧ w'.cell? ⟨b5, 3, none⟩ = some (.bool X.stop) ∧ w'.cell? ⟨b, off + k * 3 + 2, none⟩ = some (.int .u8 (cn : Int)))
                            (with_reducible first | exact HK.out _ (Below.refl V.heap.size V).drew | exact HK.out _ Ba.out | exact HK.out _ Bb.out | exact HK.out _ Bab.out | exact HK.out _ Bba.out | exact HK.out _ B6.out | exact HK.out _ (B6.out.alloc B6.out.size _) | exact HK.out _ ((((B6.out.setCell (Nat.le_refl _) _).setCell (Nat.le_refl _) _).setCell (Nat.le_refl _) _).setCell (Nat.le_refl _) _) | exact HK.out _ ((((B6.out.setCell (Nat.le_succ _) _).setCell (Nat.le_succ _) _).setCell (Nat.le_succ _) _).setCell (Nat.le_succ _) _) | go_keep)
                            (first
                              | (go_at_call 19; (with_reducible refine HA.out.mono ?_); rintro e w6 ⟨A6, c6, B6a, k6, rfl, i6, hb6⟩; have B6 := Lib.hid (bthen (a := V) Ba.out hb6); have I6 := Lib.hid i6; clear hb6 i6)
                              | (go_at_call 19; (with_reducible refine HAB.out.mono ?_); rintro e w6 ⟨A6, c6, B6a, k6, rfl, i6, hb6⟩; have B6 := Lib.hid (bthen (a := V) Bab.out hb6); have x6 := Box.below XAB.out hb6; have y0 := x6.cell 0; have y1 := x6.cell 1; have y2 := x6.cell 2; have y3 := x6.cell 3; have g0 := x6.frozen 0; have g1 := x6.frozen 1; have g2 := x6.frozen 2; have g3 := x6.frozen 3; have X6 := Lib.hid x6; have I6 := Lib.hid i6; clear hb6 i6 x6)
                              | (go_at_call 19; (with_reducible refine HBA.out.mono ?_); rintro e w6 ⟨A6, c6, B6a, k6, rfl, i6, hb6⟩; have B6 := Lib.hid (bthen (a := V) Bba.out hb6); have x6 := Box.below XBA.out hb6; have y0 := x6.cell 0; have y1 := x6.cell 1; have y2 := x6.cell 2; have y3 := x6.cell 3; have g0 := x6.frozen 0; have g1 := x6.frozen 1; have g2 := x6.frozen 2; have g3 := x6.frozen 3; have X6 := Lib.hid x6; have I6 := Lib.hid i6; clear hb6 i6 x6)
                              | fail)
                          all_goals
                            first
                              | (with_reducible change Exit.then _ _ Exit.normal _ (w6.alloc _)
                                 have F7 := Lib.hid (dk_put I6.out)
                                 have B7 := Lib.hid (bthen (a := V) B6.out F7.out.2.2)
                                 have G7 := Lib.hid (show ∃ z : Nat, z = w6.heap.size ∧ V.heap.size ≤ z from ⟨_, rfl, B6.out.size⟩)
                                 have F8 := Lib.hid (And.intro F7.out.1 F7.out.2.1)
                                 clear F7
                                 unfold dkc at *
                                 generalize w6.alloc _ = W7 at *)
                              | (with_reducible change Exit.then _ _ Exit.normal _ (World.setCell _ ⟨V.heap.size + 1, 3, none⟩ _)
                                 have F7 := Lib.hid (dk_store I6.out HWY.out (show DBox w6 (V.heap.size + 1) dk0 none 0 none 0 from X6.out) (DkIn.zero w6) (n0 := V.heap.size) (Nat.le_succ _))
                                 have B7 := Lib.hid (B6.out.trans F7.out.2.2)
                                 have G7 := Lib.hid (show ∃ z : Nat, z = V.heap.size + 1 ∧ V.heap.size ≤ z from ⟨_, rfl, Nat.le_succ _⟩)
                                 have F8 := Lib.hid (And.intro F7.out.1 F7.out.2.1)
                                 clear F7
                                 generalize World.setCell _ ⟨V.heap.size + 1, 3, none⟩ _ = W7 at *)
                              | (with_reducible change Exit.then _ _ Exit.normal _ (World.setCell _ ⟨V.heap.size, 3, none⟩ _)
                                 have F7 := Lib.hid (dk_store I6.out HWY.out (show DBox w6 V.heap.size dk0 none 0 none 0 from X6.out) (DkIn.zero w6) (n0 := V.heap.size) (Nat.le_refl _))
                                 have B7 := Lib.hid (B6.out.trans F7.out.2.2)
                                 have G7 := Lib.hid (show ∃ z : Nat, z = V.heap.size ∧ V.heap.size ≤ z from ⟨_, rfl, Nat.le_refl _⟩)
                                 have F8 := Lib.hid (And.intro F7.out.1 F7.out.2.1)
                                 clear F7
                                 generalize World.setCell _ ⟨V.heap.size, 3, none⟩ _ = W7 at *)
                          all_goals
                            go_wp2_with fail
                            go_meet
                            case rel => first | exact ⟨_, _, _, _, _, rfl, rfl, B6.out.size, F8.out.1, F8.out.2, B7.out⟩ | exact ⟨_, _, _, _, _, rfl, rfl, Nat.le_succ _, F8.out.1, F8.out.2, B7.out⟩ | exact ⟨_, _, _, _, _, rfl, rfl, Nat.le_refl _, F8.out.1, F8.out.2, B7.out⟩
                        case rest =>
                          obtain ⟨z, A6, c6, B6, k6, rfl, rfl, hzV, y7, i7, hbc⟩ := hcut
                          have K7 := Lib.hid (And.intro (DBox.up KV.out.1 hbc) (And.intro (KV.out.2.1.up hbc) (And.intro (DBox.up KV.out.2.2.1 hbc) (And.intro (DBox.up KV.out.2.2.2.1 hbc) (And.intro (bthen KV.out.2.2.2.2 hbc) (And.intro y7 i7))))))
                          have HSY := Lib.hid (sync_any Y A6 B6 c6 k6 wc i7)
                          unfold DkPost at HSY
                          unfold dkv dkc at HSY
                          obtain ⟨S, hS⟩ : ∃ S, sy Y = S := ⟨_, rfl⟩
                          obtain ⟨F, hF⟩ : ∃ F, sye Y = F := ⟨_, rfl⟩
                          have hcc := HC.out
                          rw [hS, hF, HZ.out.1, HZ.out.2] at hcc
                          rw [hS, hF] at HSY
                          have HC2 := Lib.hid (And.intro hcc.2.2.1 hcc.2.2.2.1)
                          have hz57 : b5 < z := Nat.lt_of_lt_of_le (Box.lt KV.out.1) hzV
                          clear hS hF hcc HC y7 i7 hbc HA HAB HBA XBA XAB Ba Bb Bab Bba HWY HWR HK p3 KV hbV
                          obtain ⟨r0, r1, r2, r3⟩ := K7.out.2.2.2.2.2.1.cells
                          go_wp2_with fail
                          refine HSY.out.mono ?_
                          rintro e w8 ⟨A8, c8, B8, k8, rfl, i8, hb8⟩
                          have y8 := DBox.up K7.out.1 hb8
                          have g0 := Box.frozen y8 0
                          have g1 := Box.frozen y8 1
                          have g2 := Box.frozen y8 2
                          have g3 := Box.frozen y8 3
                          obtain ⟨q0, q1, q2, q3⟩ := y8.cells
                          have ST := Lib.hid (dk_store i8 HC2.out.1 y8 (K7.out.2.1.up hb8) (n0 := w.heap.size) (Nat.le_of_lt hz5))
                          have S6 := Lib.hid (box_keep4 (b := b5) (.slice A8 S.secs.length c8) (.slice B8 S.pend.length k8) (.int .i64 S.left) (.bool S.stop) (DBox.up K7.out.2.2.1 hb8) (Ne.symm hz56))
                          have S2 := Lib.hid (box_keep4 (b := b5) (.slice A8 S.secs.length c8) (.slice B8 S.pend.length k8) (.int .i64 S.left) (.bool S.stop) (DBox.up K7.out.2.2.2.1 hb8) (Nat.ne_of_lt hz5))
                          have SB := Lib.hid ((bthen K7.out.2.2.2.2.1 hb8).trans ST.out.2.2)
                          clear r0 r1 r2 r3 y8 i8 hb8 K7 HSY
                          go_wp2_with fail
                          go_roundw
                          case rel => exact ⟨k + 1, F, S, A8, c8, B8, k8, by omega, rfl, by go_num, ST.out.1, ST.out.2.1, S6.out, S2.out, SB.out, HC2.out.2⟩
                          case measure => simp [intOf]; omega
                      · obtain rfl : k = n := by omega
                        go_wp2_with fail
                        go_meet
                        case rel =>
                          have hte := tog_end HP.out.2.2.2.1 (by rw [HP.out.2.2.2.2.1]; exact hlk)
                          rw [HZ.out.1, HZ.out.2, HP.out.2.2.2.2.1, ← hX] at hte
                          exact ⟨A5, c5, B5, k5, by rw [hte.1], by rw [hte.2]; exact KR.out.1, by rw [hte.2]; exact KR.out.2.1, KR.out.2.2.1, KR.out.2.2.2.1, KR.out.2.2.2.2⟩
                    · subst hE
                      by_cases hlt : k < n
                      · go_wp2_with fail
                        go_meet
                        case rel => exact ⟨A5, c5, B5, k5, rfl, KR.out.1, KR.out.2.1, KR.out.2.2.1, KR.out.2.2.2.1, KR.out.2.2.2.2⟩
                      · obtain rfl : k = n := by omega
                        go_wp2_with fail
                        go_meet
                        case rel => exact ⟨A5, c5, B5, k5, rfl, KR.out.1, KR.out.2.1, KR.out.2.2.1, KR.out.2.2.2.1, KR.out.2.2.2.2⟩
                case rest =>
                  obtain ⟨A5, c5, B5, k5, rfl, y5, i5, y6, y2, hbw⟩ := hcut
                  have K5 := Lib.hid (And.intro y5 (And.intro i5 (And.intro y6 (And.intro y2 hbw))))
                  have hwZ : whl Z := by rw [← HZ.out.2]; exact whl_sy HP.out.2.2.2.1
                  have HWZ := Lib.hid hwZ
                  clear y5 i5 y6 y2 hbw K4 hwZ
                  go_wp2_with fail
                  go_loopw [12] (fun i wr => ∃ (k : Nat) (A6 : Option Addr) (c6 : Nat) (B6 : Option Addr) (k6 : Nat), k ≤ n ∧ i = .int .i64 k ∧ DBox wr b5 Z A5 c5 B5 k5 ∧ DkIn wr Z A5 c5 B5 k5 ∧ DBox wr b6 { d with pend := (acw N l).take k } A6 c6 B6 k6 ∧ DkIn wr { d with pend := (acw N l).take k } A6 c6 B6 k6 ∧ DBox wr w.heap.size d A ca B k0 ∧ Below w.heap.size w wr) (fun i _ => n - (intOf i).toNat)
                  case atStart =>
                    have hd0 : ({ d with pend := (acw N l).take 0 } : Dk) = d := by
                      have := HP.out.2.1
                      rw [List.take_zero, ← this]
                    exact ⟨0, A, ca, B, k0, Nat.zero_le _, rfl, K5.out.1, K5.out.2.1, by rw [hd0]; exact K5.out.2.2.1, by rw [hd0]; exact (HF.out wc K5.out.2.2.2.2).1, K5.out.2.2.2.1, K5.out.2.2.2.2⟩
                  case round =>
                    obtain ⟨k, A6, c6, B6, k6, hk, rfl, y5, i5, y6, i6, y2, hbw⟩ := hrel
                    have KR := Lib.hid (And.intro y5 (And.intro i5 (And.intro y6 (And.intro i6 (And.intro y2 hbw)))))
                    clear y5 i5 y6 i6 y2 hbw K5
                    by_cases hlt : k < n
                    · obtain ⟨a, ha⟩ : ∃ a, l[k]? = some a := ⟨_, List.getElem?_eq_getElem (by rw [HN.out.2.2]; exact hlt)⟩
                      obtain ⟨b, off, rfl, hb, hat⟩ := (HF.out wr KR.out.2.2.2.2.2).2.1 (by rw [HN.out.2.2]; omega)
                      obtain ⟨p0, p1, p2⟩ := hat k a ha
                      obtain ⟨hw0, hwy, hwz⟩ := pend_round HP.out.1 HP.out.2.1 HP.out.2.2.1 (by rw [HP.out.2.2.2.2.1]; omega) (acw_get (N := N) ha) (by simp)
                      obtain ⟨ab, xa, xc⟩ := a
                      simp only at p1 p2 hw0 hwy hwz
                      obtain ⟨X, hX⟩ : ∃ X : Dk, { d with pend := (acw N l).take k } = X := ⟨_, rfl⟩
                      rw [hX] at hw0 hwy hwz KR
                      have hya := xa.toNat_lt
                      have hp1 : bv xa = .int .u8 (xa.toNat : Int) := rfl
                      have hp2 : bv xc = .int .u8 (xc.toNat : Int) := rfl
                      have hpl : xa.toNat % N < N := Nat.mod_lt _ (by omega)
                      rw [hp1] at p1
                      rw [hp2] at p2
                      have HWR := Lib.hid (fun W D kd (hb : DkIn W X A6 c6 B6 k6) (hD : Sl W D [xc] kd) => write_any X A6 B6 D c6 k6 kd ((xa.toNat % N : Nat) : Int) [xc] W hb hD)
                      rw [hw0] at HWR
                      obtain ⟨xn, hxn⟩ : ∃ xn, xa.toNat = xn := ⟨_, rfl⟩
                      obtain ⟨cn, hcn⟩ : ∃ cn, xc.toNat = cn := ⟨_, rfl⟩
                      rw [hxn] at p1 hya hpl HWR hw0 hwy hwz
                      rw [hcn] at p2
                      obtain ⟨q, hq⟩ : ∃ q, xn % N = q := ⟨_, rfl⟩
                      have hwx : IntKind.i64.wrap (xn : Int) = (xn : Int) := by rw [IntKind.wrap_i64]; omega
                      have hrem : (xn : Int).tmod (N : Int) = (q : Int) := by rw [← hq]; rfl
                      rw [hq] at hpl HWR hw0 hwy hwz
                      obtain ⟨Y, hY⟩ : ∃ Y, Go.Proofs.Ytiphajgmjmjanaa.wr X q [xc] = Y := ⟨_, rfl⟩
                      rw [hY] at HWR hwy hwz
                      unfold DkPost at HWR
                      unfold dkv dkc at HWR
                      have HC := Lib.hid (And.intro hcn (And.intro hwy (And.intro hwz hX)))
                      rw [show [xc].length = 1 from rfl] at HWR
                      have i1 : (0 : Int) ≤ (k : Int) := by omega
                      have i2 : (k : Int) < (n : Int) := by omega
                      have p3 : wr.cell? ⟨b, off + k * 3 + 2, none⟩ = some (.int .u8 (cn : Int)) := p2
                      have p4 : wr.cell? ⟨b, off + k * 3 + 1, none⟩ = some (.int .u8 (xn : Int)) := p1
                      have hbV : b < wr.heap.size := hb
                      clear hxn hcn hq hw0 hwy hwz hp1 hp2 hat ha hX hY p0 p1 p2 hb
                      have KV := KR
                      clear KR
                      go_upto_region 18 with (fail)
                      generalize wr = V at *
                      have HKD := Lib.hid (fun W (hb : Below V.heap.size V W) => (DBox.up KV.out.2.2.2.2.1 hb).cells.1)
                      rw [HN.out.1] at HKD
                      have HK := Lib.hid (fun W (hb : Below V.heap.size V W) => And.intro (DBox.up KV.out.2.2.1 hb).cells (And.intro ((hb.cell (p := ⟨b, off + k * 3 + 2, none⟩) hbV).trans p3) (And.intro ((hb.cell (p := ⟨b, off + k * 3 + 1, none⟩) hbV).trans p4) (HKD.out W hb))))
                      simp only [and_assoc] at HK
                      have hcs : (([xc].map bv).toArray : Array Value) = #[.int .u8 (cn : Int)] := by rw [← HC.out.1]; rfl
                      have ba := (Below.refl V.heap.size V).alloc (Nat.le_refl _) (.cells #[.int .u8 (cn : Int)] 5)
                      have bb := (Below.refl V.heap.size V).alloc (Nat.le_refl _) (.cells #[.slice none 0 0, .slice none 0 0, .int .i64 0, .bool false] 25)
                      have bab := ba.alloc (by simp) (.cells #[.slice none 0 0, .slice none 0 0, .int .i64 0, .bool false] 25)
                      have bba := bb.alloc (by simp) (.cells #[.int .u8 (cn : Int)] 5)
                      have za := sl_lit V [xc] 1 rfl (by omega) #[.int .u8 (cn : Int)] hcs
                      have zab := za.up ((Below.refl _ (V.alloc (.cells #[.int .u8 (cn : Int)] 5))).alloc (Nat.le_refl _) (.cells #[.slice none 0 0, .slice none 0 0, .int .i64 0, .bool false] 25))
                      have zba := sl_lit (V.alloc (.cells #[.slice none 0 0, .slice none 0 0, .int .i64 0, .bool false] 25)) [xc] 1 rfl (by omega) #[.int .u8 (cn : Int)] hcs
                      have xb := Box.new V #[.slice none 0 0, .slice none 0 0, .int .i64 0, .bool false] 25
                      have xba := xb.alloc (.cells #[.int .u8 (cn : Int)] 5)
                      have xab := Box.new (V.alloc (.cells #[.int .u8 (cn : Int)] 5)) #[.slice none 0 0, .slice none 0 0, .int .i64 0, .bool false] 25
                      rw [World.size_alloc] at zba xab
                      have HA := Lib.hid (HWR.out (V.alloc (.cells #[.int .u8 (cn : Int)] 5)).drew (some ⟨V.heap.size, 0, none⟩) 1 (KV.out.2.2.2.1.up ba.drew) za)
                      have HAB := Lib.hid (HWR.out ((V.alloc (.cells #[.int .u8 (cn : Int)] 5)).alloc (.cells #[.slice none 0 0, .slice none 0 0, .int .i64 0, .bool false] 25)).drew (some ⟨V.heap.size, 0, none⟩) 1 (KV.out.2.2.2.1.up bab.drew) zab)
                      have HBA := Lib.hid (HWR.out ((V.alloc (.cells #[.slice none 0 0, .slice none 0 0, .int .i64 0, .bool false] 25)).alloc (.cells #[.int .u8 (cn : Int)] 5)).drew (some ⟨V.heap.size + 1, 0, none⟩) 1 (KV.out.2.2.2.1.up bba.drew) zba)
                      have XBA := Lib.hid (Box.drew xba)
                      have XAB := Lib.hid (Box.drew xab)
                      have Ba := Lib.hid ba.drew
                      have Bb := Lib.hid bb.drew
                      have Bab := Lib.hid bab.drew
                      have Bba := Lib.hid bba.drew
                      have HWY := Lib.hid HC.out.2.1
                      clear ba bb bab bba za zab zba xb xba xab hcs
                      go_cut [13, 14] from 88 to 117 (fun x e W7 => ∃ z A7 c7 B7 k7, x = .pointer (some ⟨z, 0, none⟩) ∧ e = .int .i64 0 ∧ V.heap.size ≤ z ∧ DBox W7 z Y A7 c7 B7 k7 ∧ DkIn W7 Y A7 c7 B7 k7 ∧ Below V.heap.size V W7)
                      case first =>
                        go_region_held3 (fun w' => w'.cell? ⟨b6, 0, none⟩ = some (.slice A6 X.secs.length c6) ∧ w'.cell? ⟨b6, 1, none⟩ = some (.slice B6 X.pend.length k6) ∧ w'.cell? ⟨b6, 2, none⟩ = some (.int .i64 X.left) ∧ w'.cell? ⟨b6, 3, none⟩ = some (.bool X.stop) ∧ w'.cell? ⟨b, off + k * 3 + 2, none⟩ = some (.int .u8 (cn : Int)) ∧ w'.cell? ⟨b, off + k * 3 + 1, none⟩ = some (.int .u8 (xn : Int)) ∧ w'.cell? ⟨w.heap.size, 0, none⟩ = some (.slice A N ca))
                          (with_reducible first | exact HK.out _ (Below.refl V.heap.size V).drew | exact HK.out _ Ba.out | exact HK.out _ Bb.out | exact HK.out _ Bab.out | exact HK.out _ Bba.out | exact HK.out _ BQ.out | exact HK.out _ (BQ.out.alloc BQ.out.size _) | exact HK.out _ ((((BQ.out.setCell (Nat.le_refl _) _).setCell (Nat.le_refl _) _).setCell (Nat.le_refl _) _).setCell (Nat.le_refl _) _) | exact HK.out _ ((((BQ.out.setCell (Nat.le_succ _) _).setCell (Nat.le_succ _) _).setCell (Nat.le_succ _) _).setCell (Nat.le_succ _) _) | go_keep)
                          (first
                            | (go_at_call 19; (with_reducible refine HA.out.mono ?_); rintro e w6 ⟨A9, c9, B9a, k9, rfl, i6, hb6⟩; have BQ := Lib.hid (bthen (a := V) Ba.out hb6); have I6 := Lib.hid i6; clear hb6 i6)
                            | (go_at_call 19; (with_reducible refine HAB.out.mono ?_); rintro e w6 ⟨A9, c9, B9a, k9, rfl, i6, hb6⟩; have BQ := Lib.hid (bthen (a := V) Bab.out hb6); have x6 := Box.below XAB.out hb6; have y0 := x6.cell 0; have y1 := x6.cell 1; have y2 := x6.cell 2; have y3 := x6.cell 3; have g0 := x6.frozen 0; have g1 := x6.frozen 1; have g2 := x6.frozen 2; have g3 := x6.frozen 3; have X6 := Lib.hid x6; have I6 := Lib.hid i6; clear hb6 i6 x6)
                            | (go_at_call 19; (with_reducible refine HBA.out.mono ?_); rintro e w6 ⟨A9, c9, B9a, k9, rfl, i6, hb6⟩; have BQ := Lib.hid (bthen (a := V) Bba.out hb6); have x6 := Box.below XBA.out hb6; have y0 := x6.cell 0; have y1 := x6.cell 1; have y2 := x6.cell 2; have y3 := x6.cell 3; have g0 := x6.frozen 0; have g1 := x6.frozen 1; have g2 := x6.frozen 2; have g3 := x6.frozen 3; have X6 := Lib.hid x6; have I6 := Lib.hid i6; clear hb6 i6 x6)
                            | fail)
                        all_goals
                          first
                            | (with_reducible change Exit.then _ _ Exit.normal _ (w6.alloc _)
                               have F7 := Lib.hid (dk_put I6.out)
                               have B7 := Lib.hid (bthen (a := V) BQ.out F7.out.2.2)
                               have G7 := Lib.hid (show ∃ z : Nat, z = w6.heap.size ∧ V.heap.size ≤ z from ⟨_, rfl, BQ.out.size⟩)
                               have F8 := Lib.hid (And.intro F7.out.1 F7.out.2.1)
                               clear F7
                               unfold dkc at *
                               generalize w6.alloc _ = W7 at *)
                            | (with_reducible change Exit.then _ _ Exit.normal _ (World.setCell _ ⟨V.heap.size + 1, 3, none⟩ _)
                               have F7 := Lib.hid (dk_store I6.out HWY.out (show DBox w6 (V.heap.size + 1) dk0 none 0 none 0 from X6.out) (DkIn.zero w6) (n0 := V.heap.size) (Nat.le_succ _))
                               have B7 := Lib.hid (BQ.out.trans F7.out.2.2)
                               have G7 := Lib.hid (show ∃ z : Nat, z = V.heap.size + 1 ∧ V.heap.size ≤ z from ⟨_, rfl, Nat.le_succ _⟩)
                               have F8 := Lib.hid (And.intro F7.out.1 F7.out.2.1)
                               clear F7
                               generalize World.setCell _ ⟨V.heap.size + 1, 3, none⟩ _ = W7 at *)
                            | (with_reducible change Exit.then _ _ Exit.normal _ (World.setCell _ ⟨V.heap.size, 3, none⟩ _)
                               have F7 := Lib.hid (dk_store I6.out HWY.out (show DBox w6 V.heap.size dk0 none 0 none 0 from X6.out) (DkIn.zero w6) (n0 := V.heap.size) (Nat.le_refl _))
                               have B7 := Lib.hid (BQ.out.trans F7.out.2.2)
                               have G7 := Lib.hid (show ∃ z : Nat, z = V.heap.size ∧ V.heap.size ≤ z from ⟨_, rfl, Nat.le_refl _⟩)
                               have F8 := Lib.hid (And.intro F7.out.1 F7.out.2.1)
                               clear F7
                               generalize World.setCell _ ⟨V.heap.size, 3, none⟩ _ = W7 at *)
                        all_goals
                          go_wp2_with fail
                          go_meet
                          case rel => first | exact ⟨_, _, _, _, _, rfl, rfl, BQ.out.size, F8.out.1, F8.out.2, B7.out⟩ | exact ⟨_, _, _, _, _, rfl, rfl, Nat.le_succ _, F8.out.1, F8.out.2, B7.out⟩ | exact ⟨_, _, _, _, _, rfl, rfl, Nat.le_refl _, F8.out.1, F8.out.2, B7.out⟩
                      case rest =>
                        obtain ⟨z, A7, c7, B7, k7, rfl, rfl, hzV, y7, i7, hbc⟩ := hcut
                        have hz67 : b6 < z := Nat.lt_of_lt_of_le (Box.lt KV.out.2.2.1) hzV
                        have y8 := DBox.up KV.out.2.2.1 hbc
                        have g0 := Box.frozen y8 0
                        have g1 := Box.frozen y8 1
                        have g2 := Box.frozen y8 2
                        have g3 := Box.frozen y8 3
                        obtain ⟨q0, q1, q2, q3⟩ := y8.cells
                        obtain ⟨r0, r1, r2, r3⟩ := y7.cells
                        have iX := KV.out.2.2.2.1.up hbc
                        have ST := Lib.hid (dk_store i7 HC.out.2.1 y8 iX (n0 := w.heap.size) (Nat.le_of_lt hz6))
                        have SZ := Lib.hid (DkIn.boxed (KV.out.2.1.up hbc) HWZ.out y8 iX (.slice A7 Y.secs.length c7) (.slice B7 Y.pend.length k7) (.int .i64 Y.left) (.bool Y.stop))
                        have S5 := Lib.hid (box_keep4 (b := b6) (.slice A7 Y.secs.length c7) (.slice B7 Y.pend.length k7) (.int .i64 Y.left) (.bool Y.stop) (DBox.up KV.out.1 hbc) hz56)
                        have S2 := Lib.hid (box_keep4 (b := b6) (.slice A7 Y.secs.length c7) (.slice B7 Y.pend.length k7) (.int .i64 Y.left) (.bool Y.stop) (DBox.up KV.out.2.2.2.2.1 hbc) (Nat.ne_of_lt hz6))
                        have SB := Lib.hid ((bthen KV.out.2.2.2.2.2 hbc).trans ST.out.2.2)
                        have HYE := Lib.hid HC.out.2.2.1
                        clear y8 iX y7 i7 hbc HA HAB HBA XBA XAB Ba Bb Bab Bba HWY HWR HK HKD p3 p4 KV hbV HC
                        go_wp2_with fail
                        go_roundw
                        case rel => exact ⟨k + 1, A7, c7, B7, k7, by omega, by go_num, S5.out, SZ.out, by rw [← HYE.out]; exact ST.out.1, by rw [← HYE.out]; exact ST.out.2.1, S2.out, SB.out⟩
                        case measure => simp [intOf]; omega
                    · obtain rfl : k = n := by omega
                      have hX : ({ d with pend := (acw N l).take k } : Dk) = { d with pend := acw N l } := by rw [List.take_of_length_le (by rw [HP.out.2.2.2.2.1]; exact Nat.le_refl _)]
                      rw [hX] at KR
                      obtain ⟨D1, hD1⟩ : ∃ D1 : Dk, { d with pend := acw N l } = D1 := ⟨_, rfl⟩
                      rw [hD1] at KR HZ
                      clear hX hD1 HP
                      have HSY := Lib.hid (sync_any D1 A6 B6 c6 k6 wr KR.out.2.2.2.1)
                      rw [HZ.out.1, HZ.out.2] at HSY
                      unfold DkPost at HSY
                      unfold dkv dkc at HSY
                      clear HZ
                      obtain ⟨q0, q1, q2, q3⟩ := KR.out.2.2.1.cells
                      go_wp2_with fail
                      refine HSY.out.mono ?_
                      rintro e w8 ⟨A8, c8, B8, k8, rfl, i8, hb8⟩
                      clear q0 q1 q2 q3
                      have y8 := DBox.up KR.out.2.2.1 hb8
                      have g0 := Box.frozen y8 0
                      have g1 := Box.frozen y8 1
                      have g2 := Box.frozen y8 2
                      have g3 := Box.frozen y8 3
                      obtain ⟨q0, q1, q2, q3⟩ := y8.cells
                      have iX := KR.out.2.2.2.1.up hb8
                      have ST := Lib.hid (dk_store i8 HWZ.out y8 iX (n0 := w.heap.size) (Nat.le_of_lt hz6))
                      have SZ := Lib.hid (DkIn.boxed (KR.out.2.1.up hb8) HWZ.out y8 iX (.slice A8 Z.secs.length c8) (.slice B8 Z.pend.length k8) (.int .i64 Z.left) (.bool Z.stop))
                      have S5 := Lib.hid (show DBox _ b5 Z A5 c5 B5 k5 from box_keep4 (b := b6) (.slice A8 Z.secs.length c8) (.slice B8 Z.pend.length k8) (.int .i64 Z.left) (.bool Z.stop) (DBox.up KR.out.1 hb8) hz56)
                      have SB := Lib.hid ((bthen KR.out.2.2.2.2.2 hb8).trans ST.out.2.2)
                      clear y8 iX i8 hb8 KR HSY
                      go_upto_region 23 with (fail)
                      have HSM := Lib.hid (And.intro SZ.out ST.out.2.1)
                      have HBX := Lib.hid (And.intro S5.out ST.out.1)
                      clear ST SZ S5 q0 q1 q2 q3 g0 g1 g2 g3
                      generalize World.setCell _ ⟨b6, 3, none⟩ _ = wS at *
                      have HSA := Lib.hid (same_any Z A5 B5 c5 k5 A8 B8 c8 k8 wS HSM.out.1 HSM.out.2)
                      unfold dkv dkc at HSA
                      obtain ⟨q0, q1, q2, q3⟩ := HBX.out.1.cells
                      obtain ⟨r0, r1, r2, r3⟩ := HBX.out.2.cells
                      go_wp2_with fail
                      refine HSA.out.mono ?_
                      rintro e w9 ⟨rfl, hb9⟩
                      have K9 := Lib.hid (bthen SB.out hb9)
                      clear hb9 q0 q1 q2 q3 r0 r1 r2 r3
                      go_wp2_with fail
                      go_ret
                      exact ⟨rfl, K9.out⟩
          · rw [show chk d = 70 by unfold chk; rw [if_neg hv]] at HCW
            go_wp2_with fail
            refine (HCW.out w2 K2.out.2).mono ?_
            rintro e w3 ⟨rfl, hb3⟩
            have K3 := Lib.hid (bthen K2.out.2 hb3)
            go_wp2_with fail
            go_ret
            exact ⟨rfl, K3.out⟩
end Go.Proofs.Ytiphajgmjmjanaa
