/- The reference's Sync. -/
import Derived.Test.YtiphajgmjmjanaaRw
import Derived.Test.YtiphajgmjmjanaaKeep
import Derived.Test.YtiphajgmjmjanaaSy
import Derived.Test.YtiphajgmjmjanaaLat
import Derived.Deep.Cut
import Derived.Deep.CutRange
import Derived.Deep.RegionHeld3
import Derived.Deep.AppendLies
namespace Go.Proofs.Ytiphajgmjmjanaa
open Go.RowKit
set_option linter.unusedVariables false
set_option linter.unusedSimpArgs false

theorem Sl.front {w : World} {A : Option Addr} {l : List UInt8} {c : Nat} (h : Sl w A l c) (n : Nat) : Sl w A (l.take n) c := by
  refine ⟨fun hp => ?_, ?_, h.2.2.1, fun e => ?_⟩
  · obtain ⟨b, off, e, hb, hc⟩ := h.1 (by rw [List.length_take] at hp; omega)
    refine ⟨b, off, e, hb, fun i s hi => hc i s ?_⟩
    rw [List.getElem?_take] at hi
    split at hi
    · exact hi
    · cases hi
  · have := h.2.1
    rw [List.length_take]
    omega
  · obtain ⟨e1, e2⟩ := h.2.2.2 e
    exact ⟨by rw [e1]; simp, e2⟩
/-- What lies behind the first n bytes. -/
theorem Sl.back {w : World} {b off : Nat} {l : List UInt8} {c : Nat} (h : Sl w (some ⟨b, off, none⟩) l c) (n : Nat) (hn : n ≤ l.length) : Sl w (some ⟨b, off + n, none⟩) (l.drop n) (c - n) := by
  refine ⟨fun hp => ?_, ?_, ?_, fun e => by cases e⟩
  · obtain ⟨b', off', e, hb, hc⟩ := h.1 (by rw [List.length_drop] at hp; omega)
    cases e
    refine ⟨b, off + n, rfl, hb, fun i s hi => ?_⟩
    rw [List.getElem?_drop] at hi
    rw [Nat.add_assoc]
    exact hc _ _ hi
  · have := h.2.1
    rw [List.length_drop]
    omega
  · exact Nat.le_trans (Nat.sub_le _ _) h.2.2.1
theorem OwnR.base {lo B B' g c : Nat} {w : World} {l : List (List UInt8)} (h : OwnR lo B w g c l) (hb : B' ≤ B) : OwnR lo B' w g c l := by
  obtain ⟨vs, ho, hs⟩ := h
  refine ⟨vs, ⟨ho.1, ?_⟩, fun i s hi => ?_⟩
  · rcases ho.2 with ⟨hv, _⟩ | ⟨g', cap, cur, hv, hbg, rest⟩
    · cases hv
    · cases hv
      exact .inr ⟨g, c, cur, rfl, Nat.le_trans hb hbg, rest⟩
  · obtain ⟨A, k, q1, q2, q3⟩ := hs i s hi
    refine ⟨A, k, q1, q2, fun b off e => ⟨(q3 b off e).1, ?_⟩⟩
    rcases (q3 b off e).2 with h | h
    · exact .inl h
    · exact .inr (Nat.le_trans hb h)
/-- A store into a small box. -/
theorem OwnR.small {lo B g c b i : Nat} {w : World} {l : List (List UInt8)} {cs : Array Value} {t : TypeId} {v : Value} (h : OwnR lo B w g c l) (hw : ∀ s ∈ l, s.length = 128) (hb : Box w b cs t) (hc : cs.size < 128) (hne : g ≠ b) : OwnR lo B (w.setCell ⟨b, i, none⟩ v) g c l := by
  obtain ⟨vs, ho, hss⟩ := h
  have hst := set_grown_at w b i v
  refine ⟨vs, ho.kept hst (.inr (by show some g ≠ some b; intro e; injection e; omega)), fun j t hj => ?_⟩
  obtain ⟨A2, k2, q1, q2, q3⟩ := hss j t hj
  refine ⟨A2, k2, q1, q2.keep hst (fun b2 off hAb => ?_), q3⟩
  subst hAb
  intro e
  injection e with e
  subst e
  exact sl_no_box q2 (hw t (List.mem_of_getElem? hj)) hb hc
theorem OwnR.small4 {lo B g c b : Nat} {w : World} {l : List (List UInt8)} {a0 a1 a2 a3 : Value} {t : TypeId} (v0 v1 v2 v3 : Value) (h : OwnR lo B w g c l) (hw : ∀ s ∈ l, s.length = 128) (hb : Box w b #[a0, a1, a2, a3] t) (hne : g ≠ b) :
    OwnR lo B ((((w.setCell ⟨b, 0, none⟩ v0).setCell ⟨b, 1, none⟩ v1).setCell ⟨b, 2, none⟩ v2).setCell ⟨b, 3, none⟩ v3) g c l :=
  (((h.small hw hb (by simp) hne).small hw hb.set (by simp) hne).small hw hb.set.set (by simp) hne).small hw hb.set.set.set (by simp) hne

/-- append(own[:0], rows...), in a region that draws its order: the rows lie in a new block. -/
theorem step_append_rows {w0 w : World} {ops : Array Oper} {o : Oper} {a : Act} {K : Act → World → Prop} {Q : Exit → Act → World → Prop} {E : Prop} (hgd : o.guard = none) (s x : Operand)
    (ho : o.op = .call { callee := .builtin .append, args := #[s, x], argTypes := #[22, 22] })
    (g0 : Nat) (hs : a.eval s = .slice (some ⟨g0, 0, none⟩) 0 0) (A : Option Addr) (l : List (List UInt8)) (n c : Nat) (hn : l.length = n) (hp : 0 < n) (h0 : ∀ s ∈ l, 0 < s.length) (hx : a.eval x = .slice A n c) (hR : RR w0 A l c) (hb0 : Below w0.heap.size w0 w) (hb : n ≤ 1000000)
    (h : ∀ g c' w', OwnR w0.heap.size w.heap.size w' g c' l → Below w.heap.size w w' → K (a.put o.dst (.slice (some ⟨g, 0, none⟩) n c')) w') :
    if Region.wanted o (yielded ops a.tmps) = true then Oper.wp Try.prog o a w K Q else E := by
  have hw : Region.wanted o (yielded ops a.tmps) = true := by simp [Region.wanted, hgd]
  rw [if_pos hw]
  subst hn
  obtain ⟨i0, hi0, hz0, hz1, hz2⟩ := info_parts rw_info
  obtain ⟨b, off, rfl, hlb, _⟩ := hR.1 hp
  obtain ⟨vs, v1, v2, v3, v4⟩ := hR.cells
  have hnews : ∀ j u, vs[j]? = some u → w.cell? ((⟨b, off, none⟩ : Addr).add j) = some u := fun j u hu => by
    have := v4 j u hu
    rw [add_off] at this ⊢
    exact (hb0.cell (p := ⟨b, off + j, none⟩) hlb).trans this
  obtain ⟨v', w', hrun, r1, r2⟩ := run_append_arg_grows (P := Try.prog) w 22 o.type 35 i0 (.slice none 0 0) 1 24 Try.underlying22 hi0 hz0 hz1 hz2 rfl (by decide) ⟨g0, 0, none⟩ 0 0 [] rfl (fun j u hu => by cases hu) ⟨b, off, none⟩ l.length c vs (by rw [v1, Nat.mul_one]) hnews (by omega) (le_maxLen (by omega)) (by omega)
  unfold Oper.wp
  simp [execOp, ho, resolve, invoke, builtin, hs, hx, hrun, Result.andThen]
  obtain ⟨g, cg, rfl, hg, _⟩ := r1.form (by omega)
  rw [Nat.zero_add, List.nil_append] at r1
  rw [Nat.zero_add]
  exact h g cg w' (OwnR.of_copy hb0 (grown_below r2) r1 v3 h0) (grown_below r2)

set_option maxHeartbeats 4000000 in
set_option maxRecDepth 100000 in
theorem rsync_un (d : Dk) (A B : Option Addr) (c k0 : Nat) (w : World) (hS : DkIn w d A c B k0) (q1 : vld d = true) (q2 : d.stop = false) (ql : d.left = (-1)) :
    Calls Try.prog 24 #[dkv d A c B k0] w (DkPost ⟨perf d.secs d.pend, [], -1, false⟩ 0 w) := by
  have h2 := two_new w d A c B k0
  have HR := Lib.hid (rcheck_any d A B c k0 _ (hS.up h2.below))
  rw [show chk d = 0 by unfold chk; rw [q1]; rfl] at HR
  have H2 := Lib.hid h2
  have HF := Lib.hid (fun W (hb : Below w.heap.size w W) => hS.up hb)
  obtain ⟨⟨v1, v2⟩, v3, _, v4, v5⟩ := vld_facts.1 q1
  have HPOS := Lib.hid (show ∀ s ∈ d.secs, 0 < s.length from fun s hs => by have := v4 s hs; omega)
  have H128 := Lib.hid v4
  have HFM := Lib.hid v5
  have HRR := Lib.hid hS.1
  have HWW := Lib.hid hS.2
  have HPM := Lib.hid (fun k => perf_mem (d.pend.take k) d.secs v4 (fun a ha => (v5 a (List.mem_of_mem_take ha)).2))
  unfold DkPost
  unfold dkv dkc at *
  clear h2 hS q1 v4 v5
  have HQ2 := Lib.hid q2
  have HLF := Lib.hid ql
  obtain ⟨N, hN⟩ : ∃ N, d.secs.length = N := ⟨_, rfl⟩
  obtain ⟨m, hm⟩ : ∃ m, d.pend.length = m := ⟨_, rfl⟩
  rw [hN, hm, q2, ql] at HR H2
  rw [hN, hm, q2, ql]
  rw [hN] at v1 v2
  rw [hm] at v3
  have hmk0 : m ≤ k0 := by have := HWW.out.2.1; rw [hm] at this; exact this
  have hp1 : 0 < N := by omega
  have HN := Lib.hid (And.intro hN hm)
  clear hN hm q2 ql
  go_enter Try.func24, Try.ntmps24
  go_wp2_with fail
  generalize World.alloc _ _ = W at *
  refine HR.out.mono ?_
  rintro e w1 ⟨rfl, hb1⟩
  obtain ⟨⟨⟨b0, b1, b2, b3⟩, e0, e1, e2, e3⟩, ⟨⟨r0, r1, r2, r3⟩, g0, g1, g2, g3⟩⟩ := H2.out.facts hb1
  rw [HN.out.1] at b0
  rw [HN.out.2] at b1
  rw [HQ2.out] at b3
  rw [HLF.out] at b2
  have HB1 := Lib.hid (And.intro hb1 (bthen (a := w) H2.out.below hb1))
  clear hb1 r0 r1 r2 r3 g0 g1 g2 g3 HR e0 e1 e2 e3
  go_upto_region 7 with fail
  have HK := Lib.hid (fun V (hb : Below w1.heap.size w1 V) => (DBox.up (DBox.up H2.out.box HB1.out.1) hb).cells)
  rw [HN.out.1, HN.out.2, HLF.out, HQ2.out] at HK
  have hz1 : w.heap.size + 1 < w1.heap.size := Nat.lt_of_lt_of_le H2.out.lt.2 HB1.out.1.size
  have bB := (Below.refl w1.heap.size w1).alloc (Nat.le_refl _) (.cells #[] 35)
  have bA := (Below.refl w1.heap.size w1).alloc (Nat.le_refl _) (.cells #[.slice none 0 0, .slice none 0 0, .int .i64 0, .bool false] 25)
  have bBA := bB.alloc (by simp) (.cells #[.slice none 0 0, .slice none 0 0, .int .i64 0, .bool false] 25)
  have bAB := bA.alloc (by simp) (.cells #[] 35)
  have xA := Box.new w1 #[.slice none 0 0, .slice none 0 0, .int .i64 0, .bool false] 25
  have xBA := Box.new (w1.alloc (.cells #[] 35)) #[.slice none 0 0, .slice none 0 0, .int .i64 0, .bool false] 25
  rw [World.size_alloc] at xBA
  have XA := Lib.hid (Box.drew (Box.alloc xA (.cells #[] 35)))
  have XBA := Lib.hid (Box.drew xBA)
  have BB := Lib.hid bB.drew
  have BA := Lib.hid bA.drew
  have BBA := Lib.hid bBA.drew
  have BAB := Lib.hid bAB.drew
  have hN6 : N ≤ 1000000 := by omega
  clear bB bA bBA bAB xA xBA b0 b1 b2 b3
  have HF0 := Lib.hid (fun W (hb : Below w.heap.size w W) => HF.out W hb)
  go_cut [6] from 9 (fun x W' => ∃ z g cg, x = .pointer (some ⟨z, 0, none⟩) ∧ w1.heap.size ≤ z ∧ z ≠ g ∧ Box W' z #[.slice (some ⟨g, 0, none⟩) N cg, .slice none 0 0, .int .i64 (-1), .bool false] 25 ∧ OwnR w.heap.size w1.heap.size W' g cg d.secs ∧ Below w1.heap.size w1 W')
  case first =>
    go_region_held3 (fun w' => w'.cell? ⟨w.heap.size, 0, none⟩ = some (.slice A N c) ∧ w'.cell? ⟨w.heap.size, 1, none⟩ = some (.slice B m k0) ∧ w'.cell? ⟨w.heap.size, 2, none⟩ = some (.int .i64 (-1)) ∧ w'.cell? ⟨w.heap.size, 3, none⟩ = some (.bool false))
      (with_reducible first | exact HK.out _ (Below.refl w1.heap.size w1).drew | exact HK.out _ BB.out | exact HK.out _ BA.out | exact HK.out _ BBA.out | exact HK.out _ BAB.out | exact HK.out _ B6.out | exact HK.out _ (B6.out.alloc B6.out.size _) | exact HK.out _ ((((B6.out.setCell (Nat.le_refl _) _).setCell (Nat.le_refl _) _).setCell (Nat.le_refl _) _).setCell (Nat.le_refl _) _) | exact HK.out _ ((((B6.out.setCell (Nat.le_succ _) _).setCell (Nat.le_succ _) _).setCell (Nat.le_succ _) _).setCell (Nat.le_succ _) _) | go_keep)
      (first
        | ((refine step_append_rows (w0 := w) (by rfl) (.tmp 32) (.tmp 34) (by rfl) w1.heap.size (by rfl) A d.secs N c HN.out.1 hp1 HPOS.out (by rfl) HRR.out (bthen HB1.out.2 BB.out) hN6 ?_); intro g cg w6 ho6 hb6; have B6 := Lib.hid (bthen (a := w1) BB.out hb6); have O6 := Lib.hid (ho6.base (B' := w1.heap.size) BB.out.size); have G6 := Lib.hid (show g < w6.heap.size from ho6.lt.2); clear ho6 hb6)
        | ((refine step_append_rows (w0 := w) (by rfl) (.tmp 32) (.tmp 34) (by rfl) w1.heap.size (by rfl) A d.secs N c HN.out.1 hp1 HPOS.out (by rfl) HRR.out (bthen HB1.out.2 BBA.out) hN6 ?_); intro g cg w6 ho6 hb6; have B6 := Lib.hid (bthen (a := w1) BBA.out hb6); have O6 := Lib.hid (ho6.base (B' := w1.heap.size) BBA.out.size); have G6 := Lib.hid (ho6.lt.1); rw [show ((w1.alloc (.cells #[] 35)).alloc (.cells #[.slice none 0 0, .slice none 0 0, .int .i64 0, .bool false] 25)).drew.heap.size = w1.heap.size + 1 + 1 by simp] at G6; have x6 := XBA.out.below hb6; have y0 := x6.cell 0; have y1 := x6.cell 1; have y2 := x6.cell 2; have y3 := x6.cell 3; have g0 := x6.frozen 0; have g1 := x6.frozen 1; have g2 := x6.frozen 2; have g3 := x6.frozen 3; have X6 := Lib.hid x6; clear ho6 hb6 x6)
        | ((refine step_append_rows (w0 := w) (by rfl) (.tmp 32) (.tmp 34) (by rfl) (w1.heap.size + 1) (by rfl) A d.secs N c HN.out.1 hp1 HPOS.out (by rfl) HRR.out (bthen HB1.out.2 BAB.out) hN6 ?_); intro g cg w6 ho6 hb6; have B6 := Lib.hid (bthen (a := w1) BAB.out hb6); have O6 := Lib.hid (ho6.base (B' := w1.heap.size) BAB.out.size); have G6 := Lib.hid (ho6.lt.1); rw [show ((w1.alloc (.cells #[.slice none 0 0, .slice none 0 0, .int .i64 0, .bool false] 25)).alloc (.cells #[] 35)).drew.heap.size = w1.heap.size + 1 + 1 by simp] at G6; have x6 := XA.out.below hb6; have y0 := x6.cell 0; have y1 := x6.cell 1; have y2 := x6.cell 2; have y3 := x6.cell 3; have g0 := x6.frozen 0; have g1 := x6.frozen 1; have g2 := x6.frozen 2; have g3 := x6.frozen 3; have X6 := Lib.hid x6; clear ho6 hb6 x6)
        | fail)
    all_goals
      first
        | (with_reducible change Exit.then _ _ Exit.normal _ (w6.alloc _)
           have hba := (Below.refl w6.heap.size w6).alloc (Nat.le_refl _) (.cells #[.slice (some ⟨g, 0, none⟩) N cg, .slice none 0 0, .int .i64 (-1), .bool false] 25)
           have F := Lib.hid (And.intro (show w1.heap.size ≤ w6.heap.size from B6.out.size) (And.intro (show w6.heap.size ≠ g by have := G6.out; omega) (And.intro (Box.new w6 #[.slice (some ⟨g, 0, none⟩) N cg, .slice none 0 0, .int .i64 (-1), .bool false] 25) (And.intro (O6.out.below hba) (bthen (a := w1) B6.out hba)))))
           clear hba
           generalize World.alloc w6 _ = W7 at *)
        | (with_reducible change Exit.then _ _ Exit.normal _ (World.setCell _ ⟨w1.heap.size + 1, 3, none⟩ _)
           have F := Lib.hid (And.intro (show w1.heap.size ≤ w1.heap.size + 1 from Nat.le_succ _) (And.intro (show w1.heap.size + 1 ≠ g by have := G6.out; omega) (And.intro (box4 (.slice (some ⟨g, 0, none⟩) N cg) (.slice none 0 0) (.int .i64 (-1)) (.bool false) X6.out) (And.intro (O6.out.small4 (.slice (some ⟨g, 0, none⟩) N cg) (.slice none 0 0) (.int .i64 (-1)) (.bool false) H128.out X6.out (by have := G6.out; omega)) ((((B6.out.setCell (p := ⟨w1.heap.size + 1, 0, none⟩) (Nat.le_succ _) (.slice (some ⟨g, 0, none⟩) N cg)).setCell (p := ⟨w1.heap.size + 1, 1, none⟩) (Nat.le_succ _) (.slice none 0 0)).setCell (p := ⟨w1.heap.size + 1, 2, none⟩) (Nat.le_succ _) (.int .i64 (-1))).setCell (p := ⟨w1.heap.size + 1, 3, none⟩) (Nat.le_succ _) (.bool false))))))
           generalize World.setCell _ ⟨w1.heap.size + 1, 3, none⟩ _ = W7 at *)
        | (with_reducible change Exit.then _ _ Exit.normal _ (World.setCell _ ⟨w1.heap.size, 3, none⟩ _)
           have F := Lib.hid (And.intro (show w1.heap.size ≤ w1.heap.size from Nat.le_refl _) (And.intro (show w1.heap.size ≠ g by have := G6.out; omega) (And.intro (box4 (.slice (some ⟨g, 0, none⟩) N cg) (.slice none 0 0) (.int .i64 (-1)) (.bool false) X6.out) (And.intro (O6.out.small4 (.slice (some ⟨g, 0, none⟩) N cg) (.slice none 0 0) (.int .i64 (-1)) (.bool false) H128.out X6.out (by have := G6.out; omega)) ((((B6.out.setCell (p := ⟨w1.heap.size, 0, none⟩) (Nat.le_refl _) (.slice (some ⟨g, 0, none⟩) N cg)).setCell (p := ⟨w1.heap.size, 1, none⟩) (Nat.le_refl _) (.slice none 0 0)).setCell (p := ⟨w1.heap.size, 2, none⟩) (Nat.le_refl _) (.int .i64 (-1))).setCell (p := ⟨w1.heap.size, 3, none⟩) (Nat.le_refl _) (.bool false))))))
           generalize World.setCell _ ⟨w1.heap.size, 3, none⟩ _ = W7 at *)
    all_goals
      go_wp2_with fail
      go_meet
      case rel => exact ⟨_, _, _, rfl, F.out⟩
  case rest =>
    obtain ⟨z, g, cg, rfl, hzz, hzg, x6, hO, hbc⟩ := hcut
    have K6 := Lib.hid (And.intro x6 (And.intro hO hbc))
    clear x6 hO hbc BB BA BBA BAB XA XBA
    go_wp2_with fail
    go_loopw [7] (fun i wr => ∃ k : Nat, k ≤ m ∧ i = .int .i64 k ∧ Box wr z #[.slice (some ⟨g, 0, none⟩) N cg, .slice none 0 0, .int .i64 (-1), .bool false] 25 ∧ OwnR w.heap.size w1.heap.size wr g cg (perf d.secs (d.pend.take k)) ∧ Below w1.heap.size w1 wr) (fun i _ => m - (intOf i).toNat)
    case atStart => exact ⟨0, Nat.zero_le _, rfl, K6.out⟩
    case round =>
      clear K6
      obtain ⟨k, hk, rfl, x6, hO, hbw⟩ := hrel
      have KR := Lib.hid (And.intro x6 (And.intro hO hbw))
      have hgl := hO.lt
      clear x6 hO hbw
      by_cases hlt : k < m
      · have hkm : k < d.pend.length := by rw [HN.out.2]; omega
        obtain ⟨bp, offp, rfl, hlb, hat⟩ := HWW.out.1 (by omega)
        obtain ⟨D1, c1, h1, h2, h3⟩ := hat k _ (List.getElem?_eq_getElem hkm)
        obtain ⟨hp0, hp2⟩ := HFM.out (d.pend[k]'hkm) (List.getElem_mem hkm)
        have HTS := Lib.hid (take_snoc (List.getElem?_eq_getElem hkm : d.pend[k]? = some d.pend[k]))
        obtain ⟨a, ha⟩ : ∃ a, d.pend[k]'hkm = a := ⟨_, rfl⟩
        rw [ha] at h1 h2 h3 hp0 hp2 HTS
        clear ha hat
        obtain ⟨x, s⟩ := a
        simp only at h1 h2 h3 hp0 hp2
        rw [hp2] at h2
        obtain ⟨p, rfl⟩ : ∃ p : Nat, x = (p : Int) := ⟨x.toNat, by omega⟩
        have hpN : p < N := by rw [HN.out.1] at hp0; omega
        have hbW := bthen HB1.out.2 KR.out.2.2
        have q0 : wr.cell? ⟨bp, offp + k * 2, none⟩ = some (.int .i64 (p : Int)) := (hbW.cell (p := ⟨bp, offp + k * 2, none⟩) hlb).trans h1
        have q1 : wr.cell? ⟨bp, offp + k * 2 + 1, none⟩ = some (.slice D1 128 c1) := (hbW.cell (p := ⟨bp, offp + k * 2 + 1, none⟩) hlb).trans h2
        have q2 : wr.cell? ⟨z, 0, none⟩ = some (.slice (some ⟨g, 0, none⟩) N cg) := KR.out.1.cell 0
        have q3 := (HK.out wr KR.out.2.2).2.1
        have hpl : p < (perf d.secs (d.pend.take k)).length := by rw [perf_length, HN.out.1]; exact hpN
        obtain ⟨A5, k5, c5, _, _⟩ := KR.out.2.1.at_ (List.getElem?_eq_getElem hpl)
        have f5 := KR.out.2.1.frozen p
        have hgw : w.heap.size + 1 < g := Nat.lt_of_lt_of_le hz1 hgl.1
        have hset := KR.out.2.1.set p D1 s 128 c1 hp2 (h3.up hbW) (fun b off e => by
          subst e
          obtain ⟨b', off', e, hb', _⟩ := h3.1 (by omega)
          cases e
          exact ⟨by omega, .inl hb'⟩)
        have hpf : perf d.secs (d.pend.take (k + 1)) = (perf d.secs (d.pend.take k)).set p s := by
          rw [HTS.out, perf_snoc]
          rfl
        rw [← hpf] at hset
        have KF := Lib.hid (And.intro (box_other (b := g) (i := p) (v := .slice D1 128 c1) KR.out.1 hzg) (And.intro hset.1 (KR.out.2.2.setCell (p := ⟨g, p, none⟩) hgl.1 (.slice D1 128 c1))))
        have HQ := Lib.hid (show wr.drew.cell? ⟨bp, offp + k * 2, none⟩ = some (.int .i64 (p : Int)) ∧ wr.drew.cell? ⟨bp, offp + k * 2 + 1, none⟩ = some (.slice D1 128 c1) ∧ wr.drew.cell? ⟨z, 0, none⟩ = some (.slice (some ⟨g, 0, none⟩) N cg) ∧ wr.drew.cell? ⟨w.heap.size, 1, none⟩ = some (.slice (some ⟨bp, offp, none⟩) m k0) from ⟨q0, q1, q2, q3⟩)
        have hst := set_grown_at wr g p (.slice D1 128 c1)
        have HQ2 := Lib.hid (show (wr.setCell ⟨g, p, none⟩ (.slice D1 128 c1)).drew.cell? ⟨bp, offp + k * 2, none⟩ = some (.int .i64 (p : Int)) ∧ (wr.setCell ⟨g, p, none⟩ (.slice D1 128 c1)).drew.cell? ⟨bp, offp + k * 2 + 1, none⟩ = some (.slice D1 128 c1) ∧ (wr.setCell ⟨g, p, none⟩ (.slice D1 128 c1)).drew.cell? ⟨z, 0, none⟩ = some (.slice (some ⟨g, 0, none⟩) N cg) ∧ (wr.setCell ⟨g, p, none⟩ (.slice D1 128 c1)).drew.cell? ⟨w.heap.size, 1, none⟩ = some (.slice (some ⟨bp, offp, none⟩) m k0) from ⟨hst.cell q0 (by simp; omega), hst.cell q1 (by simp; omega), hst.cell q2 (by simpa using hzg), hst.cell q3 (by simp; omega)⟩)
        have i1 : (0 : Int) ≤ (k : Int) := by omega
        have i2 : (k : Int) < (m : Int) := by omega
        have i3 : (0 : Int) ≤ (p : Int) := by omega
        have i4 : (p : Int) < (N : Int) := by omega
        clear h1 h2 h3 hp0 hp2 hbW q0 q1 q2 q3 hset hpf hst
        go_wp2_with fail
        go_region_held3 (fun w' => w'.cell? ⟨bp, offp + k * 2, none⟩ = some (.int .i64 (p : Int)) ∧ w'.cell? ⟨bp, offp + k * 2 + 1, none⟩ = some (.slice D1 128 c1) ∧ w'.cell? ⟨z, 0, none⟩ = some (.slice (some ⟨g, 0, none⟩) N cg) ∧ w'.cell? ⟨w.heap.size, 1, none⟩ = some (.slice (some ⟨bp, offp, none⟩) m k0))
          (first | exact HQ.out | exact HQ2.out | go_keep)
          (first | fail)
        have KF2 := Lib.hid (And.intro KF.out.1.drew (And.intro (KF.out.2.1.below (Below.refl (wr.setCell ⟨g, p, none⟩ (.slice D1 128 c1)).heap.size (wr.setCell ⟨g, p, none⟩ (.slice D1 128 c1))).drew) KF.out.2.2.drew))
        clear HQ HQ2 KR KF c5 f5
        generalize World.drew _ = wS at *
        go_wp2_with fail
        go_roundw
        case rel => exact ⟨k + 1, by omega, by go_num, KF2.out⟩
        case measure => simp [intOf]; omega
      · obtain rfl : k = m := by omega
        obtain ⟨b0, b1, b2, b3⟩ : wr.cell? ⟨z, 0, none⟩ = some (.slice (some ⟨g, 0, none⟩) N cg) ∧ wr.cell? ⟨z, 1, none⟩ = some (.slice none 0 0) ∧ wr.cell? ⟨z, 2, none⟩ = some (.int .i64 (-1)) ∧ wr.cell? ⟨z, 3, none⟩ = some (.bool false) := ⟨KR.out.1.cell 0, KR.out.1.cell 1, KR.out.1.cell 2, KR.out.1.cell 3⟩
        have f2 := KR.out.1.frozen 2
        obtain ⟨_, ⟨⟨r0, r1, r2, r3⟩, g0, g1, g2, g3⟩⟩ := H2.out.facts (HB1.out.1.trans (KR.out.2.2.mono HB1.out.1.size))
        have n1 : ¬ w.heap.size + 1 = z := by omega
        have n2 : ¬ z = w.heap.size + 1 := by omega
        have n3 : ¬ w.heap.size + 1 = g := by omega
        have n4 : ¬ g = w.heap.size + 1 := by omega
        go_wp2_with fail
        have hfin0 := H2.out.fin (HB1.out.1.trans (KR.out.2.2.mono HB1.out.1.size))
        have hfin := fin4 (.slice (some ⟨g, 0, none⟩) N cg) (.slice none 0 0) (.int .i64 (-1)) (.bool false) hfin0.1 hfin0.2
        have hrr := fin4r (.slice (some ⟨g, 0, none⟩) N cg) (.slice none 0 0) (.int .i64 (-1)) (.bool false) KR.out.2.1.rr (HPM.out k) hfin0.2 n4
        have htk : d.pend.take k = d.pend := List.take_of_length_le (by rw [HN.out.2]; exact Nat.le_refl _)
        rw [htk] at hrr
        exact bodyPost_ret (dk_ret2 Try.results24 rfl hfin.1) rfl ⟨some ⟨g, 0, none⟩, cg, none, 0, by rw [perf_length, HN.out.1]; rfl, ⟨hrr, WW.nil _⟩, hfin.2⟩


set_option maxHeartbeats 4000000 in
set_option maxRecDepth 100000 in
theorem rsync_go (d : Dk) (A B : Option Addr) (c k0 lf : Nat) (w : World) (hS : DkIn w d A c B k0) (q1 : vld d = true) (q2 : d.stop = false) (ql : d.left = (lf : Int)) (hlf : d.pend.length ≤ lf) (hl6 : lf ≤ 65536) :
    Calls Try.prog 24 #[dkv d A c B k0] w (DkPost ⟨perf d.secs d.pend, [], (lf : Int) - d.pend.length, false⟩ 0 w) := by
  have h2 := two_new w d A c B k0
  have HR := Lib.hid (rcheck_any d A B c k0 _ (hS.up h2.below))
  rw [show chk d = 0 by unfold chk; rw [q1]; rfl] at HR
  have H2 := Lib.hid h2
  have HF := Lib.hid (fun W (hb : Below w.heap.size w W) => hS.up hb)
  obtain ⟨⟨v1, v2⟩, v3, _, v4, v5⟩ := vld_facts.1 q1
  have HPOS := Lib.hid (show ∀ s ∈ d.secs, 0 < s.length from fun s hs => by have := v4 s hs; omega)
  have H128 := Lib.hid v4
  have HFM := Lib.hid v5
  have HRR := Lib.hid hS.1
  have HWW := Lib.hid hS.2
  have HPM := Lib.hid (fun k => perf_mem (d.pend.take k) d.secs v4 (fun a ha => (v5 a (List.mem_of_mem_take ha)).2))
  unfold DkPost
  unfold dkv dkc at *
  clear h2 hS q1 v4 v5
  have HQ2 := Lib.hid q2
  have HLF := Lib.hid ql
  obtain ⟨N, hN⟩ : ∃ N, d.secs.length = N := ⟨_, rfl⟩
  obtain ⟨m, hm⟩ : ∃ m, d.pend.length = m := ⟨_, rfl⟩
  rw [hN, hm, q2, ql] at HR H2
  rw [hN, hm, q2, ql]
  rw [hN] at v1 v2
  rw [hm] at v3
  have hmk0 : m ≤ k0 := by have := HWW.out.2.1; rw [hm] at this; exact this
  have hp1 : 0 < N := by omega
  have HN := Lib.hid (And.intro hN hm)
  clear hN hm q2 ql
  rw [HN.out.2] at hlf
  have hd1 : decide ((0 : Int) ≤ (lf : Int)) = true := decide_eq_true (by omega)
  have hd2 : decide ((lf : Int) < (m : Int)) = false := decide_eq_false (by omega)
  have hd3 : decide (lf < m) = false := decide_eq_false (by omega)
  have hd4 : ¬ (lf : Int) < (m : Int) := by omega
  have hd5 : (0 : Int) ≤ (lf : Int) := by omega
  go_enter Try.func24, Try.ntmps24
  go_wp2_with fail
  generalize World.alloc _ _ = W at *
  refine HR.out.mono ?_
  rintro e w1 ⟨rfl, hb1⟩
  obtain ⟨⟨⟨b0, b1, b2, b3⟩, e0, e1, e2, e3⟩, ⟨⟨r0, r1, r2, r3⟩, g0, g1, g2, g3⟩⟩ := H2.out.facts hb1
  rw [HN.out.1] at b0
  rw [HN.out.2] at b1
  rw [HQ2.out] at b3
  rw [HLF.out] at b2
  have HB1 := Lib.hid (And.intro hb1 (bthen (a := w) H2.out.below hb1))
  clear hb1 r0 r1 r2 r3 g0 g1 g2 g3 HR e0 e1 e2 e3
  go_upto_region 7 with fail
  have HK := Lib.hid (fun V (hb : Below w1.heap.size w1 V) => (DBox.up (DBox.up H2.out.box HB1.out.1) hb).cells)
  rw [HN.out.1, HN.out.2, HLF.out, HQ2.out] at HK
  have hz1 : w.heap.size + 1 < w1.heap.size := Nat.lt_of_lt_of_le H2.out.lt.2 HB1.out.1.size
  have bB := (Below.refl w1.heap.size w1).alloc (Nat.le_refl _) (.cells #[] 35)
  have bA := (Below.refl w1.heap.size w1).alloc (Nat.le_refl _) (.cells #[.slice none 0 0, .slice none 0 0, .int .i64 0, .bool false] 25)
  have bBA := bB.alloc (by simp) (.cells #[.slice none 0 0, .slice none 0 0, .int .i64 0, .bool false] 25)
  have bAB := bA.alloc (by simp) (.cells #[] 35)
  have xA := Box.new w1 #[.slice none 0 0, .slice none 0 0, .int .i64 0, .bool false] 25
  have xBA := Box.new (w1.alloc (.cells #[] 35)) #[.slice none 0 0, .slice none 0 0, .int .i64 0, .bool false] 25
  rw [World.size_alloc] at xBA
  have XA := Lib.hid (Box.drew (Box.alloc xA (.cells #[] 35)))
  have XBA := Lib.hid (Box.drew xBA)
  have BB := Lib.hid bB.drew
  have BA := Lib.hid bA.drew
  have BBA := Lib.hid bBA.drew
  have BAB := Lib.hid bAB.drew
  have hN6 : N ≤ 1000000 := by omega
  clear bB bA bBA bAB xA xBA b0 b1 b2 b3
  have HF0 := Lib.hid (fun W (hb : Below w.heap.size w W) => HF.out W hb)
  go_cut [6] from 9 (fun x W' => ∃ z g cg, x = .pointer (some ⟨z, 0, none⟩) ∧ w1.heap.size ≤ z ∧ z ≠ g ∧ Box W' z #[.slice (some ⟨g, 0, none⟩) N cg, .slice none 0 0, .int .i64 (lf : Int), .bool false] 25 ∧ OwnR w.heap.size w1.heap.size W' g cg d.secs ∧ Below w1.heap.size w1 W')
  case first =>
    go_region_held3 (fun w' => w'.cell? ⟨w.heap.size, 0, none⟩ = some (.slice A N c) ∧ w'.cell? ⟨w.heap.size, 1, none⟩ = some (.slice B m k0) ∧ w'.cell? ⟨w.heap.size, 2, none⟩ = some (.int .i64 (lf : Int)) ∧ w'.cell? ⟨w.heap.size, 3, none⟩ = some (.bool false))
      (with_reducible first | exact HK.out _ (Below.refl w1.heap.size w1).drew | exact HK.out _ BB.out | exact HK.out _ BA.out | exact HK.out _ BBA.out | exact HK.out _ BAB.out | exact HK.out _ B6.out | exact HK.out _ (B6.out.alloc B6.out.size _) | exact HK.out _ ((((B6.out.setCell (Nat.le_refl _) _).setCell (Nat.le_refl _) _).setCell (Nat.le_refl _) _).setCell (Nat.le_refl _) _) | exact HK.out _ ((((B6.out.setCell (Nat.le_succ _) _).setCell (Nat.le_succ _) _).setCell (Nat.le_succ _) _).setCell (Nat.le_succ _) _) | go_keep)
      (first
        | ((refine step_append_rows (w0 := w) (by rfl) (.tmp 32) (.tmp 34) (by rfl) w1.heap.size (by rfl) A d.secs N c HN.out.1 hp1 HPOS.out (by rfl) HRR.out (bthen HB1.out.2 BB.out) hN6 ?_); intro g cg w6 ho6 hb6; have B6 := Lib.hid (bthen (a := w1) BB.out hb6); have O6 := Lib.hid (ho6.base (B' := w1.heap.size) BB.out.size); have G6 := Lib.hid (show g < w6.heap.size from ho6.lt.2); clear ho6 hb6)
        | ((refine step_append_rows (w0 := w) (by rfl) (.tmp 32) (.tmp 34) (by rfl) w1.heap.size (by rfl) A d.secs N c HN.out.1 hp1 HPOS.out (by rfl) HRR.out (bthen HB1.out.2 BBA.out) hN6 ?_); intro g cg w6 ho6 hb6; have B6 := Lib.hid (bthen (a := w1) BBA.out hb6); have O6 := Lib.hid (ho6.base (B' := w1.heap.size) BBA.out.size); have G6 := Lib.hid (ho6.lt.1); rw [show ((w1.alloc (.cells #[] 35)).alloc (.cells #[.slice none 0 0, .slice none 0 0, .int .i64 0, .bool false] 25)).drew.heap.size = w1.heap.size + 1 + 1 by simp] at G6; have x6 := XBA.out.below hb6; have y0 := x6.cell 0; have y1 := x6.cell 1; have y2 := x6.cell 2; have y3 := x6.cell 3; have g0 := x6.frozen 0; have g1 := x6.frozen 1; have g2 := x6.frozen 2; have g3 := x6.frozen 3; have X6 := Lib.hid x6; clear ho6 hb6 x6)
        | ((refine step_append_rows (w0 := w) (by rfl) (.tmp 32) (.tmp 34) (by rfl) (w1.heap.size + 1) (by rfl) A d.secs N c HN.out.1 hp1 HPOS.out (by rfl) HRR.out (bthen HB1.out.2 BAB.out) hN6 ?_); intro g cg w6 ho6 hb6; have B6 := Lib.hid (bthen (a := w1) BAB.out hb6); have O6 := Lib.hid (ho6.base (B' := w1.heap.size) BAB.out.size); have G6 := Lib.hid (ho6.lt.1); rw [show ((w1.alloc (.cells #[.slice none 0 0, .slice none 0 0, .int .i64 0, .bool false] 25)).alloc (.cells #[] 35)).drew.heap.size = w1.heap.size + 1 + 1 by simp] at G6; have x6 := XA.out.below hb6; have y0 := x6.cell 0; have y1 := x6.cell 1; have y2 := x6.cell 2; have y3 := x6.cell 3; have g0 := x6.frozen 0; have g1 := x6.frozen 1; have g2 := x6.frozen 2; have g3 := x6.frozen 3; have X6 := Lib.hid x6; clear ho6 hb6 x6)
        | fail)
    all_goals
      first
        | (with_reducible change Exit.then _ _ Exit.normal _ (w6.alloc _)
           have hba := (Below.refl w6.heap.size w6).alloc (Nat.le_refl _) (.cells #[.slice (some ⟨g, 0, none⟩) N cg, .slice none 0 0, .int .i64 (lf : Int), .bool false] 25)
           have F := Lib.hid (And.intro (show w1.heap.size ≤ w6.heap.size from B6.out.size) (And.intro (show w6.heap.size ≠ g by have := G6.out; omega) (And.intro (Box.new w6 #[.slice (some ⟨g, 0, none⟩) N cg, .slice none 0 0, .int .i64 (lf : Int), .bool false] 25) (And.intro (O6.out.below hba) (bthen (a := w1) B6.out hba)))))
           clear hba
           generalize World.alloc w6 _ = W7 at *)
        | (with_reducible change Exit.then _ _ Exit.normal _ (World.setCell _ ⟨w1.heap.size + 1, 3, none⟩ _)
           have F := Lib.hid (And.intro (show w1.heap.size ≤ w1.heap.size + 1 from Nat.le_succ _) (And.intro (show w1.heap.size + 1 ≠ g by have := G6.out; omega) (And.intro (box4 (.slice (some ⟨g, 0, none⟩) N cg) (.slice none 0 0) (.int .i64 (lf : Int)) (.bool false) X6.out) (And.intro (O6.out.small4 (.slice (some ⟨g, 0, none⟩) N cg) (.slice none 0 0) (.int .i64 (lf : Int)) (.bool false) H128.out X6.out (by have := G6.out; omega)) ((((B6.out.setCell (p := ⟨w1.heap.size + 1, 0, none⟩) (Nat.le_succ _) (.slice (some ⟨g, 0, none⟩) N cg)).setCell (p := ⟨w1.heap.size + 1, 1, none⟩) (Nat.le_succ _) (.slice none 0 0)).setCell (p := ⟨w1.heap.size + 1, 2, none⟩) (Nat.le_succ _) (.int .i64 (lf : Int))).setCell (p := ⟨w1.heap.size + 1, 3, none⟩) (Nat.le_succ _) (.bool false))))))
           generalize World.setCell _ ⟨w1.heap.size + 1, 3, none⟩ _ = W7 at *)
        | (with_reducible change Exit.then _ _ Exit.normal _ (World.setCell _ ⟨w1.heap.size, 3, none⟩ _)
           have F := Lib.hid (And.intro (show w1.heap.size ≤ w1.heap.size from Nat.le_refl _) (And.intro (show w1.heap.size ≠ g by have := G6.out; omega) (And.intro (box4 (.slice (some ⟨g, 0, none⟩) N cg) (.slice none 0 0) (.int .i64 (lf : Int)) (.bool false) X6.out) (And.intro (O6.out.small4 (.slice (some ⟨g, 0, none⟩) N cg) (.slice none 0 0) (.int .i64 (lf : Int)) (.bool false) H128.out X6.out (by have := G6.out; omega)) ((((B6.out.setCell (p := ⟨w1.heap.size, 0, none⟩) (Nat.le_refl _) (.slice (some ⟨g, 0, none⟩) N cg)).setCell (p := ⟨w1.heap.size, 1, none⟩) (Nat.le_refl _) (.slice none 0 0)).setCell (p := ⟨w1.heap.size, 2, none⟩) (Nat.le_refl _) (.int .i64 (lf : Int))).setCell (p := ⟨w1.heap.size, 3, none⟩) (Nat.le_refl _) (.bool false))))))
           generalize World.setCell _ ⟨w1.heap.size, 3, none⟩ _ = W7 at *)
    all_goals
      go_wp2_with fail
      go_meet
      case rel => exact ⟨_, _, _, rfl, F.out⟩
  case rest =>
    obtain ⟨z, g, cg, rfl, hzz, hzg, x6, hO, hbc⟩ := hcut
    have K6 := Lib.hid (And.intro x6 (And.intro hO hbc))
    clear x6 hO hbc BB BA BBA BAB XA XBA
    go_wp2_with fail
    go_loopw [7] (fun i wr => ∃ k : Nat, k ≤ m ∧ i = .int .i64 k ∧ Box wr z #[.slice (some ⟨g, 0, none⟩) N cg, .slice none 0 0, .int .i64 (lf : Int), .bool false] 25 ∧ OwnR w.heap.size w1.heap.size wr g cg (perf d.secs (d.pend.take k)) ∧ Below w1.heap.size w1 wr) (fun i _ => m - (intOf i).toNat)
    case atStart => exact ⟨0, Nat.zero_le _, rfl, K6.out⟩
    case round =>
      clear K6
      obtain ⟨k, hk, rfl, x6, hO, hbw⟩ := hrel
      have KR := Lib.hid (And.intro x6 (And.intro hO hbw))
      have hgl := hO.lt
      clear x6 hO hbw
      by_cases hlt : k < m
      · have hkm : k < d.pend.length := by rw [HN.out.2]; omega
        obtain ⟨bp, offp, rfl, hlb, hat⟩ := HWW.out.1 (by omega)
        obtain ⟨D1, c1, h1, h2, h3⟩ := hat k _ (List.getElem?_eq_getElem hkm)
        obtain ⟨hp0, hp2⟩ := HFM.out (d.pend[k]'hkm) (List.getElem_mem hkm)
        have HTS := Lib.hid (take_snoc (List.getElem?_eq_getElem hkm : d.pend[k]? = some d.pend[k]))
        obtain ⟨a, ha⟩ : ∃ a, d.pend[k]'hkm = a := ⟨_, rfl⟩
        rw [ha] at h1 h2 h3 hp0 hp2 HTS
        clear ha hat
        obtain ⟨x, s⟩ := a
        simp only at h1 h2 h3 hp0 hp2
        rw [hp2] at h2
        obtain ⟨p, rfl⟩ : ∃ p : Nat, x = (p : Int) := ⟨x.toNat, by omega⟩
        have hpN : p < N := by rw [HN.out.1] at hp0; omega
        have hbW := bthen HB1.out.2 KR.out.2.2
        have q0 : wr.cell? ⟨bp, offp + k * 2, none⟩ = some (.int .i64 (p : Int)) := (hbW.cell (p := ⟨bp, offp + k * 2, none⟩) hlb).trans h1
        have q1 : wr.cell? ⟨bp, offp + k * 2 + 1, none⟩ = some (.slice D1 128 c1) := (hbW.cell (p := ⟨bp, offp + k * 2 + 1, none⟩) hlb).trans h2
        have q2 : wr.cell? ⟨z, 0, none⟩ = some (.slice (some ⟨g, 0, none⟩) N cg) := KR.out.1.cell 0
        have q3 := (HK.out wr KR.out.2.2).2.1
        have hpl : p < (perf d.secs (d.pend.take k)).length := by rw [perf_length, HN.out.1]; exact hpN
        obtain ⟨A5, k5, c5, _, _⟩ := KR.out.2.1.at_ (List.getElem?_eq_getElem hpl)
        have f5 := KR.out.2.1.frozen p
        have hgw : w.heap.size + 1 < g := Nat.lt_of_lt_of_le hz1 hgl.1
        have hset := KR.out.2.1.set p D1 s 128 c1 hp2 (h3.up hbW) (fun b off e => by
          subst e
          obtain ⟨b', off', e, hb', _⟩ := h3.1 (by omega)
          cases e
          exact ⟨by omega, .inl hb'⟩)
        have hpf : perf d.secs (d.pend.take (k + 1)) = (perf d.secs (d.pend.take k)).set p s := by
          rw [HTS.out, perf_snoc]
          rfl
        rw [← hpf] at hset
        have KF := Lib.hid (And.intro (box_other (b := g) (i := p) (v := .slice D1 128 c1) KR.out.1 hzg) (And.intro hset.1 (KR.out.2.2.setCell (p := ⟨g, p, none⟩) hgl.1 (.slice D1 128 c1))))
        have HQ := Lib.hid (show wr.drew.cell? ⟨bp, offp + k * 2, none⟩ = some (.int .i64 (p : Int)) ∧ wr.drew.cell? ⟨bp, offp + k * 2 + 1, none⟩ = some (.slice D1 128 c1) ∧ wr.drew.cell? ⟨z, 0, none⟩ = some (.slice (some ⟨g, 0, none⟩) N cg) ∧ wr.drew.cell? ⟨w.heap.size, 1, none⟩ = some (.slice (some ⟨bp, offp, none⟩) m k0) from ⟨q0, q1, q2, q3⟩)
        have hst := set_grown_at wr g p (.slice D1 128 c1)
        have HQ2 := Lib.hid (show (wr.setCell ⟨g, p, none⟩ (.slice D1 128 c1)).drew.cell? ⟨bp, offp + k * 2, none⟩ = some (.int .i64 (p : Int)) ∧ (wr.setCell ⟨g, p, none⟩ (.slice D1 128 c1)).drew.cell? ⟨bp, offp + k * 2 + 1, none⟩ = some (.slice D1 128 c1) ∧ (wr.setCell ⟨g, p, none⟩ (.slice D1 128 c1)).drew.cell? ⟨z, 0, none⟩ = some (.slice (some ⟨g, 0, none⟩) N cg) ∧ (wr.setCell ⟨g, p, none⟩ (.slice D1 128 c1)).drew.cell? ⟨w.heap.size, 1, none⟩ = some (.slice (some ⟨bp, offp, none⟩) m k0) from ⟨hst.cell q0 (by simp; omega), hst.cell q1 (by simp; omega), hst.cell q2 (by simpa using hzg), hst.cell q3 (by simp; omega)⟩)
        have i1 : (0 : Int) ≤ (k : Int) := by omega
        have i2 : (k : Int) < (m : Int) := by omega
        have i3 : (0 : Int) ≤ (p : Int) := by omega
        have i4 : (p : Int) < (N : Int) := by omega
        clear h1 h2 h3 hp0 hp2 hbW q0 q1 q2 q3 hset hpf hst
        go_wp2_with fail
        go_region_held3 (fun w' => w'.cell? ⟨bp, offp + k * 2, none⟩ = some (.int .i64 (p : Int)) ∧ w'.cell? ⟨bp, offp + k * 2 + 1, none⟩ = some (.slice D1 128 c1) ∧ w'.cell? ⟨z, 0, none⟩ = some (.slice (some ⟨g, 0, none⟩) N cg) ∧ w'.cell? ⟨w.heap.size, 1, none⟩ = some (.slice (some ⟨bp, offp, none⟩) m k0))
          (first | exact HQ.out | exact HQ2.out | go_keep)
          (first | fail)
        have KF2 := Lib.hid (And.intro KF.out.1.drew (And.intro (KF.out.2.1.below (Below.refl (wr.setCell ⟨g, p, none⟩ (.slice D1 128 c1)).heap.size (wr.setCell ⟨g, p, none⟩ (.slice D1 128 c1))).drew) KF.out.2.2.drew))
        clear HQ HQ2 KR KF c5 f5
        generalize World.drew _ = wS at *
        go_wp2_with fail
        go_roundw
        case rel => exact ⟨k + 1, by omega, by go_num, KF2.out⟩
        case measure => simp [intOf]; omega
      · obtain rfl : k = m := by omega
        have hwr : IntKind.i64.wrap ((lf : Int) - (k : Int)) = ((lf - k : Nat) : Int) := by rw [IntKind.wrap_i64]; omega
        have hge : decide ((0 : Int) ≤ (lf : Int)) = true := decide_eq_true (by omega)
        have hge2 : (0 : Int) ≤ (lf : Int) := by omega
        obtain ⟨b0, b1, b2, b3⟩ : wr.cell? ⟨z, 0, none⟩ = some (.slice (some ⟨g, 0, none⟩) N cg) ∧ wr.cell? ⟨z, 1, none⟩ = some (.slice none 0 0) ∧ wr.cell? ⟨z, 2, none⟩ = some (.int .i64 (lf : Int)) ∧ wr.cell? ⟨z, 3, none⟩ = some (.bool false) := ⟨KR.out.1.cell 0, KR.out.1.cell 1, KR.out.1.cell 2, KR.out.1.cell 3⟩
        have f2 := KR.out.1.frozen 2
        obtain ⟨_, ⟨⟨r0, r1, r2, r3⟩, g0, g1, g2, g3⟩⟩ := H2.out.facts (HB1.out.1.trans (KR.out.2.2.mono HB1.out.1.size))
        have n1 : ¬ w.heap.size + 1 = z := by omega
        have n2 : ¬ z = w.heap.size + 1 := by omega
        have n3 : ¬ w.heap.size + 1 = g := by omega
        have n4 : ¬ g = w.heap.size + 1 := by omega
        go_wp2_with fail
        have hfin0 := H2.out.fin (HB1.out.1.trans (KR.out.2.2.mono HB1.out.1.size))
        have x2 := box_other (b := z) (i := 2) (v := .int .i64 ((lf - k : Nat) : Int)) hfin0.2 n1
        have b2' := hfin0.1.setCell (p := ⟨z, 2, none⟩) (by show w.heap.size ≤ z; omega) (.int .i64 ((lf - k : Nat) : Int))
        have r2' := KR.out.2.1.rr.other (HPM.out k) KR.out.1 (by simp) (fun a off e => by cases e; exact Ne.symm hzg) 2 (.int .i64 ((lf - k : Nat) : Int))
        have hfin := fin4 (.slice (some ⟨g, 0, none⟩) N cg) (.slice none 0 0) (.int .i64 ((lf - k : Nat) : Int)) (.bool false) b2' x2
        have hrr := fin4r (.slice (some ⟨g, 0, none⟩) N cg) (.slice none 0 0) (.int .i64 ((lf - k : Nat) : Int)) (.bool false) r2' (HPM.out k) x2 n4
        have htk : d.pend.take k = d.pend := List.take_of_length_le (by rw [HN.out.2]; exact Nat.le_refl _)
        rw [htk] at hrr
        exact bodyPost_ret (dk_ret2 Try.results24 rfl hfin.1) rfl ⟨some ⟨g, 0, none⟩, cg, none, 0, by rw [perf_length, HN.out.1, show (lf : Int) - (k : Int) = ((lf - k : Nat) : Int) by omega]; rfl, ⟨hrr, WW.nil _⟩, hfin.2⟩


set_option maxHeartbeats 4000000 in
set_option maxRecDepth 100000 in
theorem rsync_st (d : Dk) (A B : Option Addr) (c k0 lf : Nat) (w : World) (hS : DkIn w d A c B k0) (q1 : vld d = true) (q2 : d.stop = false) (ql : d.left = (lf : Int)) (hlf : lf < d.pend.length) :
    Calls Try.prog 24 #[dkv d A c B k0] w (DkPost ⟨tsecs d lf, [], 0, true⟩ 70 w) := by
  have h2 := two_new w d A c B k0
  have HR := Lib.hid (rcheck_any d A B c k0 _ (hS.up h2.below))
  rw [show chk d = 0 by unfold chk; rw [q1]; rfl] at HR
  have H2 := Lib.hid h2
  have HF := Lib.hid (fun W (hb : Below w.heap.size w W) => hS.up hb)
  obtain ⟨⟨v1, v2⟩, v3, _, v4, v5⟩ := vld_facts.1 q1
  have HPOS := Lib.hid (show ∀ s ∈ d.secs, 0 < s.length from fun s hs => by have := v4 s hs; omega)
  have H128 := Lib.hid v4
  have HFM := Lib.hid v5
  have HRR := Lib.hid hS.1
  have HWW := Lib.hid hS.2
  have HPM := Lib.hid (fun k => perf_mem (d.pend.take k) d.secs v4 (fun a ha => (v5 a (List.mem_of_mem_take ha)).2))
  unfold DkPost
  unfold dkv dkc at *
  clear h2 hS q1 v4 v5
  have HQ2 := Lib.hid q2
  have HLF := Lib.hid ql
  obtain ⟨N, hN⟩ : ∃ N, d.secs.length = N := ⟨_, rfl⟩
  obtain ⟨m, hm⟩ : ∃ m, d.pend.length = m := ⟨_, rfl⟩
  rw [hN, hm, q2, ql] at HR H2
  rw [hN, hm, q2, ql]
  rw [hN] at v1 v2
  rw [hm] at v3
  have hmk0 : m ≤ k0 := by have := HWW.out.2.1; rw [hm] at this; exact this
  have hp1 : 0 < N := by omega
  have HN := Lib.hid (And.intro hN hm)
  clear hN hm q2 ql
  rw [HN.out.2] at hlf
  have hd1 : decide ((0 : Int) ≤ (lf : Int)) = true := decide_eq_true (by omega)
  have hd2 : decide ((lf : Int) < (m : Int)) = true := decide_eq_true (by omega)
  have hd3 : decide (lf < m) = true := decide_eq_true (by omega)
  have hd4 : (lf : Int) < (m : Int) := by omega
  have hd5 : (0 : Int) ≤ (lf : Int) := by omega
  go_enter Try.func24, Try.ntmps24
  go_wp2_with fail
  generalize World.alloc _ _ = W at *
  refine HR.out.mono ?_
  rintro e w1 ⟨rfl, hb1⟩
  obtain ⟨⟨⟨b0, b1, b2, b3⟩, e0, e1, e2, e3⟩, ⟨⟨r0, r1, r2, r3⟩, g0, g1, g2, g3⟩⟩ := H2.out.facts hb1
  rw [HN.out.1] at b0
  rw [HN.out.2] at b1
  rw [HQ2.out] at b3
  rw [HLF.out] at b2
  have HB1 := Lib.hid (And.intro hb1 (bthen (a := w) H2.out.below hb1))
  clear hb1 r0 r1 r2 r3 g0 g1 g2 g3 HR e0 e1 e2 e3
  go_upto_region 7 with fail
  have HK := Lib.hid (fun V (hb : Below w1.heap.size w1 V) => (DBox.up (DBox.up H2.out.box HB1.out.1) hb).cells)
  rw [HN.out.1, HN.out.2, HLF.out, HQ2.out] at HK
  have hz1 : w.heap.size + 1 < w1.heap.size := Nat.lt_of_lt_of_le H2.out.lt.2 HB1.out.1.size
  have bB := (Below.refl w1.heap.size w1).alloc (Nat.le_refl _) (.cells #[] 35)
  have bA := (Below.refl w1.heap.size w1).alloc (Nat.le_refl _) (.cells #[.slice none 0 0, .slice none 0 0, .int .i64 0, .bool false] 25)
  have bBA := bB.alloc (by simp) (.cells #[.slice none 0 0, .slice none 0 0, .int .i64 0, .bool false] 25)
  have bAB := bA.alloc (by simp) (.cells #[] 35)
  have xA := Box.new w1 #[.slice none 0 0, .slice none 0 0, .int .i64 0, .bool false] 25
  have xBA := Box.new (w1.alloc (.cells #[] 35)) #[.slice none 0 0, .slice none 0 0, .int .i64 0, .bool false] 25
  rw [World.size_alloc] at xBA
  have XA := Lib.hid (Box.drew (Box.alloc xA (.cells #[] 35)))
  have XBA := Lib.hid (Box.drew xBA)
  have BB := Lib.hid bB.drew
  have BA := Lib.hid bA.drew
  have BBA := Lib.hid bBA.drew
  have BAB := Lib.hid bAB.drew
  have hN6 : N ≤ 1000000 := by omega
  clear bB bA bBA bAB xA xBA b0 b1 b2 b3
  have HF0 := Lib.hid (fun W (hb : Below w.heap.size w W) => HF.out W hb)
  go_cut [6] from 9 (fun x W' => ∃ z g cg, x = .pointer (some ⟨z, 0, none⟩) ∧ w1.heap.size ≤ z ∧ z ≠ g ∧ Box W' z #[.slice (some ⟨g, 0, none⟩) N cg, .slice none 0 0, .int .i64 (lf : Int), .bool false] 25 ∧ OwnR w.heap.size w1.heap.size W' g cg d.secs ∧ Below w1.heap.size w1 W')
  case first =>
    go_region_held3 (fun w' => w'.cell? ⟨w.heap.size, 0, none⟩ = some (.slice A N c) ∧ w'.cell? ⟨w.heap.size, 1, none⟩ = some (.slice B m k0) ∧ w'.cell? ⟨w.heap.size, 2, none⟩ = some (.int .i64 (lf : Int)) ∧ w'.cell? ⟨w.heap.size, 3, none⟩ = some (.bool false))
      (with_reducible first | exact HK.out _ (Below.refl w1.heap.size w1).drew | exact HK.out _ BB.out | exact HK.out _ BA.out | exact HK.out _ BBA.out | exact HK.out _ BAB.out | exact HK.out _ B6.out | exact HK.out _ (B6.out.alloc B6.out.size _) | exact HK.out _ ((((B6.out.setCell (Nat.le_refl _) _).setCell (Nat.le_refl _) _).setCell (Nat.le_refl _) _).setCell (Nat.le_refl _) _) | exact HK.out _ ((((B6.out.setCell (Nat.le_succ _) _).setCell (Nat.le_succ _) _).setCell (Nat.le_succ _) _).setCell (Nat.le_succ _) _) | go_keep)
      (first
        | ((refine step_append_rows (w0 := w) (by rfl) (.tmp 32) (.tmp 34) (by rfl) w1.heap.size (by rfl) A d.secs N c HN.out.1 hp1 HPOS.out (by rfl) HRR.out (bthen HB1.out.2 BB.out) hN6 ?_); intro g cg w6 ho6 hb6; have B6 := Lib.hid (bthen (a := w1) BB.out hb6); have O6 := Lib.hid (ho6.base (B' := w1.heap.size) BB.out.size); have G6 := Lib.hid (show g < w6.heap.size from ho6.lt.2); clear ho6 hb6)
        | ((refine step_append_rows (w0 := w) (by rfl) (.tmp 32) (.tmp 34) (by rfl) w1.heap.size (by rfl) A d.secs N c HN.out.1 hp1 HPOS.out (by rfl) HRR.out (bthen HB1.out.2 BBA.out) hN6 ?_); intro g cg w6 ho6 hb6; have B6 := Lib.hid (bthen (a := w1) BBA.out hb6); have O6 := Lib.hid (ho6.base (B' := w1.heap.size) BBA.out.size); have G6 := Lib.hid (ho6.lt.1); rw [show ((w1.alloc (.cells #[] 35)).alloc (.cells #[.slice none 0 0, .slice none 0 0, .int .i64 0, .bool false] 25)).drew.heap.size = w1.heap.size + 1 + 1 by simp] at G6; have x6 := XBA.out.below hb6; have y0 := x6.cell 0; have y1 := x6.cell 1; have y2 := x6.cell 2; have y3 := x6.cell 3; have g0 := x6.frozen 0; have g1 := x6.frozen 1; have g2 := x6.frozen 2; have g3 := x6.frozen 3; have X6 := Lib.hid x6; clear ho6 hb6 x6)
        | ((refine step_append_rows (w0 := w) (by rfl) (.tmp 32) (.tmp 34) (by rfl) (w1.heap.size + 1) (by rfl) A d.secs N c HN.out.1 hp1 HPOS.out (by rfl) HRR.out (bthen HB1.out.2 BAB.out) hN6 ?_); intro g cg w6 ho6 hb6; have B6 := Lib.hid (bthen (a := w1) BAB.out hb6); have O6 := Lib.hid (ho6.base (B' := w1.heap.size) BAB.out.size); have G6 := Lib.hid (ho6.lt.1); rw [show ((w1.alloc (.cells #[.slice none 0 0, .slice none 0 0, .int .i64 0, .bool false] 25)).alloc (.cells #[] 35)).drew.heap.size = w1.heap.size + 1 + 1 by simp] at G6; have x6 := XA.out.below hb6; have y0 := x6.cell 0; have y1 := x6.cell 1; have y2 := x6.cell 2; have y3 := x6.cell 3; have g0 := x6.frozen 0; have g1 := x6.frozen 1; have g2 := x6.frozen 2; have g3 := x6.frozen 3; have X6 := Lib.hid x6; clear ho6 hb6 x6)
        | fail)
    all_goals
      first
        | (with_reducible change Exit.then _ _ Exit.normal _ (w6.alloc _)
           have hba := (Below.refl w6.heap.size w6).alloc (Nat.le_refl _) (.cells #[.slice (some ⟨g, 0, none⟩) N cg, .slice none 0 0, .int .i64 (lf : Int), .bool false] 25)
           have F := Lib.hid (And.intro (show w1.heap.size ≤ w6.heap.size from B6.out.size) (And.intro (show w6.heap.size ≠ g by have := G6.out; omega) (And.intro (Box.new w6 #[.slice (some ⟨g, 0, none⟩) N cg, .slice none 0 0, .int .i64 (lf : Int), .bool false] 25) (And.intro (O6.out.below hba) (bthen (a := w1) B6.out hba)))))
           clear hba
           generalize World.alloc w6 _ = W7 at *)
        | (with_reducible change Exit.then _ _ Exit.normal _ (World.setCell _ ⟨w1.heap.size + 1, 3, none⟩ _)
           have F := Lib.hid (And.intro (show w1.heap.size ≤ w1.heap.size + 1 from Nat.le_succ _) (And.intro (show w1.heap.size + 1 ≠ g by have := G6.out; omega) (And.intro (box4 (.slice (some ⟨g, 0, none⟩) N cg) (.slice none 0 0) (.int .i64 (lf : Int)) (.bool false) X6.out) (And.intro (O6.out.small4 (.slice (some ⟨g, 0, none⟩) N cg) (.slice none 0 0) (.int .i64 (lf : Int)) (.bool false) H128.out X6.out (by have := G6.out; omega)) ((((B6.out.setCell (p := ⟨w1.heap.size + 1, 0, none⟩) (Nat.le_succ _) (.slice (some ⟨g, 0, none⟩) N cg)).setCell (p := ⟨w1.heap.size + 1, 1, none⟩) (Nat.le_succ _) (.slice none 0 0)).setCell (p := ⟨w1.heap.size + 1, 2, none⟩) (Nat.le_succ _) (.int .i64 (lf : Int))).setCell (p := ⟨w1.heap.size + 1, 3, none⟩) (Nat.le_succ _) (.bool false))))))
           generalize World.setCell _ ⟨w1.heap.size + 1, 3, none⟩ _ = W7 at *)
        | (with_reducible change Exit.then _ _ Exit.normal _ (World.setCell _ ⟨w1.heap.size, 3, none⟩ _)
           have F := Lib.hid (And.intro (show w1.heap.size ≤ w1.heap.size from Nat.le_refl _) (And.intro (show w1.heap.size ≠ g by have := G6.out; omega) (And.intro (box4 (.slice (some ⟨g, 0, none⟩) N cg) (.slice none 0 0) (.int .i64 (lf : Int)) (.bool false) X6.out) (And.intro (O6.out.small4 (.slice (some ⟨g, 0, none⟩) N cg) (.slice none 0 0) (.int .i64 (lf : Int)) (.bool false) H128.out X6.out (by have := G6.out; omega)) ((((B6.out.setCell (p := ⟨w1.heap.size, 0, none⟩) (Nat.le_refl _) (.slice (some ⟨g, 0, none⟩) N cg)).setCell (p := ⟨w1.heap.size, 1, none⟩) (Nat.le_refl _) (.slice none 0 0)).setCell (p := ⟨w1.heap.size, 2, none⟩) (Nat.le_refl _) (.int .i64 (lf : Int))).setCell (p := ⟨w1.heap.size, 3, none⟩) (Nat.le_refl _) (.bool false))))))
           generalize World.setCell _ ⟨w1.heap.size, 3, none⟩ _ = W7 at *)
    all_goals
      go_wp2_with fail
      go_meet
      case rel => exact ⟨_, _, _, rfl, F.out⟩
  case rest =>
    obtain ⟨z, g, cg, rfl, hzz, hzg, x6, hO, hbc⟩ := hcut
    have K6 := Lib.hid (And.intro x6 (And.intro hO hbc))
    clear x6 hO hbc BB BA BBA BAB XA XBA
    go_wp2_with fail
    go_loopw [7] (fun i wr => ∃ k : Nat, k ≤ lf ∧ i = .int .i64 k ∧ Box wr z #[.slice (some ⟨g, 0, none⟩) N cg, .slice none 0 0, .int .i64 (lf : Int), .bool false] 25 ∧ OwnR w.heap.size w1.heap.size wr g cg (perf d.secs (d.pend.take k)) ∧ Below w1.heap.size w1 wr) (fun i _ => lf - (intOf i).toNat)
    case atStart => exact ⟨0, Nat.zero_le _, rfl, K6.out⟩
    case round =>
      clear K6
      obtain ⟨k, hk, rfl, x6, hO, hbw⟩ := hrel
      have KR := Lib.hid (And.intro x6 (And.intro hO hbw))
      have hgl := hO.lt
      clear x6 hO hbw
      by_cases hlt : k < lf
      · have hkm : k < d.pend.length := by rw [HN.out.2]; omega
        obtain ⟨bp, offp, rfl, hlb, hat⟩ := HWW.out.1 (by omega)
        obtain ⟨D1, c1, h1, h2, h3⟩ := hat k _ (List.getElem?_eq_getElem hkm)
        obtain ⟨hp0, hp2⟩ := HFM.out (d.pend[k]'hkm) (List.getElem_mem hkm)
        have HTS := Lib.hid (take_snoc (List.getElem?_eq_getElem hkm : d.pend[k]? = some d.pend[k]))
        obtain ⟨a, ha⟩ : ∃ a, d.pend[k]'hkm = a := ⟨_, rfl⟩
        rw [ha] at h1 h2 h3 hp0 hp2 HTS
        clear ha hat
        obtain ⟨x, s⟩ := a
        simp only at h1 h2 h3 hp0 hp2
        rw [hp2] at h2
        obtain ⟨p, rfl⟩ : ∃ p : Nat, x = (p : Int) := ⟨x.toNat, by omega⟩
        have hpN : p < N := by rw [HN.out.1] at hp0; omega
        have hbW := bthen HB1.out.2 KR.out.2.2
        have q0 : wr.cell? ⟨bp, offp + k * 2, none⟩ = some (.int .i64 (p : Int)) := (hbW.cell (p := ⟨bp, offp + k * 2, none⟩) hlb).trans h1
        have q1 : wr.cell? ⟨bp, offp + k * 2 + 1, none⟩ = some (.slice D1 128 c1) := (hbW.cell (p := ⟨bp, offp + k * 2 + 1, none⟩) hlb).trans h2
        have q2 : wr.cell? ⟨z, 0, none⟩ = some (.slice (some ⟨g, 0, none⟩) N cg) := KR.out.1.cell 0
        have q3 := (HK.out wr KR.out.2.2).2.1
        have hpl : p < (perf d.secs (d.pend.take k)).length := by rw [perf_length, HN.out.1]; exact hpN
        obtain ⟨A5, k5, c5, _, _⟩ := KR.out.2.1.at_ (List.getElem?_eq_getElem hpl)
        have f5 := KR.out.2.1.frozen p
        have hgw : w.heap.size + 1 < g := Nat.lt_of_lt_of_le hz1 hgl.1
        have hset := KR.out.2.1.set p D1 s 128 c1 hp2 (h3.up hbW) (fun b off e => by
          subst e
          obtain ⟨b', off', e, hb', _⟩ := h3.1 (by omega)
          cases e
          exact ⟨by omega, .inl hb'⟩)
        have hpf : perf d.secs (d.pend.take (k + 1)) = (perf d.secs (d.pend.take k)).set p s := by
          rw [HTS.out, perf_snoc]
          rfl
        rw [← hpf] at hset
        have KF := Lib.hid (And.intro (box_other (b := g) (i := p) (v := .slice D1 128 c1) KR.out.1 hzg) (And.intro hset.1 (KR.out.2.2.setCell (p := ⟨g, p, none⟩) hgl.1 (.slice D1 128 c1))))
        have HQ := Lib.hid (show wr.drew.cell? ⟨bp, offp + k * 2, none⟩ = some (.int .i64 (p : Int)) ∧ wr.drew.cell? ⟨bp, offp + k * 2 + 1, none⟩ = some (.slice D1 128 c1) ∧ wr.drew.cell? ⟨z, 0, none⟩ = some (.slice (some ⟨g, 0, none⟩) N cg) ∧ wr.drew.cell? ⟨w.heap.size, 1, none⟩ = some (.slice (some ⟨bp, offp, none⟩) m k0) from ⟨q0, q1, q2, q3⟩)
        have hst := set_grown_at wr g p (.slice D1 128 c1)
        have HQ2 := Lib.hid (show (wr.setCell ⟨g, p, none⟩ (.slice D1 128 c1)).drew.cell? ⟨bp, offp + k * 2, none⟩ = some (.int .i64 (p : Int)) ∧ (wr.setCell ⟨g, p, none⟩ (.slice D1 128 c1)).drew.cell? ⟨bp, offp + k * 2 + 1, none⟩ = some (.slice D1 128 c1) ∧ (wr.setCell ⟨g, p, none⟩ (.slice D1 128 c1)).drew.cell? ⟨z, 0, none⟩ = some (.slice (some ⟨g, 0, none⟩) N cg) ∧ (wr.setCell ⟨g, p, none⟩ (.slice D1 128 c1)).drew.cell? ⟨w.heap.size, 1, none⟩ = some (.slice (some ⟨bp, offp, none⟩) m k0) from ⟨hst.cell q0 (by simp; omega), hst.cell q1 (by simp; omega), hst.cell q2 (by simpa using hzg), hst.cell q3 (by simp; omega)⟩)
        have i1 : (0 : Int) ≤ (k : Int) := by omega
        have i2 : (k : Int) < (m : Int) := by omega
        have i3 : (0 : Int) ≤ (p : Int) := by omega
        have i4 : (p : Int) < (N : Int) := by omega
        clear h1 h2 h3 hp0 hp2 hbW q0 q1 q2 q3 hset hpf hst
        go_wp2_with fail
        go_region_held3 (fun w' => w'.cell? ⟨bp, offp + k * 2, none⟩ = some (.int .i64 (p : Int)) ∧ w'.cell? ⟨bp, offp + k * 2 + 1, none⟩ = some (.slice D1 128 c1) ∧ w'.cell? ⟨z, 0, none⟩ = some (.slice (some ⟨g, 0, none⟩) N cg) ∧ w'.cell? ⟨w.heap.size, 1, none⟩ = some (.slice (some ⟨bp, offp, none⟩) m k0))
          (first | exact HQ.out | exact HQ2.out | go_keep)
          (first | fail)
        have KF2 := Lib.hid (And.intro KF.out.1.drew (And.intro (KF.out.2.1.below (Below.refl (wr.setCell ⟨g, p, none⟩ (.slice D1 128 c1)).heap.size (wr.setCell ⟨g, p, none⟩ (.slice D1 128 c1))).drew) KF.out.2.2.drew))
        clear HQ HQ2 KR KF c5 f5
        generalize World.drew _ = wS at *
        go_wp2_with fail
        go_roundw
        case rel => exact ⟨k + 1, by omega, by go_num, KF2.out⟩
        case measure => simp [intOf]; omega
      · obtain rfl : k = lf := by omega
        have hkm : k < d.pend.length := by rw [HN.out.2]; omega
        obtain ⟨bp, offp, rfl, hlb, hat⟩ := HWW.out.1 (by omega)
        obtain ⟨D1, c1, h1, h2, h3⟩ := hat k _ (List.getElem?_eq_getElem hkm)
        obtain ⟨hp0, hp2⟩ := HFM.out (d.pend[k]'hkm) (List.getElem_mem hkm)
        have hgd : d.pend.getD k (0, []) = d.pend[k]'hkm := by rw [List.getD_eq_getElem?_getD, List.getElem?_eq_getElem hkm]; rfl
        obtain ⟨a, ha⟩ : ∃ a, d.pend[k]'hkm = a := ⟨_, rfl⟩
        rw [ha] at h1 h2 h3 hp0 hp2 hgd
        clear ha hat
        obtain ⟨x, s⟩ := a
        simp only at h1 h2 h3 hp0 hp2
        rw [hp2] at h2
        obtain ⟨p, rfl⟩ : ∃ p : Nat, x = (p : Int) := ⟨x.toNat, by omega⟩
        have hpN : p < N := by rw [HN.out.1] at hp0; omega
        obtain ⟨S, hS⟩ : ∃ S, perf d.secs (d.pend.take k) = S := ⟨_, rfl⟩
        have hSM := HPM.out k
        have hSN : S.length = N := by rw [← hS, perf_length, HN.out.1]
        rw [hS] at KR hSM
        have HTS := Lib.hid (show tsecs d k = S.set p (torn (S.getD p []) s) by unfold tsecs; rw [hgd, hS]; rfl)
        obtain ⟨s0, hs0⟩ : ∃ s0, S[p]? = some s0 := ⟨_, List.getElem?_eq_getElem (by omega)⟩
        have hs0l : s0.length = 128 := hSM s0 (List.mem_of_getElem? hs0)
        have hgd2 : S.getD p [] = s0 := by rw [List.getD_eq_getElem?_getD, hs0]; rfl
        rw [hgd2] at HTS
        have hbW := bthen HB1.out.2 KR.out.2.2
        have hD1 := h3.2.1
        rw [hp2] at hD1
        obtain ⟨bD, oD, rfl, hbD, _⟩ := h3.1 (by omega)
        have q0 : wr.cell? ⟨bp, offp + k * 2, none⟩ = some (.int .i64 (p : Int)) := (hbW.cell (p := ⟨bp, offp + k * 2, none⟩) hlb).trans h1
        have q1 : wr.cell? ⟨bp, offp + k * 2 + 1, none⟩ = some (.slice (some ⟨bD, oD, none⟩) 128 c1) := (hbW.cell (p := ⟨bp, offp + k * 2 + 1, none⟩) hlb).trans h2
        have q3 := (HK.out wr KR.out.2.2).2.1
        have hba := (Below.refl wr.heap.size wr).alloc (Nat.le_refl _) (.cells #[.int .i64 (p : Int), .slice (some ⟨bD, oD, none⟩) 128 c1] 54)
        have x8 := Box.new wr #[.int .i64 (p : Int), .slice (some ⟨bD, oD, none⟩) 128 c1] 54
        have KV := Lib.hid (And.intro (KR.out.1.below hba) (And.intro (KR.out.2.1.below hba) (And.intro (bthen (a := w1) KR.out.2.2 hba) (And.intro x8 (h3.up (bthen hbW hba))))))
        have i1 : (0 : Int) ≤ (k : Int) := by omega
        have i2 : (k : Int) < (m : Int) := by omega
        have hzr : z < wr.heap.size := KR.out.1.lt
        have hgr : g < wr.heap.size := KR.out.2.1.lt.2
        clear hgd hgd2 hp0 h1 h2 h3 hbW hba x8 KR
        go_upto_region 14 with fail
        clear q0 q1 q3 i1 i2
        generalize World.alloc wr _ = v at *
        generalize wr.heap.size = b8 at *
        have hb8 : b8 < v.heap.size := KV.out.2.2.2.1.lt
        obtain ⟨A5, k5, cg0, hs5, _⟩ := KV.out.2.1.at_ hs0
        have hk5 := hs5.2.1
        rw [hs0l] at cg0 hk5
        obtain ⟨b5, o5, rfl, _, _⟩ := hs5.1 (by omega)
        have hba := (Below.refl v.heap.size v).alloc (Nat.le_refl _) (.cells #[] 5)
        have HGP := Lib.hid (fun W (hb : Below v.heap.size v W) => show W.cell? ⟨g, p, none⟩ = some (.slice (some ⟨b5, o5, none⟩) 128 k5) from (hb.cell (p := ⟨g, p, none⟩) (Nat.lt_of_lt_of_le hgr (by omega))).trans cg0)
        have cg1 : (v.alloc (.cells #[] 5)).cell? ⟨g, p, none⟩ = some (.slice (some ⟨b5, o5, none⟩) 128 k5) := HGP.out _ hba
        have HBA := Lib.hid hba.drew
        have HS14 := Lib.hid (fun W (hb : Below v.heap.size v W) => show W.cell? ⟨z, 0, none⟩ = some (.slice (some ⟨g, 0, none⟩) N cg) ∧ W.cell? ⟨b8, 0, none⟩ = some (.int .i64 (p : Int)) ∧ W.cell? ⟨b8, 1, none⟩ = some (.slice (some ⟨bD, oD, none⟩) 128 c1) from ⟨(KV.out.1.below hb).cell 0, (KV.out.2.2.2.1.below hb).cell 0, (KV.out.2.2.2.1.below hb).cell 1⟩)
        have hne8 : b8 ≠ g := by omega
        have HS15 := Lib.hid (fun W vv (hb : Below v.heap.size v W) => show (W.setCell ⟨g, p, none⟩ vv).cell? ⟨z, 0, none⟩ = some (.slice (some ⟨g, 0, none⟩) N cg) ∧ (W.setCell ⟨g, p, none⟩ vv).cell? ⟨b8, 0, none⟩ = some (.int .i64 (p : Int)) ∧ (W.setCell ⟨g, p, none⟩ vv).cell? ⟨b8, 1, none⟩ = some (.slice (some ⟨bD, oD, none⟩) 128 c1) from ⟨(set_grown_at W g p vv).cell (HS14.out W hb).1 (by simpa using hzg), (set_grown_at W g p vv).cell (HS14.out W hb).2.1 (by simpa using hne8), (set_grown_at W g p vv).cell (HS14.out W hb).2.2 (by simpa using hne8)⟩)
        have HSD := Lib.hid (fun W (hb : Below v.heap.size v W) => And.intro ((KV.out.2.2.2.2.up hb).front 64) (((hs5.up hb).back 64 (by omega))))
        have hl1 : (s.take 64).length = 64 := by rw [List.length_take, hp2]; rfl
        have hl2 : (s0.drop 64).length = 64 := by rw [List.length_drop, hs0l]
        have HL := Lib.hid (And.intro hl1 hl2)
        have HFZ := Lib.hid (fun W (hb : Below v.heap.size v W) => KV.out.2.1.below hb)
        have hge0 : v.heap.size ≤ (v.alloc (.cells #[] 5)).drew.heap.size := hba.size
        have i1 : (64 : Int) ≤ (c1 : Int) := by omega
        have i2 : ¬ (c1 : Int) < 64 := by omega
        have i3 : ¬ k5 = 64 := by omega
        have i4 : (64 : Int) ≤ (k5 : Int) := by omega
        have i5 : (0 : Int) ≤ (p : Int) := by omega
        have i6 : (p : Int) < (N : Int) := by omega
        clear hba hl1 hl2 hs5
        have HD := Lib.hid (fun W (hb : Below v.heap.size v W) => show (fun w' => w'.cell? ⟨z, 0, none⟩ = some (.slice (some ⟨g, 0, none⟩) N cg) ∧ w'.cell? ⟨b8, 0, none⟩ = some (.int .i64 (p : Int)) ∧ w'.cell? ⟨b8, 1, none⟩ = some (.slice (some ⟨bD, oD, none⟩) 128 c1) ∧ w'.cell? ⟨g, p, none⟩ = some (.slice (some ⟨b5, o5, none⟩) 128 k5)) W from ⟨(HS14.out W hb).1, (HS14.out W hb).2.1, (HS14.out W hb).2.2, HGP.out W hb⟩)
        have HDV := Lib.hid (HD.out v.drew (Below.refl v.heap.size v).drew)
        clear HS14 HS15 HGP cg0 cg1
        refine wp_region_later 18 (fun w' => w'.cell? ⟨z, 0, none⟩ = some (.slice (some ⟨g, 0, none⟩) N cg) ∧ w'.cell? ⟨b8, 0, none⟩ = some (.int .i64 (p : Int)) ∧ w'.cell? ⟨b8, 1, none⟩ = some (.slice (some ⟨bD, oD, none⟩) 128 c1) ∧ w'.cell? ⟨g, p, none⟩ = some (.slice (some ⟨b5, o5, none⟩) 128 k5)) (by kernel_rfl) ?_
        refine takeL (d := some 65) (i := 0) (v := ?v0) rfl rfl (by kernel_rfl) (by kernel_rfl) (by kernel_rfl) (fun _ _ _ h => h) rfl (by kernel_rfl) (Or.inl ⟨by rfl, ?y0⟩) HDV.out ?r0
        case y0 =>
          intro w hSw
          try dsimp only at hSw
          go_simp
          all_goals with_reducible rfl
        try simp only [Act.put, List.setIfInBounds_toArray, List.set_cons_zero, List.set_cons_succ]
        refine takeL (d := some 66) (i := 1) (v := ?v1) rfl rfl (by kernel_rfl) (by kernel_rfl) (by kernel_rfl) (fun _ _ _ h => h) rfl (by kernel_rfl) (Or.inl ⟨by rfl, ?y1⟩) HDV.out ?r1
        case y1 =>
          intro w hSw
          try dsimp only at hSw
          go_simp
          all_goals with_reducible rfl
        try simp only [Act.put, List.setIfInBounds_toArray, List.set_cons_zero, List.set_cons_succ]
        refine takeL (d := some 67) (i := 2) (v := ?v2) rfl rfl (by kernel_rfl) (by kernel_rfl) (by kernel_rfl) (fun _ _ _ h => h) rfl (by kernel_rfl) (Or.inl ⟨by rfl, ?y2⟩) HDV.out ?r2
        case y2 =>
          intro w hSw
          try dsimp only at hSw
          go_simp
          all_goals with_reducible rfl
        try simp only [Act.put, List.setIfInBounds_toArray, List.set_cons_zero, List.set_cons_succ]
        refine takeL (d := some 68) (i := 3) (v := ?v3) rfl rfl (by kernel_rfl) (by kernel_rfl) (by kernel_rfl) (fun _ _ _ h => h) rfl (by kernel_rfl) (Or.inl ⟨by rfl, ?y3⟩) HDV.out ?r3
        case y3 =>
          intro w hSw
          try dsimp only at hSw
          go_simp
          all_goals with_reducible rfl
        try simp only [Act.put, List.setIfInBounds_toArray, List.set_cons_zero, List.set_cons_succ]
        refine takeL (d := some 70) (i := 5) (v := ?v5) rfl rfl (by kernel_rfl) (by kernel_rfl) (by kernel_rfl) (fun _ _ _ h => h) rfl (by kernel_rfl) (Or.inl ⟨by rfl, ?y5⟩) HDV.out ?r5
        case y5 =>
          intro w hSw
          try dsimp only at hSw
          go_simp
          all_goals with_reducible rfl
        try simp only [Act.put, List.setIfInBounds_toArray, List.set_cons_zero, List.set_cons_succ]
        refine takeL (d := some 71) (i := 6) (v := ?v6) rfl rfl (by kernel_rfl) (by kernel_rfl) (by kernel_rfl) (fun _ _ _ h => h) rfl (by kernel_rfl) (Or.inl ⟨by rfl, ?y6⟩) HDV.out ?r6
        case y6 =>
          intro w hSw
          try dsimp only at hSw
          go_simp
          all_goals with_reducible rfl
        try simp only [Act.put, List.setIfInBounds_toArray, List.set_cons_zero, List.set_cons_succ]
        refine takeL (d := some 72) (i := 7) (v := ?v7) rfl rfl (by kernel_rfl) (by kernel_rfl) (by kernel_rfl) (fun _ _ _ h => h) rfl (by kernel_rfl) (Or.inl ⟨by rfl, ?y7⟩) HDV.out ?r7
        case y7 =>
          intro w hSw
          try dsimp only at hSw
          go_simp
          all_goals with_reducible rfl
        try simp only [Act.put, List.setIfInBounds_toArray, List.set_cons_zero, List.set_cons_succ]
        refine takeL (d := some 74) (i := 9) (v := ?v9) rfl rfl (by kernel_rfl) (by kernel_rfl) (by kernel_rfl) (fun _ _ _ h => h) rfl (by kernel_rfl) (Or.inl ⟨by rfl, ?y9⟩) HDV.out ?r9
        case y9 =>
          intro w hSw
          try dsimp only at hSw
          go_simp
          all_goals with_reducible rfl
        try simp only [Act.put, List.setIfInBounds_toArray, List.set_cons_zero, List.set_cons_succ]
        refine takeL (d := some 75) (i := 10) (v := ?v10) rfl rfl (by kernel_rfl) (by kernel_rfl) (by kernel_rfl) (fun _ _ _ h => h) rfl (by kernel_rfl) (Or.inl ⟨by rfl, ?y10⟩) HDV.out ?r10
        case y10 =>
          intro w hSw
          try dsimp only at hSw
          go_simp
          all_goals with_reducible rfl
        try simp only [Act.put, List.setIfInBounds_toArray, List.set_cons_zero, List.set_cons_succ]
        refine takeL (d := some 76) (i := 11) (v := ?v11) rfl rfl (by kernel_rfl) (by kernel_rfl) (by kernel_rfl) (fun _ _ _ h => h) rfl (by kernel_rfl) (Or.inl ⟨by rfl, ?y11⟩) HDV.out ?r11
        case y11 =>
          intro w hSw
          try dsimp only at hSw
          go_simp
          all_goals with_reducible rfl
        try simp only [Act.put, List.setIfInBounds_toArray, List.set_cons_zero, List.set_cons_succ]
        refine takeL (d := some 77) (i := 12) (v := ?v12) rfl rfl (by kernel_rfl) (by kernel_rfl) (by kernel_rfl) (fun _ _ _ h => h) rfl (by kernel_rfl) (Or.inl ⟨by rfl, ?y12⟩) HDV.out ?r12
        case y12 =>
          intro w hSw
          try dsimp only at hSw
          go_simp
          all_goals with_reducible rfl
        try simp only [Act.put, List.setIfInBounds_toArray, List.set_cons_zero, List.set_cons_succ]
        refine takeL (d := some 78) (i := 13) (v := ?v13) rfl rfl (by kernel_rfl) (by kernel_rfl) (by kernel_rfl) (fun _ _ _ h => h) rfl (by kernel_rfl) (Or.inl ⟨by rfl, ?y13⟩) HDV.out ?r13
        case y13 =>
          intro w hSw
          try dsimp only at hSw
          go_simp
          all_goals with_reducible rfl
        try simp only [Act.put, List.setIfInBounds_toArray, List.set_cons_zero, List.set_cons_succ]
        refine takeL (d := some 79) (i := 14) (v := ?v14) rfl rfl (by kernel_rfl) (by kernel_rfl) (by kernel_rfl) (fun _ _ _ h => h) rfl (by kernel_rfl) (Or.inl ⟨by rfl, ?y14⟩) HDV.out ?r14
        case y14 =>
          intro w hSw
          try dsimp only at hSw
          go_simp
          all_goals with_reducible rfl
        try simp only [Act.put, List.setIfInBounds_toArray, List.set_cons_zero, List.set_cons_succ]
        refine takeL (d := some 80) (i := 15) (v := ?v15) rfl rfl (by kernel_rfl) (by kernel_rfl) (by kernel_rfl) (fun _ _ _ h => h) rfl (by kernel_rfl) (Or.inl ⟨by rfl, ?y15⟩) HDV.out ?r15
        case y15 =>
          intro w hSw
          try dsimp only at hSw
          go_simp
          all_goals with_reducible rfl
        try simp only [Act.put, List.setIfInBounds_toArray, List.set_cons_zero, List.set_cons_succ]
        refine oneL (i := 4) (by kernel_rfl) rfl (fun K' hK => ?_)
        go_simp
        refine hK.out _ _ (fun _ => HD.out _ HBA.out) ?_
        clear hK
        refine oneL (i := 8) (by kernel_rfl) rfl (fun K' hK => ?_)
        refine step_append_sl (base := v.heap.size) (by rfl) (.tmp 69) (.tmp 72) (by rfl) (.slice (some ⟨v.heap.size, 0, none⟩) 0 0) 0 [] (by rfl) (own_empty v (Nat.le_refl _)) (some ⟨bD, oD, none⟩) (s.take 64) 64 c1 HL.out.1 (by rfl) (HSD.out _ HBA.out).1 64 rfl (by omega) hge0 ?_
        intro A9 c9 w9 ho9 hg9
        have hb9 := HBA.out.grown hg9 HBA.out.size (fun i hi => ((own_empty v (Nat.le_refl v.heap.size)).lt i hi).1)
        have B9 := Lib.hid hb9
        have O9 := Lib.hid ho9
        clear ho9 hg9 hb9
        refine hK.out _ _ (fun _ => HD.out _ B9.out) ?_
        clear hK
        refine oneL (i := 16) (by kernel_rfl) rfl (fun K' hK => ?_)
        refine step_append_sl (base := v.heap.size) (by rfl) (.tmp 73) (.tmp 80) (by rfl) (.slice A9 64 c9) 64 _ (by rfl) O9.out (some ⟨b5, o5 + 64, none⟩) (s0.drop 64) 64 (k5 - 64) HL.out.2 (by rfl) (HSD.out _ B9.out).2 128 rfl (by omega) B9.out.size ?_
        intro A10 c10 w10 ho10 hg10
        have hb10 := B9.out.grown hg10 B9.out.size (fun i hi => (O9.out.lt i hi).1)
        have B10 := Lib.hid hb10
        have O10 := Lib.hid ho10
        have f10 := (HFZ.out w10 hb10).frozen p
        have cg3 := (HD.out w10 hb10).2.2.2
        clear ho10 hg10 hb10
        refine hK.out _ _ (fun _ => HD.out _ B10.out) ?_
        clear hK
        refine oneL (i := 17) (by kernel_rfl) rfl (fun K' hK => ?_)
        go_simp
        refine hK.out _ _ (fun _ => HD.out _ B10.out) ?_
        clear hK
        refine oneL (i := 18) (by kernel_rfl) rfl (fun K' hK => ?_)
        go_simp
        refine hK.out _ _ (fun e => by simp at e) ?_
        clear hK
        refine doneL (by kernel_rfl) ?_ _
        have hzB := B10.out.size
        have hO10 := HFZ.out w10 B10.out
        have hsl := (show Row8 v w10 A10 (torn s0 s) c10 from ⟨by
          have h1 := O10.out
          rw [List.nil_append, ← List.map_append] at h1
          rw [show (torn s0 s).length = 128 from torn_length hs0l hp2]
          exact h1, B10.out⟩).sl
        have hbl : ∀ b off, A10 = some ⟨b, off, none⟩ → b ≠ g ∧ (b < w.heap.size ∨ w1.heap.size ≤ b) := fun b off e => by
          subst e
          have h1 := (O10.out.lt b rfl).1
          have h2 := KV.out.2.2.1.size
          have h3 : g < v.heap.size := by omega
          exact ⟨by omega, .inr (by omega)⟩
        have hset := hO10.set p A10 (torn s0 s) 128 c10 (torn_length hs0l hp2) hsl hbl
        have hSM2 : ∀ x ∈ S.set p (torn s0 s), x.length = 128 := fun x hx => by
          rcases List.mem_or_eq_of_mem_set hx with h | h
          · exact hSM x h
          · rw [h]; exact torn_length hs0l hp2
        have hgl := hO10.lt
        have KT := Lib.hid (And.intro (box_other (b := g) (i := p) (v := .slice A10 128 c10) (KV.out.1.below B10.out) hzg) (And.intro hset.1 (bthen (a := w1) KV.out.2.2.1 B10.out |>.setCell (p := ⟨g, p, none⟩) hgl.1 (.slice A10 128 c10))))
        have HSM := Lib.hid (And.intro hSM2 (And.intro hSN HTS.out))
        clear hO10 hsl hbl hset hSM2 hgl KV HD HDV HSD HFZ HBA B9 O9 B10 O10 f10 cg3 hzB hSM hSN HTS i1 i2 i3 i4 i5 i6
        generalize World.setCell _ ⟨g, p, none⟩ _ = wT at *
        obtain ⟨b0, b1, b2, b3⟩ : wT.cell? ⟨z, 0, none⟩ = some (.slice (some ⟨g, 0, none⟩) N cg) ∧ wT.cell? ⟨z, 1, none⟩ = some (.slice none 0 0) ∧ wT.cell? ⟨z, 2, none⟩ = some (.int .i64 (k : Int)) ∧ wT.cell? ⟨z, 3, none⟩ = some (.bool false) := ⟨KT.out.1.cell 0, KT.out.1.cell 1, KT.out.1.cell 2, KT.out.1.cell 3⟩
        have f2 := KT.out.1.frozen 2
        have f3 := KT.out.1.frozen 3
        obtain ⟨_, ⟨⟨r0, r1, r2, r3⟩, g0, g1, g2, g3⟩⟩ := H2.out.facts (HB1.out.1.trans (KT.out.2.2.mono HB1.out.1.size))
        have n1 : ¬ w.heap.size + 1 = z := by omega
        have n2 : ¬ z = w.heap.size + 1 := by omega
        have n3 : ¬ w.heap.size + 1 = g := by have := KT.out.2.1.lt.1; omega
        have n4 : ¬ g = w.heap.size + 1 := by have := KT.out.2.1.lt.1; omega
        go_wp2_with fail
        have hfin0 := H2.out.fin (HB1.out.1.trans (KT.out.2.2.mono HB1.out.1.size))
        have x2 := box_other (b := z) (i := 3) (v := .bool true) (box_other (b := z) (i := 2) (v := .int .i64 0) hfin0.2 n1) n1
        have b2' := (hfin0.1.setCell (p := ⟨z, 2, none⟩) (by show w.heap.size ≤ z; omega) (.int .i64 0)).setCell (p := ⟨z, 3, none⟩) (by show w.heap.size ≤ z; omega) (.bool true)
        have r2' := (KT.out.2.1.rr.other HSM.out.1 KT.out.1 (by simp) (fun a off e => by cases e; exact Ne.symm hzg) 2 (.int .i64 0)).other HSM.out.1 KT.out.1.set (by simp) (fun a off e => by cases e; exact Ne.symm hzg) 3 (.bool true)
        have hfin := fin4 (.slice (some ⟨g, 0, none⟩) N cg) (.slice none 0 0) (.int .i64 0) (.bool true) b2' x2
        have hrr := fin4r (.slice (some ⟨g, 0, none⟩) N cg) (.slice none 0 0) (.int .i64 0) (.bool true) r2' HSM.out.1 x2 n4
        rw [← HSM.out.2.2] at hrr
        exact bodyPost_ret (dk_ret2 Try.results24 rfl hfin.1) rfl ⟨some ⟨g, 0, none⟩, cg, none, 0, by rw [HSM.out.2.2, List.length_set, HSM.out.2.1]; rfl, ⟨hrr, WW.nil _⟩, hfin.2⟩



set_option maxHeartbeats 4000000 in
set_option maxRecDepth 100000 in
theorem rsync_err (d : Dk) (A B : Option Addr) (c k0 : Nat) (w : World) (hS : DkIn w d A c B k0) (h : rng d = false) :
    Calls Try.prog 24 #[dkv d A c B k0] w (DkPost dk0 70 w) := by
  have h2 := two_new w d A c B k0
  have HR := Lib.hid (rcheck_any d A B c k0 _ (hS.up h2.below))
  have H2 := Lib.hid h2
  unfold DkPost
  unfold dkv dkc at *
  clear h2 hS
  obtain ⟨N, hN⟩ : ∃ N, d.secs.length = N := ⟨_, rfl⟩
  obtain ⟨m, hm⟩ : ∃ m, d.pend.length = m := ⟨_, rfl⟩
  rw [hN, hm] at HR H2 ⊢
  have HN := Lib.hid (And.intro hN hm)
  clear hN hm
  cases q1 : vld d
  · rw [show chk d = 70 by unfold chk; rw [q1]; rfl] at HR
    clear q1 h
    go_enter Try.func24, Try.ntmps24
    go_wp2_with fail
    generalize World.alloc _ _ = W at *
    refine HR.out.mono ?_
    rintro e w1 ⟨rfl, hb1⟩
    obtain ⟨⟨⟨b0, b1, b2, b3⟩, e0, e1, e2, e3⟩, ⟨⟨r0, r1, r2, r3⟩, g0, g1, g2, g3⟩⟩ := H2.out.facts hb1
    rw [HN.out.1] at b0
    rw [HN.out.2] at b1

    have HB1 := Lib.hid hb1
    clear hb1
    go_wp2_with fail
    have hfin := fin4 (.slice none 0 0) (.slice none 0 0) (.int .i64 0) (.bool false) (H2.out.fin HB1.out).1 (H2.out.fin HB1.out).2
    exact bodyPost_ret (dk_ret2 Try.results24 rfl hfin.1) rfl ⟨none, 0, none, 0, rfl, DkIn.zero _, hfin.2⟩
  · rw [show chk d = 0 by unfold chk; rw [q1]; rfl] at HR
    have q2 : d.stop = true := by
      unfold rng at h
      rw [q1] at h
      simpa using h
    have HQ2 := Lib.hid q2
    rw [q2] at HR H2 ⊢
    clear q1 q2 h
    go_enter Try.func24, Try.ntmps24
    go_wp2_with fail
    generalize World.alloc _ _ = W at *
    refine HR.out.mono ?_
    rintro e w1 ⟨rfl, hb1⟩
    obtain ⟨⟨⟨b0, b1, b2, b3⟩, e0, e1, e2, e3⟩, ⟨⟨r0, r1, r2, r3⟩, g0, g1, g2, g3⟩⟩ := H2.out.facts hb1
    rw [HN.out.1] at b0
    rw [HN.out.2] at b1

    rw [HQ2.out] at b3
    have HB1 := Lib.hid hb1
    clear hb1
    go_wp2_with fail
    have hfin := fin4 (.slice none 0 0) (.slice none 0 0) (.int .i64 0) (.bool false) (H2.out.fin HB1.out).1 (H2.out.fin HB1.out).2
    exact bodyPost_ret (dk_ret2 Try.results24 rfl hfin.1) rfl ⟨none, 0, none, 0, rfl, DkIn.zero _, hfin.2⟩
theorem rsync_any (d : Dk) (A B : Option Addr) (c k0 : Nat) (w : World) (hS : DkIn w d A c B k0) :
    Calls Try.prog 24 #[dkv d A c B k0] w (DkPost (sy d) (sye d) w) := by
  cases q : rng d
  · rw [show sye d = 70 by unfold sye; rw [q]; rfl, show sy d = dk0 by unfold sy; rw [q]; rfl]
    exact rsync_err d A B c k0 w hS q
  · obtain ⟨hv, hs⟩ := rng_facts q
    obtain ⟨_, _, ⟨hl1, hl2⟩, _, _⟩ := vld_facts.1 hv
    by_cases q2 : d.left = -1
    · have hst : stops d = false := by unfold stops; apply decide_eq_false; omega
      have he : sye d = 0 := by unfold sye; rw [q, hst]; rfl
      rw [he, (sy_ok he).2.2, if_pos q2]
      exact rsync_un d A B c k0 w hS hv hs q2
    · obtain ⟨lf, hlf⟩ : ∃ lf : Nat, d.left = (lf : Int) := ⟨d.left.toNat, by omega⟩
      by_cases q3 : d.pend.length ≤ lf
      · have hst : stops d = false := by unfold stops; apply decide_eq_false; omega
        have he : sye d = 0 := by unfold sye; rw [q, hst]; rfl
        rw [he, (sy_ok he).2.2, if_neg q2, hlf]
        exact rsync_go d A B c k0 lf w hS hv hs hlf q3 (by omega)
      · have hst : stops d = true := by unfold stops; apply decide_eq_true; omega
        have he : sye d = 70 := by unfold sye; rw [hst]; simp
        have hsy : sy d = ⟨tsecs d lf, [], 0, true⟩ := by
          unfold sy
          rw [if_neg (by rw [q]; decide), if_pos hst]
          unfold tsecs
          simp only [hlf, Int.toNat_natCast]
        rw [he, hsy]
        exact rsync_st d A B c k0 lf w hS hv hs hlf (by omega)
end Go.Proofs.Ytiphajgmjmjanaa
