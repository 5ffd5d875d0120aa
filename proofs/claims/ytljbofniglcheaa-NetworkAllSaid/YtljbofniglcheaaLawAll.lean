/- NetworkAll. -/
import Derived.Test.YtljbofniglcheaaWp
import Derived.Test.YtljbofniglcheaaSane
import Derived.Test.YtljbofniglcheaaRSe
import Derived.IntWalk
import Derived.Deep.Cut
import Derived.Deep.CutRange
import Derived.Deep.RegionHeld3
namespace Go.Proofs.Ytljbofniglcheaa
open Go.RowKit Go.Sort
set_option linter.unusedVariables false

/-! Plain. -/
def flo (l : List Pk) : List Pk := l.filter okp
theorem flo_ok {l : List Pk} : ∀ p ∈ flo l, okp p = true := fun p hp => (List.mem_filter.1 hp).2
theorem flo_len (l : List Pk) : (flo l).length ≤ l.length := List.length_filter_le _ _
theorem flo_yes {l : List Pk} {j : Nat} {p : Pk} (hj : l[j]? = some p) (hp : okp p = true) : flo (l.take (j + 1)) = flo (l.take j) ++ [p] := by
  unfold flo
  rw [List.take_add_one, hj, List.filter_append]
  simp [hp]
theorem flo_no {l : List Pk} {j : Nat} {p : Pk} (hj : l[j]? = some p) (hp : okp p = false) : flo (l.take (j + 1)) = flo (l.take j) := by
  unfold flo
  rw [List.take_add_one, hj, List.filter_append]
  simp [hp]
theorem all_vld {r : List Pk} (h : r.length ≤ 12) (hv : ∀ p ∈ r, okp p = true) : vld ⟨r, []⟩ = true := (vld_iff _).2 ⟨by show r.length ≤ 4096; omega, hv, rfl⟩
theorem all_yes {r : List Pk} {p : Pk} (h : r.length ≤ 12) (hv : ∀ p ∈ r, okp p = true) (hp : okp p = true) : sn ⟨r, []⟩ p = ⟨r ++ [p], []⟩ ∧ sne ⟨r, []⟩ p = 0 :=
  sn_ok (all_vld h hv) hp (by show r.length < 4096; omega)
theorem all_no {r : List Pk} {p : Pk} (hp : okp p = false) : sn ⟨r, []⟩ p = nt0 ∧ sne ⟨r, []⟩ p = 90 := by
  unfold sn sne
  rw [hp, Bool.and_false]
  exact ⟨rfl, rfl⟩
theorem all_dl {r : List Pk} {i : Nat} {p : Pk} (h : r.length ≤ 12) (hv : ∀ p ∈ r, okp p = true) (hi : r[i]? = some p) : dlp ⟨r, []⟩ (i : Int) = p ∧ los ⟨r, []⟩ (i : Int) = ⟨r.take i ++ r.drop (i + 1), []⟩ ∧ hle ⟨r, []⟩ (i : Int) = 0 := by
  have hil := (List.getElem?_eq_some_iff.1 hi).1
  have hc : can ⟨r, []⟩ (i : Int) = true := (can_iff _ _).2 ⟨all_vld h hv, by omega, by show (i : Int) < (r.length : Int); omega⟩
  refine ⟨?_, los_ok hc, hle_ok hc⟩
  have ha := ati_mem (n := ⟨r, []⟩) (i := i) hil
  unfold dlp
  rw [hc, if_pos rfl]
  have hcd : cutd ⟨r, []⟩ (ati ⟨r, []⟩ (i : Int)) = false := rfl
  rw [hcd, if_neg Bool.false_ne_true]
  have : some (ati ⟨r, []⟩ (i : Int)) = some p := ha.symm.trans hi
  injection this
theorem cut_ok {r : List Pk} {i : Nat} (hv : ∀ p ∈ r, okp p = true) : ∀ p ∈ r.take i ++ r.drop (i + 1), okp p = true := fun p hp => by
  rcases List.mem_append.1 hp with h | h
  · exact hv p (List.mem_of_mem_take h)
  · exact hv p (List.mem_of_mem_drop h)
theorem cut_len {r : List Pk} {i : Nat} (hi : i < r.length) : (r.take i ++ r.drop (i + 1)).length + 1 = r.length := by
  rw [List.length_append, List.length_take, List.length_drop]
  omega
def slen : Value → Nat
  | .slice _ n _ => n
  | _ => 0
theorem Box.below' {B : Nat} {w w' : World} {b : Nat} {cs : Array Value} {t : TypeId} (h : Box w b cs t) (hb : Below B w w') (hlt : b < B) : Box w' b cs t := (hb.block b hlt).trans h
section
variable {w W : World} {b bp : Nat} {n : Nt} {A : Option Addr} {c : Nat} {B : Option Addr} {k lq la : Nat} {p : Pk} {D : Option Addr} {d m : Nat}
theorem NV.put_ {n2 : Nt} {A2 B2 : Option Addr} {c2 k2 lq2 la2 : Nat} (hx : NV W b n A c B k lq la) (h : NtIn W n2 A2 c2 B2 k2) (hq : n2.q.length = lq2) (ha : n2.ap.length = la2) : NV ((W.setCell ⟨b, 0, none⟩ (.slice A2 lq2 c2)).setCell ⟨b, 1, none⟩ (.slice B2 la2 k2)) b n2 A2 c2 B2 k2 lq2 la2 :=
  ⟨box2 _ _ hx.box, (h.off hx.box (onlyS2 _ _ _ _ _ _) 0 _).off (hx.box.set (i := 0) (v := .slice A2 lq2 c2)) (OnlyS.set (onlyS2 _ _ _ _ _ _) 0 _ _ _) 1 _, hq, ha⟩
theorem nv_set_ (hx : Box w b #[.slice none 0 0, .slice none 0 0] 25) (h : NtIn w n A c B k) (hq : n.q.length = lq) (ha : n.ap.length = la) : NV ((w.setCell ⟨b, 0, none⟩ (.slice A lq c)).setCell ⟨b, 1, none⟩ (.slice B la k)) b n A c B k lq la :=
  ⟨box2 _ _ hx, (h.off hx (onlyS2 _ _ _ _ _ _) 0 _).off (hx.set (i := 0) (v := .slice A lq c)) (OnlyS.set (onlyS2 _ _ _ _ _ _) 0 _ _ _) 1 _, hq, ha⟩
theorem samep_s {p : Pk} {D2 : Option Addr} {d2 m2 : Nat} (h : PV W b p D d m) (h2 : Sl W D2 p.da d2) (hm : p.da.length = m2) : Calls Try.prog 22 #[.agg #[.int .i64 p.fr, .int .i64 p.to, .slice D m d], .agg #[.int .i64 p.fr, .int .i64 p.to, .slice D2 m2 d2]] W (BoolPost true W) := by
  have := samePacket_any p p D D2 d d2 W h.sl h2
  rw [h.val, spk_refl] at this
  unfold pkv pkc at this
  rw [hm] at this
  exact this
theorem new_m (w : World) : Calls Try.prog 16 #[] w (fun e w' => ∃ A c B k, e = .returned (.agg #[.slice A 0 c, .slice B 0 k]) ∧ NtIn w' nt0 A c B k ∧ Below w.heap.size w w') := (new_any w).mono fun e w' h => by
  obtain ⟨A, c, B, k, h1, h2, h3⟩ := h
  exact ⟨A, c, B, k, h1, h2, h3⟩
end

set_option maxHeartbeats 16000000 in
set_option maxRecDepth 100000 in
theorem lawAll_any (l : List Pk) (A0 : Option Addr) (c0 : Nat) (ol : List UInt8) (B0 : Option Addr) (e0 : Nat) (w : World) (hS : QQ w A0 l c0) (hD : Sl w B0 ol e0) :
    Calls Try.prog 6 #[.slice A0 l.length c0, .slice B0 ol.length e0] w (BoolPost true w) := by
  obtain ⟨L, hL⟩ : ∃ L, l.length = L := ⟨_, rfl⟩
  obtain ⟨M, hM⟩ : ∃ M, ol.length = M := ⟨_, rfl⟩
  have HS := Lib.hid (And.intro hS hD)
  have HL := Lib.hid (And.intro hL hM)
  have hL9 : L ≤ 9223372036854775807 := by rw [← hL]; have := Nat.le_trans hS.2.1 hS.2.2.1; unfold maxLen at this; omega
  have hM9 : M ≤ 9223372036854775807 := by rw [← hM]; have := Nat.le_trans hD.2.1 hD.2.2.1; unfold maxLen at this; omega
  rw [hL, hM]
  have HSN := Lib.hid sane_any
  unfold BoolPost at HSN ⊢
  clear hS hD hL hM
  go_enter Try.func6, Try.ntmps6
  go_wp2_with fail
  refine (HSN.out _).mono ?_
  rintro e ws ⟨rfl, hbs⟩
  by_cases h12 : 12 < L
  case pos =>
    have hd : decide ((12 : Int) < (L : Int)) = true := decide_eq_true (by omega)
    have hdI : (12 : Int) < (L : Int) := by omega
    have HB := Lib.hid hbs
    clear hbs h12
    go_wp2_with fail
    go_ret
    exact ⟨rfl, HB.out⟩
  have hd : decide ((12 : Int) < (L : Int)) = false := decide_eq_false (by omega)
  have hL12 : L ≤ 12 := by omega
  have HB := Lib.hid hbs
  clear hbs h12
  go_wp2_with fail
  refine (new_m ws).mono ?_
  rintro e wn ⟨An, cn, Bn, kn, rfl, hnn, hbn⟩
  have HBN := Lib.hid (HB.out.trans (hbn.mono HB.out.size))
  have HN0 := Lib.hid (NV.new hnn (show nt0.q.length = 0 from rfl) (show nt0.ap.length = 0 from rfl))
  have HB1 := Lib.hid (HBN.out.trans ((alloc_lt wn (.cells #[.slice An 0 cn, .slice Bn 0 kn] 25)).mono HBN.out.size))
  have HNB := Lib.hid (show wn.heap.size < (wn.alloc (.cells #[.slice An 0 cn, .slice Bn 0 kn] 25)).heap.size ∧ w.heap.size ≤ wn.heap.size from ⟨by rw [World.size_alloc]; omega, HBN.out.size⟩)
  clear hnn hbn hd
  go_upto_region 6 with fail
  generalize wn.alloc (.cells #[.slice An 0 cn, .slice Bn 0 kn] 25) = W1 at *
  obtain ⟨nb, hnb⟩ : ∃ nb, wn.heap.size = nb := ⟨_, rfl⟩
  rw [hnb] at HN0 HNB ⊢
  clear hnb HB HBN HSN
  go_wp2_with fail
  go_loopw [6, 7] (fun v i wr => ∃ j : Nat, j ≤ L ∧ i = .int .i64 (j : Int) ∧ RowP wr W1.heap.size v (flo (l.take j)) ∧ (∃ A c B k lq la, NV wr nb ⟨flo (l.take j), []⟩ A c B k lq la) ∧ Below w.heap.size w wr ∧ W1.heap.size ≤ wr.heap.size) (fun _ i _ => L - (intOf i).toNat)
  case atStart => exact ⟨0, Nat.zero_le _, rfl, .inl ⟨rfl, rfl⟩, ⟨_, _, _, _, _, _, HN0.out⟩, HB1.out, Nat.le_refl _⟩
  case round =>
    obtain ⟨j, hj, rfl, hR, ⟨A, c, B, k, lq, la, hN⟩, hb, hsz⟩ := hrel
    have HR := Lib.hid hR
    have HN := Lib.hid hN
    have HB := Lib.hid hb
    have HSZ := Lib.hid hsz
    clear hR hN hb hsz
    by_cases hlt : j < L
    · have hd1 : decide ((j : Int) < (L : Int)) = true := decide_eq_true (by omega)
      have hj0 : (0 : Int) ≤ (j : Int) := by omega
      have hjL : (j : Int) < (L : Int) := by omega
      obtain ⟨p, hp⟩ : ∃ p, l[j]? = some p := ⟨_, List.getElem?_eq_getElem (by have := HL.out.1; omega)⟩
      obtain ⟨bA, oA, D, d, hA, hbA, q0, q1, q2, q3⟩ := HS.out.1.at_ hp
      subst hA
      have HPJ := Lib.hid (And.intro hp (And.intro hbA q3))
      have hbb := HB.out
      obtain ⟨m, hm⟩ : ∃ m, p.da.length = m := ⟨_, rfl⟩
      rw [hm] at q2
      have HM := Lib.hid hm
      clear hp q3 hm
      go_upto_region 10 with fail
      obtain ⟨er, her⟩ : ∃ er, sne ⟨flo (l.take j), []⟩ p = er := ⟨_, rfl⟩
      obtain ⟨sx, hsx⟩ : ∃ sx, sn ⟨flo (l.take j), []⟩ p = sx := ⟨_, rfl⟩
      have HEX := Lib.hid (And.intro her hsx)
      have HSD := Lib.hid (fun V (hb : Below wr.heap.size wr V) => show Calls Try.prog 11 #[.agg #[.slice A lq c, .slice B la k], .agg #[.int .i64 p.fr, .int .i64 p.to, .slice D m d]] V (NtP sx er V) from by
        have := send_s (HN.out.up hb) ((HPJ.out.2.2.up HB.out).up hb) HM.out
        rw [her, hsx] at this
        exact this)
      obtain ⟨xn0, xn1⟩ := HN.out.cells
      have ln0 := World.block_lt_of_cell? _ _ xn0
      have q0' := (hbb.cell (p := ⟨bA, oA + j * 3, none⟩) hbA).trans q0
      have q1' := (hbb.cell (p := ⟨bA, oA + j * 3 + 1, none⟩) hbA).trans q1
      have q2' := (hbb.cell (p := ⟨bA, oA + j * 3 + 2, none⟩) hbA).trans q2
      have hbA' : bA < wr.heap.size := Nat.lt_of_lt_of_le hbA hbb.size
      have HQ := Lib.hid (And.intro q0 (And.intro q1 (And.intro q2 hbA)))
      have HK := Lib.hid (fun V (hb : Below wr.heap.size wr V) => show V.cell? ⟨nb, 0, none⟩ = some (.slice A lq c) ∧ V.cell? ⟨nb, 1, none⟩ = some (.slice B la k) ∧ V.cell? ⟨bA, oA + j * 3, none⟩ = some (.int .i64 p.fr) ∧ V.cell? ⟨bA, oA + j * 3 + 1, none⟩ = some (.int .i64 p.to) ∧ V.cell? ⟨bA, oA + j * 3 + 2, none⟩ = some (.slice D m d) from
        ⟨(hb.cell (p := ⟨nb, 0, none⟩) ln0).trans xn0, (hb.cell (p := ⟨nb, 1, none⟩) ln0).trans xn1, (hb.cell (p := ⟨bA, oA + j * 3, none⟩) hbA').trans q0', (hb.cell (p := ⟨bA, oA + j * 3 + 1, none⟩) hbA').trans q1', (hb.cell (p := ⟨bA, oA + j * 3 + 2, none⟩) hbA').trans q2'⟩)
      have HB0 := Lib.hid (show Below wr.heap.size wr wr.drew from (Below.refl _ _).drew)
      have HBA := Lib.hid (show Below wr.heap.size wr (wr.alloc (.cells #[.slice none 0 0, .slice none 0 0] 25)).drew from (alloc_lt _ _).drew)
      clear xn0 xn1 q0 q1 q2 q0' q1' q2' hbb her hsx ln0 hbA hbA'
      go_region_held3 (fun w' => w'.cell? ⟨nb, 0, none⟩ = some (.slice A lq c) ∧ w'.cell? ⟨nb, 1, none⟩ = some (.slice B la k) ∧ w'.cell? ⟨bA, oA + j * 3, none⟩ = some (.int .i64 p.fr) ∧ w'.cell? ⟨bA, oA + j * 3 + 1, none⟩ = some (.int .i64 p.to) ∧ w'.cell? ⟨bA, oA + j * 3 + 2, none⟩ = some (.slice D m d))
        (with_reducible first | exact HK.out _ HB0.out | exact HK.out _ HBA.out | exact HK.out _ B3.out | exact HK.out _ B4.out | exact HK.out _ B5.out | fail)
        (first
          | (go_at_call 11; ((with_reducible refine (HSD.out _ HB0.out).mono ?_); rintro e w5 ⟨Ax, cx, Bx, kx, lqx, lax, rfl, ⟨hqx, hax⟩, hnx, hbx⟩; have B3 := Lib.hid (show Below wr.heap.size wr w5 from HB0.out.trans hbx); have B4 := Lib.hid (B3.out.trans ((alloc_lt w5 (.cells #[.slice none 0 0, .slice none 0 0] 25)).mono B3.out.size)); have B5 := Lib.hid (B3.out.trans ((alloc_lt w5 (.cells #[.slice Ax lqx cx, .slice Bx lax kx] 25)).mono B3.out.size)); have Hx := Lib.hid (NV.new hnx hqx hax); clear hnx hqx hax hbx))
          | (go_at_call 11; ((with_reducible refine (HSD.out _ HBA.out).mono ?_); rintro e w5 ⟨Ax, cx, Bx, kx, lqx, lax, rfl, ⟨hqx, hax⟩, hnx, hbx⟩; have B3 := Lib.hid (show Below wr.heap.size wr w5 from HBA.out.trans (hbx.mono HBA.out.size)); have X5 := Lib.hid ((Box.new wr #[.slice none 0 0, .slice none 0 0] 25).drew.below hbx); obtain ⟨zx0, zx1, fx0, fx1⟩ := And.intro (X5.out.cell 0) (And.intro (X5.out.cell 1) (And.intro (X5.out.frozen 0) (X5.out.frozen 1))); have B5 := Lib.hid ((B3.out.setCell (p := ⟨wr.heap.size, 0, none⟩) (Nat.le_refl _) (.slice Ax lqx cx)).setCell (p := ⟨wr.heap.size, 1, none⟩) (Nat.le_refl _) (.slice Bx lax kx)); have Hx := Lib.hid (nv_set_ X5.out hnx hqx hax); clear hnx hqx hax hbx))
          | fail)
      all_goals
        clear HK HSD HB0 HBA
        first
          | (clear zx0 zx1 fx0 fx1; generalize World.setCell (World.setCell w5 _ _) _ _ = W5 at *)
          | (generalize w5.alloc (.cells #[.slice Ax lqx cx, .slice Bx lax kx] 25) = W5 at *)
          | fail
        have HN := Lib.hid (HN.out.up B5.out)
        have HR := Lib.hid (HR.out.up B5.out)
        have HB := Lib.hid (HB.out.trans (B5.out.mono HB.out.size))
        have HSZ := Lib.hid (Nat.le_trans HSZ.out B5.out.size)
        clear B3 B5
        rcases Bool.eq_false_or_eq_true (okp p) with ho | ho
        case inr =>
          have HLS := Lib.hid (flo_no HPJ.out.1 ho)
          obtain rfl : er = 90 := by rw [← HEX.out.1]; exact (all_no ho).2
          clear ho
          go_wp2_with fail
          go_roundw
          case rel => exact ⟨j + 1, by omega, by go_num, by rw [HLS.out]; exact HR.out, ⟨A, c, B, k, lq, la, by rw [HLS.out]; exact HN.out⟩, HB.out, HSZ.out⟩
          case measure => simp [intOf]; omega
        have HLS := Lib.hid (flo_yes HPJ.out.1 ho)
        have hfl : (flo (l.take j)).length ≤ 12 := by have h1 := flo_len (l.take j); rw [List.length_take] at h1; omega
        have hay := all_yes (p := p) hfl flo_ok ho
        obtain rfl : er = 0 := by rw [← HEX.out.1]; exact hay.2
        obtain rfl : sx = ⟨flo (l.take j) ++ [p], []⟩ := by rw [← HEX.out.2]; exact hay.1
        have HFL := Lib.hid hfl
        have HHO := Lib.hid ho
        clear hay hfl ho
        obtain ⟨xx0, xx1⟩ := Hx.out.cells
        obtain ⟨xn0, xn1⟩ := HN.out.cells
        obtain ⟨fn0, fn1⟩ := HN.out.frozen
        have HNN := Lib.hid (NV.put_ HN.out Hx.out.inn Hx.out.hq Hx.out.ha)
        have HRR := Lib.hid ((HR.out.off HN.out.box (onlyS2 _ _ _ _ _ _) HNB.out.1 0 (.slice Ax lqx cx)).off (HN.out.box.set (i := 0) (v := .slice Ax lqx cx)) (OnlyS.set (onlyS2 _ _ _ _ _ _) 0 _ _ _) HNB.out.1 1 (.slice Bx lax kx))
        have HBB := Lib.hid ((HB.out.setCell (p := ⟨nb, 0, none⟩) HNB.out.2 (.slice Ax lqx cx)).setCell (p := ⟨nb, 1, none⟩) HNB.out.2 (.slice Bx lax kx))
        have HSS := Lib.hid (show W1.heap.size ≤ ((W5.setCell ⟨nb, 0, none⟩ (.slice Ax lqx cx)).setCell ⟨nb, 1, none⟩ (.slice Bx lax kx)).heap.size from Nat.le_trans HSZ.out (Nat.le_trans (set_grown_at W5 nb 0 (.slice Ax lqx cx)).size (set_grown_at _ nb 1 (.slice Bx lax kx)).size))
        go_upto_region 13 with fail
        clear xx0 xx1 xn0 xn1 fn0 fn1 Hx HN HR HB HSZ
        generalize World.setCell (World.setCell W5 _ _) _ _ = W6 at *
        have q0 := (HBB.out.cell (p := ⟨bA, oA + j * 3, none⟩) HQ.out.2.2.2).trans HQ.out.1
        have q1 := (HBB.out.cell (p := ⟨bA, oA + j * 3 + 1, none⟩) HQ.out.2.2.2).trans HQ.out.2.1
        have q2 := (HBB.out.cell (p := ⟨bA, oA + j * 3 + 2, none⟩) HQ.out.2.2.2).trans HQ.out.2.2.1
        have HLB := Lib.hid (Box.new W6 #[.int .i64 p.fr, .int .i64 p.to, .slice D m d] 28)
        have HAL := Lib.hid (alloc_lt W6 (.cells #[.int .i64 p.fr, .int .i64 p.to, .slice D m d] 28))
        have HRA := Lib.hid (HRR.out.up HAL.out)
        have HNA := Lib.hid (HNN.out.up HAL.out)
        have HBA := Lib.hid (HBB.out.trans (HAL.out.mono HBB.out.size))
        have HSA := Lib.hid (Nat.le_trans HSS.out HAL.out.size)
        have HYA := Lib.hid (HPJ.out.2.2.up HBA.out)
        have HVN := Lib.hid (show vld ⟨flo (l.take j) ++ [p], []⟩ = true from by
          rw [← HLS.out]
          exact all_vld (by have h1 := flo_len (l.take (j + 1)); rw [List.length_take] at h1; omega) flo_ok)
        go_wp2_with (refine wpList_append_wp rfl (.tmp 39) (.tmp 44) rfl W1.heap.size u6 (flo (l.take j)) rfl HRA.out W6.heap.size p D d m HM.out rfl HLB.out HYA.out HSA.out (by have := HFL.out; omega) ?_; intro v' w7 hr7 hk7 hb7; have HR7 := Lib.hid hr7; have HN7 := Lib.hid (show NV w7 nb ⟨flo (l.take j) ++ [p], []⟩ Ax cx Bx kx lqx lax from ⟨HNA.out.box.below' hb7 HNB.out.1, hk7 _ _ _ _ _ HVN.out HNA.out.inn, HNA.out.hq, HNA.out.ha⟩); have HB7 := Lib.hid (HBA.out.trans (hb7.mono (Nat.le_trans HNB.out.2 (Nat.le_of_lt HNB.out.1)))); have HS7 := Lib.hid (Nat.le_trans HSA.out hb7.size); clear hr7 hk7 hb7 q0 q1 q2)
        go_roundw
        case rel => exact ⟨j + 1, by omega, by go_num, by rw [HLS.out]; exact HR7.out, ⟨Ax, cx, Bx, kx, lqx, lax, by rw [HLS.out]; exact HN7.out⟩, HB7.out, HS7.out⟩
        case measure => simp [intOf]; omega
    · have hT : l.take j = l := List.take_of_length_le (by have := HL.out.1; omega)
      rw [hT] at HR HN
      have hd1 : decide ((j : Int) < (L : Int)) = false := decide_eq_false (by omega)
      obtain ⟨r0, hr0⟩ : ∃ r0, flo l = r0 := ⟨_, rfl⟩
      have hr12 : r0.length ≤ 12 := by rw [← hr0]; have h1 := flo_len l; have := HL.out.1; omega
      have hrok : ∀ p ∈ r0, okp p = true := by rw [← hr0]; exact flo_ok
      rw [hr0] at HR HN
      clear hr0
      obtain ⟨Ar0, cr0, hv0, hq0⟩ := HR.out.qq
      clear HR
      subst hv0
      have HQ0 := Lib.hid (And.intro hr12 (And.intro hrok hq0))
      clear hr12 hrok hq0 hT
      go_wp2_with fail
      go_loopw [6, 10] (fun v i wr => ∃ (r : List Pk) (m : Nat) (A1 : Option Addr) (c1 : Nat), v = .slice A1 m c1 ∧ r.length = m ∧ m ≤ 12 ∧ (∀ p ∈ r, okp p = true) ∧ QQ wr A1 r c1 ∧ (∃ A c B k lq la, NV wr nb ⟨r, []⟩ A c B k lq la) ∧ (∃ z : Nat, i = .int .i64 (z : Int) ∧ z + m ≤ 12) ∧ Below w.heap.size w wr) (fun v _ _ => slen v)
      case atStart => exact ⟨r0, _, Ar0, cr0, rfl, rfl, HQ0.out.1, HQ0.out.2.1, HQ0.out.2.2, ⟨A, c, B, k, lq, la, HN.out⟩, ⟨0, rfl, by have := HQ0.out.1; omega⟩, HB.out⟩
      case round =>
        clear HN HB HSZ HQ0 hd1 A c B k lq la
        obtain ⟨r, m, A1, c1, rfl, hm, hm12, hok, hq, ⟨A, c, B, k, lq, la, hN⟩, ⟨z, rfl, hz⟩, hb⟩ := hrel
        have HN := Lib.hid hN
        have HQ := Lib.hid hq
        have HB := Lib.hid hb
        have HM := Lib.hid (And.intro hm hok)
        clear hN hq hb hm hok
        by_cases h0 : 0 < m
        case neg =>
          obtain rfl : m = 0 := by omega
          obtain rfl : lq = 0 := by rw [← HN.out.hq]; exact HM.out.1
          obtain ⟨xn0, xn1⟩ := HN.out.cells
          go_wp2_with fail
          go_ret
          exact ⟨rfl, HB.out⟩
        have hd0 : decide ((0 : Int) < (m : Int)) = true := decide_eq_true (by omega)
        have h0I : (0 : Int) < (m : Int) := by omega
        go_upto_if 54 with fail
        go_cut [11] from 55 to 62 (fun t wx => (∃ at_ : Nat, at_ < m ∧ t = .int .i64 (at_ : Int)) ∧ wr = wx)
        case first =>
          by_cases hzM : z < M
          · have hd2 : decide ((z : Int) < (M : Int)) = true := decide_eq_true (by omega)
            have hz0 : (0 : Int) ≤ (z : Int) := by omega
            have hzMI : (z : Int) < (M : Int) := by omega
            obtain ⟨y, hy⟩ : ∃ y, ol[z]? = some y := ⟨_, List.getElem?_eq_getElem (by have := HL.out.2; omega)⟩
            obtain ⟨bb, ob, hB, hbb, hcs⟩ := HS.out.2.1 (by have := HL.out.2; omega)
            subst hB
            have qb := (HB.out.cell (p := ⟨bb, ob + z, none⟩) hbb).trans (hcs z y hy)
            unfold bv at qb
            obtain ⟨yn, hyn⟩ : ∃ yn, y.toNat = yn := ⟨_, rfl⟩
            have hy256 : yn < 256 := by rw [← hyn]; exact y.toNat_lt
            rw [hyn] at qb
            obtain ⟨i, hi⟩ : ∃ i, yn % m = i := ⟨_, rfl⟩
            have hil : i < m := by rw [← hi]; exact Nat.mod_lt _ h0
            have hmod : ((yn : Int) % (m : Int)) = (i : Int) := by rw [← hi]; omega
            have hmodt : ((yn : Int).tmod (m : Int)) = (i : Int) := by rw [Int.tmod_eq_emod_of_nonneg (by omega)]; exact hmod
            have HI := Lib.hid (And.intro hi hil)
            clear hi hy hcs hyn
            go_wp2_with fail
            go_meet
            first
              | exact ⟨⟨i, HI.out.2, rfl⟩, rfl⟩
              | exact ⟨⟨i, HI.out.2, by rw [hmodt]⟩, rfl⟩
              | exact ⟨⟨i, HI.out.2, by rw [hmod]⟩, rfl⟩
          · have hd2 : decide ((z : Int) < (M : Int)) = false := decide_eq_false (by omega)
            go_wp2_with fail
            go_meet
            exact ⟨⟨0, h0, rfl⟩, rfl⟩
        obtain ⟨⟨i, hi, rfl⟩, rfl⟩ := hcut
        go_upto_region 20 with fail
        obtain ⟨P, hP⟩ : ∃ P, r[i]? = some P := ⟨_, List.getElem?_eq_getElem (by have := HM.out.1; omega)⟩
        have hdl := all_dl (by have := HM.out.1; omega) HM.out.2 hP
        have hcl := cut_len (r := r) (i := i) (by have := HM.out.1; omega)
        have hco := cut_ok (r := r) (i := i) HM.out.2
        obtain ⟨r2, hr2⟩ : ∃ r2, r.take i ++ r.drop (i + 1) = r2 := ⟨_, rfl⟩
        rw [hr2] at hdl hcl hco
        have HD := Lib.hid (by have := deliver_v HN.out (i : Int); rw [hdl.1, hdl.2.1, hdl.2.2] at this; exact this)
        have HC := Lib.hid (And.intro hP (And.intro hr2 (And.intro hcl hco)))
        obtain ⟨bA, oA, D, d, hA, hbA, q0, q1, q2, q3⟩ := HQ.out.at_ hP
        subst hA
        obtain ⟨mP, hmP⟩ : ∃ mP, P.da.length = mP := ⟨_, rfl⟩
        rw [hmP] at q2
        have HE := Lib.hid (And.intro q0 (And.intro q1 (And.intro q2 (And.intro q3 (And.intro hbA hmP)))))
        clear hdl hcl hco hr2 hP q0 q1 q2 q3 hbA hmP
        obtain ⟨xn0, xn1⟩ := HN.out.cells
        go_wp2_with fail
        refine HD.out.mono ?_
        rintro e w3 ⟨Dp, dp, mp, Ax, cx, Bx, kx, lqx, lax, rfl, ⟨hmp, hsp⟩, ⟨hqx, hax⟩, hnx, hbx⟩
        have hyx := hbx.trans ((alloc_lt w3 (.cells #[.int .i64 P.fr, .int .i64 P.to, .slice Dp mp dp] 28)).mono hbx.size)
        have hzx := hyx.trans ((alloc_lt (w3.alloc (.cells #[.int .i64 P.fr, .int .i64 P.to, .slice Dp mp dp] 28)) (.cells #[.slice Ax lqx cx, .slice Bx lax kx] 25)).mono hyx.size)
        clear xn0 xn1
        have HZX := Lib.hid hzx
        have HN := Lib.hid (HN.out.up hzx)
        have HQ := Lib.hid (HQ.out.up hzx)
        have HB := Lib.hid (HB.out.trans (hzx.mono HB.out.size))
        have Hp := Lib.hid (PV.up (PV.new hsp hmp) (alloc_lt _ (.cells #[.slice Ax lqx cx, .slice Bx lax kx] 25)))
        have Hx := Lib.hid (NV.new (hnx.up (alloc_lt w3 (.cells #[.int .i64 P.fr, .int .i64 P.to, .slice Dp mp dp] 28))) hqx hax)
        rw [World.size_alloc] at Hx
        clear hyx hzx hbx hnx hqx hax hmp hsp
        go_upto_region 21 with fail
        generalize (w3.alloc (.cells #[.int .i64 P.fr, .int .i64 P.to, .slice Dp mp dp] 28)).alloc (.cells #[.slice Ax lqx cx, .slice Bx lax kx] 25) = W3 at *
        have HSM := Lib.hid (fun V (hb : Below W3.heap.size W3 V) => samep_s (Hp.out.up hb) ((HE.out.2.2.2.1.up HZX.out).up hb) HE.out.2.2.2.2.2)
        unfold BoolPost at HSM
        obtain ⟨xp0, xp1, xp2⟩ := Hp.out.cells
        have q0 := (HZX.out.cell (p := ⟨bA, oA + i * 3, none⟩) HE.out.2.2.2.2.1).trans HE.out.1
        have q1 := (HZX.out.cell (p := ⟨bA, oA + i * 3 + 1, none⟩) HE.out.2.2.2.2.1).trans HE.out.2.1
        have q2 := (HZX.out.cell (p := ⟨bA, oA + i * 3 + 2, none⟩) HE.out.2.2.2.2.1).trans HE.out.2.2.1
        have HK := Lib.hid (fun V (hb : Below W3.heap.size W3 V) => show V.cell? ⟨w3.heap.size, 0, none⟩ = some (.int .i64 P.fr) ∧ V.cell? ⟨w3.heap.size, 1, none⟩ = some (.int .i64 P.to) ∧ V.cell? ⟨w3.heap.size, 2, none⟩ = some (.slice Dp mp dp) ∧ V.cell? ⟨bA, oA + i * 3, none⟩ = some (.int .i64 P.fr) ∧ V.cell? ⟨bA, oA + i * 3 + 1, none⟩ = some (.int .i64 P.to) ∧ V.cell? ⟨bA, oA + i * 3 + 2, none⟩ = some (.slice D mP d) from
          ⟨(hb.cell (p := ⟨w3.heap.size, 0, none⟩) (World.block_lt_of_cell? _ _ xp0)).trans xp0, (hb.cell (p := ⟨w3.heap.size, 1, none⟩) (World.block_lt_of_cell? _ _ xp1)).trans xp1, (hb.cell (p := ⟨w3.heap.size, 2, none⟩) (World.block_lt_of_cell? _ _ xp2)).trans xp2, (hb.cell (p := ⟨bA, oA + i * 3, none⟩) (World.block_lt_of_cell? _ _ q0)).trans q0, (hb.cell (p := ⟨bA, oA + i * 3 + 1, none⟩) (World.block_lt_of_cell? _ _ q1)).trans q1, (hb.cell (p := ⟨bA, oA + i * 3 + 2, none⟩) (World.block_lt_of_cell? _ _ q2)).trans q2⟩)
        have HV := Lib.hid (show Below W3.heap.size W3 W3.drew from (Below.refl _ _).drew)
        have hiI : (i : Int) < (m : Int) := by omega
        have hi0 : (0 : Int) ≤ (i : Int) := by omega
        clear xp0 xp1 xp2 q0 q1 q2
        go_region_held3 (fun w' => w'.cell? ⟨w3.heap.size, 0, none⟩ = some (.int .i64 P.fr) ∧ w'.cell? ⟨w3.heap.size, 1, none⟩ = some (.int .i64 P.to) ∧ w'.cell? ⟨w3.heap.size, 2, none⟩ = some (.slice Dp mp dp) ∧ w'.cell? ⟨bA, oA + i * 3, none⟩ = some (.int .i64 P.fr) ∧ w'.cell? ⟨bA, oA + i * 3 + 1, none⟩ = some (.int .i64 P.to) ∧ w'.cell? ⟨bA, oA + i * 3 + 2, none⟩ = some (.slice D mP d))
          (with_reducible first | exact HK.out _ HV.out | fail)
          (first
            | (go_at_call 22; ((with_reducible refine (HSM.out _ HV.out).mono ?_); rintro e wv ⟨rfl, hbv⟩; replace HV := Lib.hid (HV.out.trans (hbv.mono HV.out.size)); clear hbv))
            | fail)
        all_goals
          have HN := Lib.hid (HN.out.up HV.out)
          have HQ := Lib.hid (HQ.out.up HV.out)
          have HB := Lib.hid (HB.out.trans (HV.out.mono HB.out.size))
          have Hx := Lib.hid (Hx.out.up HV.out)
          clear HK HSM HZX HD HE Hp HV
          obtain ⟨xx0, xx1⟩ := Hx.out.cells
          obtain ⟨xn0, xn1⟩ := HN.out.cells
          obtain ⟨fn0, fn1⟩ := HN.out.frozen
          have HNN := Lib.hid (NV.put_ HN.out Hx.out.inn Hx.out.hq Hx.out.ha)
          have HQQ := Lib.hid ((HQ.out.off HN.out.box (onlyS2 _ _ _ _ _ _) 0 (.slice Ax lqx cx)).off (HN.out.box.set (i := 0) (v := .slice Ax lqx cx)) (OnlyS.set (onlyS2 _ _ _ _ _ _) 0 _ _ _) 1 (.slice Bx lax kx))
          have HBB := Lib.hid ((HB.out.setCell (p := ⟨nb, 0, none⟩) HNB.out.2 (.slice Ax lqx cx)).setCell (p := ⟨nb, 1, none⟩) HNB.out.2 (.slice Bx lax kx))
          go_upto_region 24 with fail
          clear xx0 xx1 xn0 xn1 fn0 fn1 Hx HN HQ HB
          generalize World.setCell (World.setCell wv _ _) _ _ = W8 at *
          obtain ⟨bq, oq, vsA, hqe, hbA, hvF, hvC⟩ := HQQ.out.1 (by have := HM.out.1; omega)
          cases hqe
          have hck : m ≤ c1 := by have := HQQ.out.2.1; have := HM.out.1; omega
          have hcm : c1 ≤ maxLen := HQQ.out.2.2.1
          unfold maxLen at hcm
          have HVF := Lib.hid (And.intro hvF (And.intro hvC hbA))
          clear hvF hvC hbA
          obtain ⟨j2, hj2⟩ : ∃ j2, j2 = i + 1 := ⟨_, rfl⟩
          have hjN : j2 ≤ m := by omega
          have hij : IntKind.i64.wrap ((i : Int) + 1) = (j2 : Int) := by
            have := IntWalk.i64_in ((i : Int) + 1) (by omega)
            omega
          have hic : i ≤ c1 := by omega
          have hjc : j2 ≤ c1 := by omega
          have HJ := Lib.hid hj2
          clear hj2
          have HBE := Lib.hid (show Below W8.heap.size W8 (W8.alloc (.cells #[] 28)).drew from ((Below.refl W8.heap.size W8).alloc (Nat.le_refl _) _).drew)
          have HE0 := Lib.hid (show OwQ W8.heap.size W8 (W8.alloc (.cells #[] 28)).drew (.slice (some ⟨W8.heap.size, 0, none⟩) 0 0) [] from OwQ.empty W8 (Nat.le_refl _))
          by_cases hcj : c1 = j2
          · subst hcj
            refine wp_region_later 10 (fun _ => True) (by kernel_rfl) ?_
            refine takeL (d := some 83) (i := 1) (v := ?v1a) rfl rfl (by kernel_rfl) (by kernel_rfl) (by kernel_rfl) (fun _ _ _ h => h) rfl (by kernel_rfl) (Or.inl ⟨by rfl, ?y1a⟩) trivial ?r1a
            case y1a =>
              intro w hSw
              try dsimp only at hSw
              go_simp
              all_goals with_reducible rfl
            try simp only [Act.put, List.setIfInBounds_toArray, List.set_cons_zero, List.set_cons_succ]
            refine takeL (d := some 84) (i := 2) (v := ?v2a) rfl rfl (by kernel_rfl) (by kernel_rfl) (by kernel_rfl) (fun _ _ _ h => h) rfl (by kernel_rfl) (Or.inl ⟨by rfl, ?y2a⟩) trivial ?r2a
            case y2a =>
              intro w hSw
              try dsimp only at hSw
              go_simp
              all_goals with_reducible rfl
            try simp only [Act.put, List.setIfInBounds_toArray, List.set_cons_zero, List.set_cons_succ]
            refine takeL (d := some 85) (i := 3) (v := ?v3a) rfl rfl (by kernel_rfl) (by kernel_rfl) (by kernel_rfl) (fun _ _ _ h => h) rfl (by kernel_rfl) (Or.inl ⟨by rfl, ?y3a⟩) trivial ?r3a
            case y3a =>
              intro w hSw
              try dsimp only at hSw
              go_simp
              all_goals with_reducible rfl
            try simp only [Act.put, List.setIfInBounds_toArray, List.set_cons_zero, List.set_cons_succ]
            refine takeL (d := some 87) (i := 5) (v := ?v5a) rfl rfl (by kernel_rfl) (by kernel_rfl) (by kernel_rfl) (fun _ _ _ h => h) rfl (by kernel_rfl) (Or.inl ⟨by rfl, ?y5a⟩) trivial ?r5a
            case y5a =>
              intro w hSw
              try dsimp only at hSw
              go_simp
              all_goals with_reducible rfl
            try simp only [Act.put, List.setIfInBounds_toArray, List.set_cons_zero, List.set_cons_succ]
            refine takeL (d := some 88) (i := 6) (v := ?v6a) rfl rfl (by kernel_rfl) (by kernel_rfl) (by kernel_rfl) (fun _ _ _ h => h) rfl (by kernel_rfl) (Or.inl ⟨by rfl, ?y6a⟩) trivial ?r6a
            case y6a =>
              intro w hSw
              try dsimp only at hSw
              go_simp
              all_goals with_reducible rfl
            try simp only [Act.put, List.setIfInBounds_toArray, List.set_cons_zero, List.set_cons_succ]
            refine takeL (d := some 89) (i := 7) (v := ?v7a) rfl rfl (by kernel_rfl) (by kernel_rfl) (by kernel_rfl) (fun _ _ _ h => h) rfl (by kernel_rfl) (Or.inl ⟨by rfl, ?y7a⟩) trivial ?r7a
            case y7a =>
              intro w hSw
              try dsimp only at hSw
              go_simp
              all_goals with_reducible rfl
            try simp only [Act.put, List.setIfInBounds_toArray, List.set_cons_zero, List.set_cons_succ]
            refine takeL (d := some 90) (i := 8) (v := ?v8a) rfl rfl (by kernel_rfl) (by kernel_rfl) (by kernel_rfl) (fun _ _ _ h => h) rfl (by kernel_rfl) (Or.inl ⟨by rfl, ?y8a⟩) trivial ?r8a
            case y8a =>
              intro w hSw
              try dsimp only at hSw
              go_simp
              all_goals with_reducible rfl
            try simp only [Act.put, List.setIfInBounds_toArray, List.set_cons_zero, List.set_cons_succ]
            have hwx : r2 = r.take i ++ [] := by
              rw [← HC.out.2.1, List.drop_eq_nil_of_le (by have := HM.out.1; have := HJ.out; omega)]
            have hm2 : ([] : List Pk).length = 0 := rfl
            have hu2 : PkF W8 [] [] := rfl
            have hc2 : ∀ Z, Below W8.heap.size W8 Z → ∀ b, some (⟨bA, oA, none⟩ : Addr) = some b → ∀ (h : Nat) u, ([] : List Value)[h]? = some u → Z.cell? (b.add h) = some u := fun Z hb b e h u hj => by cases hj
            have hl2 : (r.take i).length + 0 = i + 0 := by rw [List.length_take, HM.out.1]; omega
            have hNL : i + 0 ≤ m := by omega
            have hm1 : (r.take i).length = i := by rw [List.length_take, HM.out.1]; omega
            have hu1 : PkF W8 (r.take i) (vsA.take (i * 3)) := HVF.out.1.take i
            have hc1 : ∀ Z, Below W8.heap.size W8 Z → ∀ b, some (⟨bA, oA, none⟩ : Addr) = some b → ∀ (h : Nat) u, (vsA.take (i * 3))[h]? = some u → Z.cell? (b.add h) = some u := fun Z hb b e h u hj => by
              cases e
              rw [List.getElem?_take] at hj
              split at hj
              · rw [add_off]
                exact (hb.cell (p := ⟨bA, oA + h, none⟩) HVF.out.2.2).trans (HVF.out.2.1 _ _ hj)
              · cases hj
            have HJC := Lib.hid (And.intro hm1 (And.intro hu1 (And.intro hc1 (And.intro hm2 (And.intro hu2 (And.intro hc2 (And.intro hl2 hwx)))))))
            clear hm1 hu1 hc1 hm2 hu2 hc2 hl2 hwx
            refine oneL (i := 0) (by kernel_rfl) rfl (fun K' hK => ?_)
            go_simp
            refine hK.out _ _ (fun _ => trivial) ?_
            clear hK
            refine oneL (i := 4) (by kernel_rfl) rfl (fun K' hK => ?_)
            refine step_append_oq (base := W8.heap.size) (w0 := W8) (by rfl) (.tmp 82) (.tmp 85) (by rfl) (.slice (some ⟨W8.heap.size, 0, none⟩) 0 0) [] (by rfl) HE0.out (some ⟨bA, oA, none⟩) (r.take i) (vsA.take (i * 3)) i c1 HJC.out.1 (by rfl) HJC.out.2.1 (HJC.out.2.2.1 _ HBE.out) (fun e => by cases e) i (by simp) (by omega) HBE.out.size ?_
            intro A3 c3 w4 ho3 hg3
            have hB3 := HBE.out.grown hg3 HBE.out.size (fun i hi => by injection hi with hi; simp only at hi; omega)
            have HB3 := Lib.hid hB3
            rw [List.nil_append] at ho3
            have HO3 := Lib.hid ho3
            clear ho3 hg3 hB3
            refine hK.out _ _ (fun _ => trivial) ?_
            clear hK
            refine oneL (i := 9) (by kernel_rfl) rfl (fun K' hK => ?_)
            refine step_append_oq (base := W8.heap.size) (w0 := W8) (by rfl) (.tmp 86) (.tmp 90) (by rfl) (.slice A3 i c3) (r.take i) (by rfl) HO3.out (some ⟨bA, oA, none⟩) [] [] 0 0 HJC.out.2.2.2.1 (by rfl) HJC.out.2.2.2.2.1 (HJC.out.2.2.2.2.2.1 _ HB3.out) (fun e => by cases e) (i + 0) HJC.out.2.2.2.2.2.2.1 (by omega) HB3.out.size ?_
            intro A' c' w5 ho4 hg4
            have hB4 : Below W8.heap.size W8 w5 := by
              obtain ⟨vs3, hr3, _⟩ := HO3.out
              exact HB3.out.grown hg4 HB3.out.size (fun i hi => (hr3.lt i hi).1)
            obtain ⟨A5, c5, he5, hq5⟩ := ho4.qq hB4
            have hlen : (r.take i ++ []).length = i + 0 := by rw [List.length_append, HJC.out.2.2.2.1]; exact HJC.out.2.2.2.2.2.2.1
            rw [hlen] at he5
            injection he5 with he6 he7 he8
            subst he6 he8
            rw [← HJC.out.2.2.2.2.2.2.2] at hq5 hlen
            have HF := Lib.hid (And.intro hq5 (And.intro hlen hB4))
            clear hq5 hlen hB4 ho4 hg4 he7
            refine hK.out _ _ (fun _ => trivial) ?_
            clear hK
            refine oneL (i := 10) (by kernel_rfl) rfl (fun K' hK => ?_)
            go_simp
            refine hK.out _ _ (fun _ => trivial) ?_
            clear hK
            refine doneL (by kernel_rfl) ?_ _
            clear HO3 HB3 HE0 HBE hij
            go_wp2_with fail
            go_roundw
            case rel => exact ⟨r2, i + 0, A', c', rfl, HF.out.2.1, by omega, HC.out.2.2.2, HF.out.1, ⟨Ax, cx, Bx, kx, lqx, lax, HNN.out.up HF.out.2.2⟩, ⟨z + 1, by go_num, by have h1 := HF.out.2.1; have h2 := HC.out.2.2.1; have h3 := HM.out.1; omega⟩, HBB.out.trans (HF.out.2.2.mono HBB.out.size)⟩
            case measure => show i + 0 < m; have h1 := HF.out.2.1; have h2 := HC.out.2.2.1; have h3 := HM.out.1; omega
          · skip
            refine wp_region_later 10 (fun _ => True) (by kernel_rfl) ?_
            refine takeL (d := some 83) (i := 1) (v := ?v1b) rfl rfl (by kernel_rfl) (by kernel_rfl) (by kernel_rfl) (fun _ _ _ h => h) rfl (by kernel_rfl) (Or.inl ⟨by rfl, ?y1b⟩) trivial ?r1b
            case y1b =>
              intro w hSw
              try dsimp only at hSw
              go_simp
              all_goals with_reducible rfl
            try simp only [Act.put, List.setIfInBounds_toArray, List.set_cons_zero, List.set_cons_succ]
            refine takeL (d := some 84) (i := 2) (v := ?v2b) rfl rfl (by kernel_rfl) (by kernel_rfl) (by kernel_rfl) (fun _ _ _ h => h) rfl (by kernel_rfl) (Or.inl ⟨by rfl, ?y2b⟩) trivial ?r2b
            case y2b =>
              intro w hSw
              try dsimp only at hSw
              go_simp
              all_goals with_reducible rfl
            try simp only [Act.put, List.setIfInBounds_toArray, List.set_cons_zero, List.set_cons_succ]
            refine takeL (d := some 85) (i := 3) (v := ?v3b) rfl rfl (by kernel_rfl) (by kernel_rfl) (by kernel_rfl) (fun _ _ _ h => h) rfl (by kernel_rfl) (Or.inl ⟨by rfl, ?y3b⟩) trivial ?r3b
            case y3b =>
              intro w hSw
              try dsimp only at hSw
              go_simp
              all_goals with_reducible rfl
            try simp only [Act.put, List.setIfInBounds_toArray, List.set_cons_zero, List.set_cons_succ]
            refine takeL (d := some 87) (i := 5) (v := ?v5b) rfl rfl (by kernel_rfl) (by kernel_rfl) (by kernel_rfl) (fun _ _ _ h => h) rfl (by kernel_rfl) (Or.inl ⟨by rfl, ?y5b⟩) trivial ?r5b
            case y5b =>
              intro w hSw
              try dsimp only at hSw
              go_simp
              all_goals with_reducible rfl
            try simp only [Act.put, List.setIfInBounds_toArray, List.set_cons_zero, List.set_cons_succ]
            refine takeL (d := some 88) (i := 6) (v := ?v6b) rfl rfl (by kernel_rfl) (by kernel_rfl) (by kernel_rfl) (fun _ _ _ h => h) rfl (by kernel_rfl) (Or.inl ⟨by rfl, ?y6b⟩) trivial ?r6b
            case y6b =>
              intro w hSw
              try dsimp only at hSw
              go_simp
              all_goals with_reducible rfl
            try simp only [Act.put, List.setIfInBounds_toArray, List.set_cons_zero, List.set_cons_succ]
            refine takeL (d := some 89) (i := 7) (v := ?v7b) rfl rfl (by kernel_rfl) (by kernel_rfl) (by kernel_rfl) (fun _ _ _ h => h) rfl (by kernel_rfl) (Or.inl ⟨by rfl, ?y7b⟩) trivial ?r7b
            case y7b =>
              intro w hSw
              try dsimp only at hSw
              go_simp
              all_goals with_reducible rfl
            try simp only [Act.put, List.setIfInBounds_toArray, List.set_cons_zero, List.set_cons_succ]
            refine takeL (d := some 90) (i := 8) (v := ?v8b) rfl rfl (by kernel_rfl) (by kernel_rfl) (by kernel_rfl) (fun _ _ _ h => h) rfl (by kernel_rfl) (Or.inl ⟨by rfl, ?y8b⟩) trivial ?r8b
            case y8b =>
              intro w hSw
              try dsimp only at hSw
              go_simp
              all_goals with_reducible rfl
            try simp only [Act.put, List.setIfInBounds_toArray, List.set_cons_zero, List.set_cons_succ]
            have hwx : r2 = r.take i ++ r.drop j2 := by rw [← HC.out.2.1, HJ.out]
            have hm2 : (r.drop j2).length = m - j2 := by rw [List.length_drop, HM.out.1]
            have hu2 : PkF W8 (r.drop j2) (vsA.drop (j2 * 3)) := HVF.out.1.drop j2
            have hc2 : ∀ Z, Below W8.heap.size W8 Z → ∀ b, some (⟨bA, oA + j2 * 3, none⟩ : Addr) = some b → ∀ (h : Nat) u, (vsA.drop (j2 * 3))[h]? = some u → Z.cell? (b.add h) = some u := fun Z hb b e h u hj => by
              cases e
              rw [List.getElem?_drop] at hj
              rw [add_off, Nat.add_assoc]
              exact (hb.cell (p := ⟨bA, oA + (j2 * 3 + h), none⟩) HVF.out.2.2).trans (HVF.out.2.1 _ _ hj)
            have hl2 : (r.take i).length + (m - j2) = i + (m - j2) := by rw [List.length_take, HM.out.1]; omega
            have hNL : i + (m - j2) ≤ m := by have := HJ.out; omega
            have hm1 : (r.take i).length = i := by rw [List.length_take, HM.out.1]; omega
            have hu1 : PkF W8 (r.take i) (vsA.take (i * 3)) := HVF.out.1.take i
            have hc1 : ∀ Z, Below W8.heap.size W8 Z → ∀ b, some (⟨bA, oA, none⟩ : Addr) = some b → ∀ (h : Nat) u, (vsA.take (i * 3))[h]? = some u → Z.cell? (b.add h) = some u := fun Z hb b e h u hj => by
              cases e
              rw [List.getElem?_take] at hj
              split at hj
              · rw [add_off]
                exact (hb.cell (p := ⟨bA, oA + h, none⟩) HVF.out.2.2).trans (HVF.out.2.1 _ _ hj)
              · cases hj
            have HJC := Lib.hid (And.intro hm1 (And.intro hu1 (And.intro hc1 (And.intro hm2 (And.intro hu2 (And.intro hc2 (And.intro hl2 hwx)))))))
            clear hm1 hu1 hc1 hm2 hu2 hc2 hl2 hwx
            refine oneL (i := 0) (by kernel_rfl) rfl (fun K' hK => ?_)
            go_simp
            refine hK.out _ _ (fun _ => trivial) ?_
            clear hK
            refine oneL (i := 4) (by kernel_rfl) rfl (fun K' hK => ?_)
            refine step_append_oq (base := W8.heap.size) (w0 := W8) (by rfl) (.tmp 82) (.tmp 85) (by rfl) (.slice (some ⟨W8.heap.size, 0, none⟩) 0 0) [] (by rfl) HE0.out (some ⟨bA, oA, none⟩) (r.take i) (vsA.take (i * 3)) i c1 HJC.out.1 (by rfl) HJC.out.2.1 (HJC.out.2.2.1 _ HBE.out) (fun e => by cases e) i (by simp) (by omega) HBE.out.size ?_
            intro A3 c3 w4 ho3 hg3
            have hB3 := HBE.out.grown hg3 HBE.out.size (fun i hi => by injection hi with hi; simp only at hi; omega)
            have HB3 := Lib.hid hB3
            rw [List.nil_append] at ho3
            have HO3 := Lib.hid ho3
            clear ho3 hg3 hB3
            refine hK.out _ _ (fun _ => trivial) ?_
            clear hK
            refine oneL (i := 9) (by kernel_rfl) rfl (fun K' hK => ?_)
            refine step_append_oq (base := W8.heap.size) (w0 := W8) (by rfl) (.tmp 86) (.tmp 90) (by rfl) (.slice A3 i c3) (r.take i) (by rfl) HO3.out (some ⟨bA, oA + j2 * 3, none⟩) (r.drop j2) (vsA.drop (j2 * 3)) (m - j2) (c1 - j2) HJC.out.2.2.2.1 (by rfl) HJC.out.2.2.2.2.1 (HJC.out.2.2.2.2.2.1 _ HB3.out) (fun e => by cases e) (i + (m - j2)) HJC.out.2.2.2.2.2.2.1 (by omega) HB3.out.size ?_
            intro A' c' w5 ho4 hg4
            have hB4 : Below W8.heap.size W8 w5 := by
              obtain ⟨vs3, hr3, _⟩ := HO3.out
              exact HB3.out.grown hg4 HB3.out.size (fun i hi => (hr3.lt i hi).1)
            obtain ⟨A5, c5, he5, hq5⟩ := ho4.qq hB4
            have hlen : (r.take i ++ (r.drop j2)).length = i + (m - j2) := by rw [List.length_append, HJC.out.2.2.2.1]; exact HJC.out.2.2.2.2.2.2.1
            rw [hlen] at he5
            injection he5 with he6 he7 he8
            subst he6 he8
            rw [← HJC.out.2.2.2.2.2.2.2] at hq5 hlen
            have HF := Lib.hid (And.intro hq5 (And.intro hlen hB4))
            clear hq5 hlen hB4 ho4 hg4 he7
            refine hK.out _ _ (fun _ => trivial) ?_
            clear hK
            refine oneL (i := 10) (by kernel_rfl) rfl (fun K' hK => ?_)
            go_simp
            refine hK.out _ _ (fun _ => trivial) ?_
            clear hK
            refine doneL (by kernel_rfl) ?_ _
            clear HO3 HB3 HE0 HBE hij
            go_wp2_with fail
            go_roundw
            case rel => exact ⟨r2, i + (m - j2), A', c', rfl, HF.out.2.1, by omega, HC.out.2.2.2, HF.out.1, ⟨Ax, cx, Bx, kx, lqx, lax, HNN.out.up HF.out.2.2⟩, ⟨z + 1, by go_num, by have h1 := HF.out.2.1; have h2 := HC.out.2.2.1; have h3 := HM.out.1; omega⟩, HBB.out.trans (HF.out.2.2.mono HBB.out.size)⟩
            case measure => show i + (m - j2) < m; have h1 := HF.out.2.1; have h2 := HC.out.2.2.1; have h3 := HM.out.1; omega
end Go.Proofs.Ytljbofniglcheaa
