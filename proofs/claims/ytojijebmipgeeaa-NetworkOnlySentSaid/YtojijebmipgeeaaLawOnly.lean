/- NetworkOnlySent. -/
import Derived.Test.YtojijebmipgeeaaPlS
import Derived.Test.YtojijebmipgeeaaMvA
import Derived.Test.YtojijebmipgeeaaWp
import Derived.Test.YtojijebmipgeeaaSane
import Derived.Deep.Cut
import Derived.Deep.CutRange
import Derived.Deep.CutBlock
import Derived.Deep.RegionHeld3
import Derived.Deep.QuietTactic
namespace Go.Proofs.Ytojijebmipgeeaa
open Go.RowKit Go.Sort
set_option linter.unusedVariables false

section
variable {P : Program} {md : Region.Mode} {ops : Array Oper} {Q : Exit → Act → World → Prop} {st : Nat} {D : World → Prop}
/-- Three operations may come up. -/
theorem threeL {i j k : Nat} {oi oj ok : Oper} {fuel : Nat} {listed : Array Bool} {a : Act} {w : World} (hr : Region.ready md ops listed = [i, j, k]) (hoi : ops[i]? = some oi) (hoj : ops[j]? = some oj) (hok : ops[k]? = some ok)
    (hi : ∀ K' : Act → World → Prop, Shut (∀ a w, Lt st D (listed.setIfInBounds i true) w → wpAnyL P md ops Q st D fuel (listed.setIfInBounds i true) a w → K' a w) → if Region.wanted oi (yielded ops a.tmps) = true then Oper.wp P oi a w K' Q else K' (a.put oi.dst undef) w)
    (hj : ∀ K' : Act → World → Prop, Shut (∀ a w, Lt st D (listed.setIfInBounds j true) w → wpAnyL P md ops Q st D fuel (listed.setIfInBounds j true) a w → K' a w) → if Region.wanted oj (yielded ops a.tmps) = true then Oper.wp P oj a w K' Q else K' (a.put oj.dst undef) w)
    (hk : ∀ K' : Act → World → Prop, Shut (∀ a w, Lt st D (listed.setIfInBounds k true) w → wpAnyL P md ops Q st D fuel (listed.setIfInBounds k true) a w → K' a w) → if Region.wanted ok (yielded ops a.tmps) = true then Oper.wp P ok a w K' Q else K' (a.put ok.dst undef) w) :
    wpAnyL P md ops Q st D (fuel + 1) listed a w := by
  refine ⟨fun h0 => absurd (hr ▸ h0) (by simp), fun x hx => ?_⟩
  rw [hr] at hx
  rcases List.mem_cons.1 hx with e | hx
  · rw [e]
    exact wpOp_step hoi (fun K' hK => hi K' (fun a w hS hW => hK a w ⟨hS, hW⟩))
  · rcases List.mem_cons.1 hx with e | hx
    · rw [e]
      exact wpOp_step hoj (fun K' hK => hj K' (fun a w hS hW => hK a w ⟨hS, hW⟩))
    · rw [List.mem_singleton.1 hx]
      exact wpOp_step hok (fun K' hK => hk K' (fun a w hS hW => hK a w ⟨hS, hW⟩))
end
theorem new_o (w : World) : Calls Try.prog 16 #[] w (fun e w' => ∃ A c B k, e = .returned (.agg #[.slice A 0 c, .slice B 0 k]) ∧ NtIn w' nt0 A c B k ∧ Below w.heap.size w w') := (new_any w).mono fun e w' h => by
  obtain ⟨A, c, B, k, h1, h2, h3⟩ := h
  exact ⟨A, c, B, k, h1, h2, h3⟩
theorem happens_v {W : World} {b : Nat} {n : Nt} {A : Option Addr} {c : Nat} {B : Option Addr} {k lq la : Nat} (h : NV W b n A c B k lq la) (hv : vld n = true) (m : Mv) : Calls Try.prog 27 #[.agg #[.slice A lq c, .slice B la k], .agg (mvc m)] W (HapP (hx n m) (hp n m) (he n m) W) := by
  have := happens_any n A B c k m W h.inn hv
  rw [h.val] at this
  exact this
theorem vld_hx {n : Nt} {m : Mv} (hv : vld n = true) : vld (hx n m) = true := by
  by_cases h : he n m = 0
  · exact hx_vld hv h
  · rw [hx_err h]; rfl
/-- Both boxes are filled. -/
theorem fill_both {B0 : Nat} {w0 w : World} {xb pb : Nat} {x : Nt} {A : Option Addr} {c : Nat} {B : Option Addr} {k lq la : Nat} {p : Pk} {D : Option Addr} {d mm : Nat} (hX : Box w xb #[.slice none 0 0, .slice none 0 0] 25) (hP : Box w pb zpk 28) (hne : pb ≠ xb)
    (hn : NtIn w x A c B k) (hq : x.q.length = lq) (ha : x.ap.length = la) (hv : vld x = true) (hs : Sl w D p.da d) (hm : p.da.length = mm) (hb : Below B0 w0 w) (h1 : B0 ≤ xb) (h2 : B0 ≤ pb) :
    NV (((((w.setCell ⟨xb, 0, none⟩ (.slice A lq c)).setCell ⟨xb, 1, none⟩ (.slice B la k)).setCell ⟨pb, 0, none⟩ (.int .i64 p.fr)).setCell ⟨pb, 1, none⟩ (.int .i64 p.to)).setCell ⟨pb, 2, none⟩ (.slice D mm d)) xb x A c B k lq la ∧
    PV (((((w.setCell ⟨xb, 0, none⟩ (.slice A lq c)).setCell ⟨xb, 1, none⟩ (.slice B la k)).setCell ⟨pb, 0, none⟩ (.int .i64 p.fr)).setCell ⟨pb, 1, none⟩ (.int .i64 p.to)).setCell ⟨pb, 2, none⟩ (.slice D mm d)) pb p D d mm ∧
    Below B0 w0 (((((w.setCell ⟨xb, 0, none⟩ (.slice A lq c)).setCell ⟨xb, 1, none⟩ (.slice B la k)).setCell ⟨pb, 0, none⟩ (.int .i64 p.fr)).setCell ⟨pb, 1, none⟩ (.int .i64 p.to)).setCell ⟨pb, 2, none⟩ (.slice D mm d)) := by
  have g1 : Box ((w.setCell ⟨xb, 0, none⟩ (.slice A lq c)).setCell ⟨xb, 1, none⟩ (.slice B la k)) xb #[.slice A lq c, .slice B la k] 25 := box2 _ _ hX
  have g2 : Box ((w.setCell ⟨xb, 0, none⟩ (.slice A lq c)).setCell ⟨xb, 1, none⟩ (.slice B la k)) pb zpk 28 := box_other (box_other hP hne) hne
  have g3 := (hn.off hX (onlyS2 _ _ _ _ _ _) 0 (.slice A lq c)).off (hX.set (i := 0) (v := .slice A lq c)) (OnlyS.set (onlyS2 _ _ _ _ _ _) 0 _ _ _) 1 (.slice B la k)
  have g4 := (hs.off hX (onlyS2 _ _ _ _ _ _) 0 (.slice A lq c)).off (hX.set (i := 0) (v := .slice A lq c)) (OnlyS.set (onlyS2 _ _ _ _ _ _) 0 _ _ _) 1 (.slice B la k)
  have g5 := grown3 ((w.setCell ⟨xb, 0, none⟩ (.slice A lq c)).setCell ⟨xb, 1, none⟩ (.slice B la k)) pb (.int .i64 p.fr) (.int .i64 p.to) (.slice D mm d)
  exact ⟨⟨other3 _ _ _ g1 (fun e => hne e.symm), g3.offz hv g2 g5, hq, ha⟩, ⟨box3 _ _ _ g2, g4.offz g2 g5, hm⟩, below3 _ _ _ ((hb.setCell (p := ⟨xb, 0, none⟩) h1 _).setCell (p := ⟨xb, 1, none⟩) h1 _) h2⟩

theorem same_e {W : World} {A B : Option Addr} {c k : Nat} (h1 : NtIn W nt0 A c B k) : Calls Try.prog 15 #[.agg #[.slice A 0 c, .slice B 0 k], .agg #[.slice none 0 0, .slice none 0 0]] W (BoolPost true W) := by
  have := same_any nt0 nt0 A B none none c k 0 0 W h1 (NtIn.zero W)
  rw [smn_refl] at this
  exact this
section
variable {w W : World} {b bp : Nat} {n : Nt} {A : Option Addr} {c : Nat} {B : Option Addr} {k lq la : Nat} {p : Pk} {D : Option Addr} {d m : Nat}
theorem NV.puto {n2 : Nt} {A2 B2 : Option Addr} {c2 k2 lq2 la2 : Nat} (hx : NV W b n A c B k lq la) (h : NtIn W n2 A2 c2 B2 k2) (hq : n2.q.length = lq2) (ha : n2.ap.length = la2) : NV ((W.setCell ⟨b, 0, none⟩ (.slice A2 lq2 c2)).setCell ⟨b, 1, none⟩ (.slice B2 la2 k2)) b n2 A2 c2 B2 k2 lq2 la2 :=
  ⟨box2 _ _ hx.box, (h.off hx.box (onlyS2 _ _ _ _ _ _) 0 _).off (hx.box.set (i := 0) (v := .slice A2 lq2 c2)) (OnlyS.set (onlyS2 _ _ _ _ _ _) 0 _ _ _) 1 _, hq, ha⟩
theorem Box.belowo {B : Nat} {w w' : World} {b : Nat} {cs : Array Value} {t : TypeId} (h : Box w b cs t) (hb : Below B w w') (hlt : b < B) : Box w' b cs t := (hb.block b hlt).trans h
theorem samep_r {q : Pk} {D2 : Option Addr} {d2 m2 : Nat} (h2 : Sl W D2 q.da d2) (hm : q.da.length = m2) (h : PV W b p D d m) : Calls Try.prog 22 #[.agg #[.int .i64 q.fr, .int .i64 q.to, .slice D2 m2 d2], .agg #[.int .i64 p.fr, .int .i64 p.to, .slice D m d]] W (BoolPost (spk q p) W) := by
  have := samePacket_any q p D2 D d2 d W h2 h.sl
  rw [h.val] at this
  unfold pkv pkc at this
  rw [hm] at this
  exact this
end
def metk (b0 : Bool) (s : List Pk) (p : Pk) (k : Nat) : Bool := b0 || (s.take k).any (fun q => spk q p)
theorem metk_one {b0 : Bool} {s : List Pk} {p q : Pk} {k : Nat} (h : s[k]? = some q) : metk b0 s p (k + 1) = (metk b0 s p k || spk q p) := by
  unfold metk
  rw [List.take_add_one, h, List.any_append]
  simp [Bool.or_assoc]
theorem metk_all {b0 : Bool} {s : List Pk} {p : Pk} (h : p ∈ s ∨ b0 = true) : metk b0 s p s.length = true := by
  unfold metk
  rcases h with h | h
  · rw [List.take_length, Bool.or_eq_true]
    exact .inr (List.any_eq_true.2 ⟨p, h, spk_refl p⟩)
  · rw [h]; rfl

set_option maxHeartbeats 16000000 in
set_option maxRecDepth 100000 in
theorem lawOnly_any (l : List Mv) (A0 : Option Addr) (c0 : Nat) (w : World) (hS : MM w A0 l c0) :
    Calls Try.prog 5 #[.slice A0 l.length c0] w (BoolPost true w) := by
  obtain ⟨L, hL⟩ : ∃ L, l.length = L := ⟨_, rfl⟩
  have HS := Lib.hid hS
  have HL := Lib.hid hL
  rw [hL]
  have HSN := Lib.hid sane_any
  unfold BoolPost at HSN ⊢
  clear hS hL
  go_enter Try.func5, Try.ntmps5
  go_wp2_with fail
  refine (HSN.out _).mono ?_
  rintro e ws ⟨rfl, hbs⟩
  by_cases h60 : 60 < L
  case pos =>
    have hd : decide ((60 : Int) < (L : Int)) = true := decide_eq_true (by omega)
    have hdI : (60 : Int) < (L : Int) := by omega
    have HB := Lib.hid hbs
    clear hbs h60
    go_wp2_with fail
    go_ret
    exact ⟨rfl, HB.out⟩
  have hd : decide ((60 : Int) < (L : Int)) = false := decide_eq_false (by omega)
  have hL60 : L ≤ 60 := by omega
  have HB := Lib.hid hbs
  clear hbs h60
  go_wp2_with fail
  refine (new_o ws).mono ?_
  rintro e wn ⟨An, cn, Bn, kn, rfl, hnn, hbn⟩
  have HBN := Lib.hid (HB.out.trans (hbn.mono HB.out.size))
  have HN0 := Lib.hid (NV.new hnn (show nt0.q.length = 0 from rfl) (show nt0.ap.length = 0 from rfl))
  have HB1 := Lib.hid (HBN.out.trans ((alloc_lt wn (.cells #[.slice An 0 cn, .slice Bn 0 kn] 25)).mono HBN.out.size))
  have HNB := Lib.hid (show wn.heap.size < (wn.alloc (.cells #[.slice An 0 cn, .slice Bn 0 kn] 25)).heap.size ∧ w.heap.size ≤ wn.heap.size from ⟨by rw [World.size_alloc]; omega, HBN.out.size⟩)
  clear hnn hbn hd
  go_upto_region 6 with fail
  generalize wn.alloc (.cells #[.slice An 0 cn, .slice Bn 0 kn] 25) = W1 at *
  obtain ⟨nb, hnb⟩ : ∃ nb, wn.heap.size = nb := ⟨_, rfl⟩
  rw [hnb] at HN0 HNB ⊢
  clear hnb HB HBN HSN
  go_wp2_with fail
  go_loopw [4, 5, 6] (fun v u i wr => ∃ (j cc : Nat) (n : Nt) (s : List Pk), j ≤ L ∧ i = .int .i64 (j : Int) ∧ u = .int .i64 (cc : Int) ∧ (cc ≤ j ∧ s.length ≤ j ∧ n.q.length ≤ j ∧ vld n = true ∧ (∀ p ∈ n.q, p ∈ s) ∧ (cc = 0 → n.ap = [])) ∧ RowP wr W1.heap.size v s ∧ (∃ A c B k lq la, NV wr nb n A c B k lq la) ∧ Below w.heap.size w wr ∧ W1.heap.size ≤ wr.heap.size) (fun _ _ i _ => L - (intOf i).toNat)
  case atStart => exact ⟨0, 0, nt0, [], Nat.zero_le _, rfl, rfl, ⟨Nat.le_refl _, Nat.le_refl _, Nat.le_refl _, rfl, (fun p hp => by cases hp), (fun _ => rfl)⟩, .inl ⟨rfl, rfl⟩, ⟨_, _, _, _, _, _, HN0.out⟩, HB1.out, Nat.le_refl _⟩
  case round =>
    obtain ⟨j, cc, n, s, hj, rfl, rfl, hI, hR, ⟨A, c, B, k, lq, la, hN⟩, hb, hsz⟩ := hrel
    have HI := Lib.hid hI
    have HR := Lib.hid hR
    have HN := Lib.hid hN
    have HB := Lib.hid hb
    have HSZ := Lib.hid hsz
    clear hR hN hb hsz hI
    by_cases hlt : j < L
    case neg =>
      have hd1 : decide ((j : Int) < (L : Int)) = false := decide_eq_false (by omega)
      go_wp2_with fail
      go_ret
      exact ⟨rfl, HB.out⟩
    have hd1 : decide ((j : Int) < (L : Int)) = true := decide_eq_true (by omega)
    have hj0 : (0 : Int) ≤ (j : Int) := by omega
    have hjL : (j : Int) < (L : Int) := by omega
    obtain ⟨m, hm⟩ : ∃ m, l[j]? = some m := ⟨_, List.getElem?_eq_getElem (by have := HL.out; omega)⟩
    obtain ⟨bA, oA, hA, hbA, hat⟩ := HS.out.1 (by have := HL.out; omega)
    subst hA
    have HMJ := Lib.hid (And.intro hm hbA)
    have hmc := hat j m hm
    have q0 := (HB.out.cell (p := ⟨bA, oA + j * 5, none⟩) hbA).trans (hmc 0 (bv m.k) rfl)
    have q1 := (HB.out.cell (p := ⟨bA, oA + j * 5 + 1, none⟩) hbA).trans (hmc 1 (bv m.t) rfl)
    have q2 := (HB.out.cell (p := ⟨bA, oA + j * 5 + 2, none⟩) hbA).trans (hmc 2 (bv m.a) rfl)
    have q3 := (HB.out.cell (p := ⟨bA, oA + j * 5 + 3, none⟩) hbA).trans (hmc 3 (bv m.b) rfl)
    have q4 := (HB.out.cell (p := ⟨bA, oA + j * 5 + 4, none⟩) hbA).trans (hmc 4 (bv m.d) rfl)
    have HHP := Lib.hid (fun V (hb : Below wr.heap.size wr V) => happens_v (HN.out.up hb) HI.out.2.2.2.1 m)
    have HVX := Lib.hid (vld_hx (m := m) HI.out.2.2.2.1)
    obtain ⟨x, hxe⟩ : ∃ x, hx n m = x := ⟨_, rfl⟩
    obtain ⟨p, hpe⟩ : ∃ p, hp n m = p := ⟨_, rfl⟩
    obtain ⟨er, hee⟩ : ∃ er, he n m = er := ⟨_, rfl⟩
    have HEQ := Lib.hid (And.intro hxe (And.intro hpe hee))
    rw [hxe, hpe, hee] at HHP
    rw [hxe] at HVX
    unfold HapP mvc at HHP
    unfold bv at q0 q1 q2 q3 q4 HHP
    obtain ⟨m0, hm0⟩ : ∃ z, m.k.toNat = z := ⟨_, rfl⟩
    obtain ⟨m1, hm1⟩ : ∃ z, m.t.toNat = z := ⟨_, rfl⟩
    obtain ⟨m2, hm2⟩ : ∃ z, m.a.toNat = z := ⟨_, rfl⟩
    obtain ⟨m3, hm3⟩ : ∃ z, m.b.toNat = z := ⟨_, rfl⟩
    obtain ⟨m4, hm4⟩ : ∃ z, m.d.toNat = z := ⟨_, rfl⟩
    rw [hm0, hm1, hm2, hm3, hm4] at HHP
    rw [hm0] at q0
    rw [hm1] at q1
    rw [hm2] at q2
    rw [hm3] at q3
    rw [hm4] at q4
    have HMK := Lib.hid hm0
    clear hm hbA hat hmc hxe hpe hee hm0 hm1 hm2 hm3 hm4
    obtain ⟨xn0, xn1⟩ := HN.out.cells
    go_upto_region 11 with fail
    go_cut [7, 8, 9] from 24 to 33 (fun t7 t8 t9 wx => ∃ xb pb A c B k lq la D d mm, t7 = .pointer (some ⟨xb, 0, none⟩) ∧ t8 = .pointer (some ⟨pb, 0, none⟩) ∧ t9 = .int .i64 er ∧ NV wx xb x A c B k lq la ∧ PV wx pb p D d mm ∧ Below wr.heap.size wr wx ∧ wr.heap.size ≤ xb ∧ wr.heap.size ≤ pb)
    case first =>
      have HD1 := Lib.hid (fun V (hb : Below wr.heap.size wr V) => show (fun w' => w'.cell? ⟨nb, 0, none⟩ = some (.slice A lq c) ∧ w'.cell? ⟨nb, 1, none⟩ = some (.slice B la k) ∧ w'.cell? ⟨bA, oA + j * 5, none⟩ = some (.int .u8 (m0 : Int)) ∧ w'.cell? ⟨bA, oA + j * 5 + 1, none⟩ = some (.int .u8 (m1 : Int)) ∧ w'.cell? ⟨bA, oA + j * 5 + 2, none⟩ = some (.int .u8 (m2 : Int)) ∧ w'.cell? ⟨bA, oA + j * 5 + 3, none⟩ = some (.int .u8 (m3 : Int)) ∧ w'.cell? ⟨bA, oA + j * 5 + 4, none⟩ = some (.int .u8 (m4 : Int))) V from
        ⟨(hb.cell (p := ⟨nb, 0, none⟩) (World.block_lt_of_cell? _ _ xn0)).trans xn0, (hb.cell (p := ⟨nb, 1, none⟩) (World.block_lt_of_cell? _ _ xn1)).trans xn1, (hb.cell (p := ⟨bA, oA + j * 5, none⟩) (World.block_lt_of_cell? _ _ q0)).trans q0, (hb.cell (p := ⟨bA, oA + j * 5 + 1, none⟩) (World.block_lt_of_cell? _ _ q1)).trans q1, (hb.cell (p := ⟨bA, oA + j * 5 + 2, none⟩) (World.block_lt_of_cell? _ _ q2)).trans q2, (hb.cell (p := ⟨bA, oA + j * 5 + 3, none⟩) (World.block_lt_of_cell? _ _ q3)).trans q3, (hb.cell (p := ⟨bA, oA + j * 5 + 4, none⟩) (World.block_lt_of_cell? _ _ q4)).trans q4⟩)
      have HDV := Lib.hid (HD1.out wr.drew (Below.refl _ _).drew)
      clear xn0 xn1 q0 q1 q2 q3 q4
      refine wp_region_later 14 (fun w' => w'.cell? ⟨nb, 0, none⟩ = some (.slice A lq c) ∧ w'.cell? ⟨nb, 1, none⟩ = some (.slice B la k) ∧ w'.cell? ⟨bA, oA + j * 5, none⟩ = some (.int .u8 (m0 : Int)) ∧ w'.cell? ⟨bA, oA + j * 5 + 1, none⟩ = some (.int .u8 (m1 : Int)) ∧ w'.cell? ⟨bA, oA + j * 5 + 2, none⟩ = some (.int .u8 (m2 : Int)) ∧ w'.cell? ⟨bA, oA + j * 5 + 3, none⟩ = some (.int .u8 (m3 : Int)) ∧ w'.cell? ⟨bA, oA + j * 5 + 4, none⟩ = some (.int .u8 (m4 : Int))) (by kernel_rfl) ?_
      refine takeL (d := some 25) (i := 0) (v := ?v0) rfl rfl (by kernel_rfl) (by kernel_rfl) (by kernel_rfl) (fun _ _ _ h => h) rfl (by kernel_rfl) (Or.inl ⟨by rfl, ?y0⟩) HDV.out ?r0
      case y0 =>
        intro w hSw
        try dsimp only at hSw
        go_simp
        all_goals with_reducible rfl
      try simp only [Act.put, List.setIfInBounds_toArray, List.set_cons_zero, List.set_cons_succ]
      refine takeL (d := some 26) (i := 1) (v := ?v1) rfl rfl (by kernel_rfl) (by kernel_rfl) (by kernel_rfl) (fun _ _ _ h => h) rfl (by kernel_rfl) (Or.inl ⟨by rfl, ?y1⟩) HDV.out ?r1
      case y1 =>
        intro w hSw
        try dsimp only at hSw
        go_simp
        all_goals with_reducible rfl
      try simp only [Act.put, List.setIfInBounds_toArray, List.set_cons_zero, List.set_cons_succ]
      refine takeL (d := some 27) (i := 2) (v := ?v2) rfl rfl (by kernel_rfl) (by kernel_rfl) (by kernel_rfl) (fun _ _ _ h => h) rfl (by kernel_rfl) (Or.inl ⟨by rfl, ?y2⟩) HDV.out ?r2
      case y2 =>
        intro w hSw
        try dsimp only at hSw
        go_simp
        all_goals with_reducible rfl
      try simp only [Act.put, List.setIfInBounds_toArray, List.set_cons_zero, List.set_cons_succ]
      refine takeL (d := some 28) (i := 3) (v := ?v3) rfl rfl (by kernel_rfl) (by kernel_rfl) (by kernel_rfl) (fun _ _ _ h => h) rfl (by kernel_rfl) (Or.inl ⟨by rfl, ?y3⟩) HDV.out ?r3
      case y3 =>
        intro w hSw
        try dsimp only at hSw
        go_simp
        all_goals with_reducible rfl
      try simp only [Act.put, List.setIfInBounds_toArray, List.set_cons_zero, List.set_cons_succ]
      refine takeL (d := some 29) (i := 4) (v := ?v4) rfl rfl (by kernel_rfl) (by kernel_rfl) (by kernel_rfl) (fun _ _ _ h => h) rfl (by kernel_rfl) (Or.inl ⟨by rfl, ?y4⟩) HDV.out ?r4
      case y4 =>
        intro w hSw
        try dsimp only at hSw
        go_simp
        all_goals with_reducible rfl
      try simp only [Act.put, List.setIfInBounds_toArray, List.set_cons_zero, List.set_cons_succ]
      refine threeL (i := 5) (j := 10) (k := 11) (by kernel_rfl) rfl rfl rfl (fun K' hK => ?_) (fun K' hK => ?_) (fun K' hK => ?_)
      · go_simp
        have HBC := Lib.hid (show Below wr.heap.size wr wr.drew from (Below.refl _ _).drew)
        refine (HHP.out _ HBC.out).mono ?_
        rintro e w5 ⟨Ax, cx, Bx, kx, lqx, lax, Dx, dx, mx, rfl, ⟨hqx, hax⟩, hnx, ⟨hmx, hsx⟩, hbx⟩
        have HW5 := Lib.hid (HBC.out.trans (hbx.mono HBC.out.size))
        have HX5 := Lib.hid (And.intro hnx (And.intro hqx (And.intro hax (And.intro hmx hsx))))
        clear hqx hax hnx hmx hsx hbx
        go_simp
        have HDW := Lib.hid (HD1.out w5 HW5.out)
        refine hK.out _ _ (fun _ => HDW.out) ?_
        clear hK
        refine takeL (d := some 24) (i := 6) (v := ?v6o1) rfl rfl (by kernel_rfl) (by kernel_rfl) (by kernel_rfl) (fun _ _ _ h => h) rfl (by kernel_rfl) (Or.inl ⟨by rfl, ?y6o1⟩) HDW.out ?r6o1
        case y6o1 =>
          intro w hSw
          try dsimp only at hSw
          go_simp
          all_goals with_reducible rfl
        try simp only [Act.put, List.setIfInBounds_toArray, List.set_cons_zero, List.set_cons_succ]
        refine takeL (d := some 31) (i := 7) (v := ?v7o1) rfl rfl (by kernel_rfl) (by kernel_rfl) (by kernel_rfl) (fun _ _ _ h => h) rfl (by kernel_rfl) (Or.inl ⟨by rfl, ?y7o1⟩) HDW.out ?r7o1
        case y7o1 =>
          intro w hSw
          try dsimp only at hSw
          go_simp
          all_goals with_reducible rfl
        try simp only [Act.put, List.setIfInBounds_toArray, List.set_cons_zero, List.set_cons_succ]
        refine takeL (d := some 32) (i := 8) (v := ?v8o1) rfl rfl (by kernel_rfl) (by kernel_rfl) (by kernel_rfl) (fun _ _ _ h => h) rfl (by kernel_rfl) (Or.inl ⟨by rfl, ?y8o1⟩) HDW.out ?r8o1
        case y8o1 =>
          intro w hSw
          try dsimp only at hSw
          go_simp
          all_goals with_reducible rfl
        try simp only [Act.put, List.setIfInBounds_toArray, List.set_cons_zero, List.set_cons_succ]
        refine takeL (d := some 33) (i := 9) (v := ?v9o1) rfl rfl (by kernel_rfl) (by kernel_rfl) (by kernel_rfl) (fun _ _ _ h => h) rfl (by kernel_rfl) (Or.inl ⟨by rfl, ?y9o1⟩) HDW.out ?r9o1
        case y9o1 =>
          intro w hSw
          try dsimp only at hSw
          go_simp
          all_goals with_reducible rfl
        try simp only [Act.put, List.setIfInBounds_toArray, List.set_cons_zero, List.set_cons_succ]
        refine twoL (i := 10) (j := 11) (by kernel_rfl) rfl rfl (fun K' hK => ?_) (fun K' hK => ?_)
        · go_simp
          refine hK.out _ _ (fun _ => HD1.out _ (show Below wr.heap.size wr (w5.alloc (.cells #[.slice none 0 0, .slice none 0 0] 25)) from (HW5.out.alloc HW5.out.size _))) ?_
          clear hK
          refine oneL (i := 11) (by kernel_rfl) rfl (fun K' hK => ?_)
          go_simp
          refine hK.out _ _ (fun _ => HD1.out _ (show Below wr.heap.size wr ((w5.alloc (.cells #[.slice none 0 0, .slice none 0 0] 25)).alloc (.cells #[.int .i64 0, .int .i64 0, .slice none 0 0] 28)) from ((HW5.out.alloc HW5.out.size _).alloc (by rw [World.size_alloc]; have := HW5.out.size; omega) _))) ?_
          clear hK
          have HW6 := Lib.hid (show wr.heap.size ≤ w5.heap.size from HW5.out.size)
          have HSZ5 := Lib.hid (show wr.heap.size ≤ w5.heap.size from HW5.out.size)
          have hup : Below w5.heap.size w5 ((w5.alloc (.cells #[.slice none 0 0, .slice none 0 0] 25)).alloc (.cells #[.int .i64 0, .int .i64 0, .slice none 0 0] 28)) := ((alloc_lt w5 (.cells #[.slice none 0 0, .slice none 0 0] 25)).trans ((alloc_lt (w5.alloc (.cells #[.slice none 0 0, .slice none 0 0] 25)) (.cells #[.int .i64 0, .int .i64 0, .slice none 0 0] 28)).mono (alloc_lt w5 (.cells #[.slice none 0 0, .slice none 0 0] 25)).size))
          have HBa := Lib.hid (show Box ((w5.alloc (.cells #[.slice none 0 0, .slice none 0 0] 25)).alloc (.cells #[.int .i64 0, .int .i64 0, .slice none 0 0] 28)) (w5.heap.size) #[.slice none 0 0, .slice none 0 0] 25 from Box.alloc (Box.new w5 _ _) _)
          have HBb := Lib.hid (show Box ((w5.alloc (.cells #[.slice none 0 0, .slice none 0 0] 25)).alloc (.cells #[.int .i64 0, .int .i64 0, .slice none 0 0] 28)) (w5.heap.size + 1) #[.int .i64 0, .int .i64 0, .slice none 0 0] 28 from by
            have := Box.new (w5.alloc (.cells #[.slice none 0 0, .slice none 0 0] 25)) #[.int .i64 0, .int .i64 0, .slice none 0 0] 28
            rw [World.size_alloc] at this
            exact this)
          have HXG := Lib.hid (And.intro (HX5.out.1.up hup) (And.intro HX5.out.2.1 (And.intro HX5.out.2.2.1 (And.intro HX5.out.2.2.2.1 (HX5.out.2.2.2.2.up hup)))))
          have HBG := Lib.hid (HW5.out.trans (hup.mono HW5.out.size))
          clear hup
          generalize ((w5.alloc (.cells #[.slice none 0 0, .slice none 0 0] 25)).alloc (.cells #[.int .i64 0, .int .i64 0, .slice none 0 0] 28)) = G at *
          have HFB := Lib.hid (fill_both (xb := w5.heap.size) (pb := w5.heap.size + 1) HBa.out HBb.out (by have h5 := HSZ5.out; omega) HXG.out.1 HXG.out.2.1 HXG.out.2.2.1 HVX.out HXG.out.2.2.2.2 HXG.out.2.2.2.1 HBG.out (by have h5 := HSZ5.out; have h6 := HW6.out; omega) (by have h5 := HSZ5.out; have h6 := HW6.out; omega))
          have HP2 := Lib.hid (box_other (b := w5.heap.size) (i := 1) (v := .slice Bx lax kx) (box_other (b := w5.heap.size) (i := 0) (v := .slice Ax lqx cx) HBb.out (by have h5 := HSZ5.out; omega)) (by have h5 := HSZ5.out; omega))
          obtain ⟨z0, z1, f0, f1⟩ := cells2 HBa.out
          have HXB := Lib.hid (show wr.heap.size ≤ w5.heap.size by have h5 := HSZ5.out; have h6 := HW6.out; omega)
          have HB12 := Lib.hid ((HBG.out.setCell (p := ⟨w5.heap.size, 0, none⟩) HXB.out (.slice Ax lqx cx)).setCell (p := ⟨w5.heap.size, 1, none⟩) HXB.out (.slice Bx lax kx))
          refine oneL (i := 12) (by kernel_rfl) rfl (fun K' hK => ?_)
          go_simp
          refine hK.out _ _ (fun _ => HD1.out _ HB12.out) ?_
          clear hK z0 z1 f0 f1
          generalize World.setCell (World.setCell G _ _) _ _ = G2 at *
          obtain ⟨y0, y1, y2, g0, g1, g2⟩ := cells3 HP2.out
          refine oneL (i := 13) (by kernel_rfl) rfl (fun K' hK => ?_)
          go_simp
          refine hK.out _ _ (fun _ => HD1.out _ HFB.out.2.2) ?_
          clear hK y0 y1 y2 g0 g1 g2
          generalize World.setCell (World.setCell (World.setCell G2 _ _) _ _) _ _ = G3 at *
          refine oneL (i := 14) (by kernel_rfl) rfl (fun K' hK => ?_)
          go_simp
          refine hK.out _ _ (fun e => by simp at e) ?_
          clear hK
          refine doneL (by kernel_rfl) ?_ _
          go_wp2_with fail
          go_meet
          exact ⟨_, _, Ax, cx, Bx, kx, lqx, lax, Dx, dx, mx, rfl, rfl, rfl, HFB.out.1, HFB.out.2.1, HFB.out.2.2, by have h5 := HSZ5.out; have h6 := HW6.out; omega, by have h5 := HSZ5.out; have h6 := HW6.out; omega⟩
        · go_simp
          refine hK.out _ _ (fun _ => HD1.out _ (show Below wr.heap.size wr (w5.alloc (.cells #[.int .i64 0, .int .i64 0, .slice none 0 0] 28)) from (HW5.out.alloc HW5.out.size _))) ?_
          clear hK
          refine oneL (i := 10) (by kernel_rfl) rfl (fun K' hK => ?_)
          go_simp
          refine hK.out _ _ (fun _ => HD1.out _ (show Below wr.heap.size wr ((w5.alloc (.cells #[.int .i64 0, .int .i64 0, .slice none 0 0] 28)).alloc (.cells #[.slice none 0 0, .slice none 0 0] 25)) from ((HW5.out.alloc HW5.out.size _).alloc (by rw [World.size_alloc]; have := HW5.out.size; omega) _))) ?_
          clear hK
          have HW6 := Lib.hid (show wr.heap.size ≤ w5.heap.size from HW5.out.size)
          have HSZ5 := Lib.hid (show wr.heap.size ≤ w5.heap.size from HW5.out.size)
          have hup : Below w5.heap.size w5 ((w5.alloc (.cells #[.int .i64 0, .int .i64 0, .slice none 0 0] 28)).alloc (.cells #[.slice none 0 0, .slice none 0 0] 25)) := ((alloc_lt w5 (.cells #[.int .i64 0, .int .i64 0, .slice none 0 0] 28)).trans ((alloc_lt (w5.alloc (.cells #[.int .i64 0, .int .i64 0, .slice none 0 0] 28)) (.cells #[.slice none 0 0, .slice none 0 0] 25)).mono (alloc_lt w5 (.cells #[.int .i64 0, .int .i64 0, .slice none 0 0] 28)).size))
          have HBb := Lib.hid (show Box ((w5.alloc (.cells #[.int .i64 0, .int .i64 0, .slice none 0 0] 28)).alloc (.cells #[.slice none 0 0, .slice none 0 0] 25)) (w5.heap.size) #[.int .i64 0, .int .i64 0, .slice none 0 0] 28 from Box.alloc (Box.new w5 _ _) _)
          have HBa := Lib.hid (show Box ((w5.alloc (.cells #[.int .i64 0, .int .i64 0, .slice none 0 0] 28)).alloc (.cells #[.slice none 0 0, .slice none 0 0] 25)) (w5.heap.size + 1) #[.slice none 0 0, .slice none 0 0] 25 from by
            have := Box.new (w5.alloc (.cells #[.int .i64 0, .int .i64 0, .slice none 0 0] 28)) #[.slice none 0 0, .slice none 0 0] 25
            rw [World.size_alloc] at this
            exact this)
          have HXG := Lib.hid (And.intro (HX5.out.1.up hup) (And.intro HX5.out.2.1 (And.intro HX5.out.2.2.1 (And.intro HX5.out.2.2.2.1 (HX5.out.2.2.2.2.up hup)))))
          have HBG := Lib.hid (HW5.out.trans (hup.mono HW5.out.size))
          clear hup
          generalize ((w5.alloc (.cells #[.int .i64 0, .int .i64 0, .slice none 0 0] 28)).alloc (.cells #[.slice none 0 0, .slice none 0 0] 25)) = G at *
          have HFB := Lib.hid (fill_both (xb := w5.heap.size + 1) (pb := w5.heap.size) HBa.out HBb.out (by have h5 := HSZ5.out; omega) HXG.out.1 HXG.out.2.1 HXG.out.2.2.1 HVX.out HXG.out.2.2.2.2 HXG.out.2.2.2.1 HBG.out (by have h5 := HSZ5.out; have h6 := HW6.out; omega) (by have h5 := HSZ5.out; have h6 := HW6.out; omega))
          have HP2 := Lib.hid (box_other (b := w5.heap.size + 1) (i := 1) (v := .slice Bx lax kx) (box_other (b := w5.heap.size + 1) (i := 0) (v := .slice Ax lqx cx) HBb.out (by have h5 := HSZ5.out; omega)) (by have h5 := HSZ5.out; omega))
          obtain ⟨z0, z1, f0, f1⟩ := cells2 HBa.out
          have HXB := Lib.hid (show wr.heap.size ≤ w5.heap.size + 1 by have h5 := HSZ5.out; have h6 := HW6.out; omega)
          have HB12 := Lib.hid ((HBG.out.setCell (p := ⟨w5.heap.size + 1, 0, none⟩) HXB.out (.slice Ax lqx cx)).setCell (p := ⟨w5.heap.size + 1, 1, none⟩) HXB.out (.slice Bx lax kx))
          refine oneL (i := 12) (by kernel_rfl) rfl (fun K' hK => ?_)
          go_simp
          refine hK.out _ _ (fun _ => HD1.out _ HB12.out) ?_
          clear hK z0 z1 f0 f1
          generalize World.setCell (World.setCell G _ _) _ _ = G2 at *
          obtain ⟨y0, y1, y2, g0, g1, g2⟩ := cells3 HP2.out
          refine oneL (i := 13) (by kernel_rfl) rfl (fun K' hK => ?_)
          go_simp
          refine hK.out _ _ (fun _ => HD1.out _ HFB.out.2.2) ?_
          clear hK y0 y1 y2 g0 g1 g2
          generalize World.setCell (World.setCell (World.setCell G2 _ _) _ _) _ _ = G3 at *
          refine oneL (i := 14) (by kernel_rfl) rfl (fun K' hK => ?_)
          go_simp
          refine hK.out _ _ (fun e => by simp at e) ?_
          clear hK
          refine doneL (by kernel_rfl) ?_ _
          go_wp2_with fail
          go_meet
          exact ⟨_, _, Ax, cx, Bx, kx, lqx, lax, Dx, dx, mx, rfl, rfl, rfl, HFB.out.1, HFB.out.2.1, HFB.out.2.2, by have h5 := HSZ5.out; have h6 := HW6.out; omega, by have h5 := HSZ5.out; have h6 := HW6.out; omega⟩
      · go_simp
        refine hK.out _ _ (fun _ => HD1.out _ (show Below wr.heap.size wr (wr.alloc (.cells #[.slice none 0 0, .slice none 0 0] 25)).drew from ((Below.refl wr.heap.size wr).alloc (Nat.le_refl _) _).drew)) ?_
        clear hK
        refine twoL (i := 5) (j := 11) (by kernel_rfl) rfl rfl (fun K' hK => ?_) (fun K' hK => ?_)
        · go_simp
          have HBC := Lib.hid (show Below wr.heap.size wr (wr.alloc (.cells #[.slice none 0 0, .slice none 0 0] 25)).drew from ((Below.refl wr.heap.size wr).alloc (Nat.le_refl _) _).drew)
          have HBa := Lib.hid (show Box (wr.alloc (.cells #[.slice none 0 0, .slice none 0 0] 25)).drew (wr.heap.size) #[.slice none 0 0, .slice none 0 0] 25 from (Box.new wr _ _).drew)
          refine (HHP.out _ HBC.out).mono ?_
          rintro e w5 ⟨Ax, cx, Bx, kx, lqx, lax, Dx, dx, mx, rfl, ⟨hqx, hax⟩, hnx, ⟨hmx, hsx⟩, hbx⟩
          have HW5 := Lib.hid (HBC.out.trans (hbx.mono HBC.out.size))
          have HBa := Lib.hid (HBa.out.below hbx)
          have HX5 := Lib.hid (And.intro hnx (And.intro hqx (And.intro hax (And.intro hmx hsx))))
          clear hqx hax hnx hmx hsx hbx
          go_simp
          have HDW := Lib.hid (HD1.out w5 HW5.out)
          refine hK.out _ _ (fun _ => HDW.out) ?_
          clear hK
          refine takeL (d := some 24) (i := 6) (v := ?v6o3) rfl rfl (by kernel_rfl) (by kernel_rfl) (by kernel_rfl) (fun _ _ _ h => h) rfl (by kernel_rfl) (Or.inl ⟨by rfl, ?y6o3⟩) HDW.out ?r6o3
          case y6o3 =>
            intro w hSw
            try dsimp only at hSw
            go_simp
            all_goals with_reducible rfl
          try simp only [Act.put, List.setIfInBounds_toArray, List.set_cons_zero, List.set_cons_succ]
          refine takeL (d := some 31) (i := 7) (v := ?v7o3) rfl rfl (by kernel_rfl) (by kernel_rfl) (by kernel_rfl) (fun _ _ _ h => h) rfl (by kernel_rfl) (Or.inl ⟨by rfl, ?y7o3⟩) HDW.out ?r7o3
          case y7o3 =>
            intro w hSw
            try dsimp only at hSw
            go_simp
            all_goals with_reducible rfl
          try simp only [Act.put, List.setIfInBounds_toArray, List.set_cons_zero, List.set_cons_succ]
          refine takeL (d := some 32) (i := 8) (v := ?v8o3) rfl rfl (by kernel_rfl) (by kernel_rfl) (by kernel_rfl) (fun _ _ _ h => h) rfl (by kernel_rfl) (Or.inl ⟨by rfl, ?y8o3⟩) HDW.out ?r8o3
          case y8o3 =>
            intro w hSw
            try dsimp only at hSw
            go_simp
            all_goals with_reducible rfl
          try simp only [Act.put, List.setIfInBounds_toArray, List.set_cons_zero, List.set_cons_succ]
          refine takeL (d := some 33) (i := 9) (v := ?v9o3) rfl rfl (by kernel_rfl) (by kernel_rfl) (by kernel_rfl) (fun _ _ _ h => h) rfl (by kernel_rfl) (Or.inl ⟨by rfl, ?y9o3⟩) HDW.out ?r9o3
          case y9o3 =>
            intro w hSw
            try dsimp only at hSw
            go_simp
            all_goals with_reducible rfl
          try simp only [Act.put, List.setIfInBounds_toArray, List.set_cons_zero, List.set_cons_succ]
          refine oneL (i := 11) (by kernel_rfl) rfl (fun K' hK => ?_)
          go_simp
          refine hK.out _ _ (fun _ => HD1.out _ (show Below wr.heap.size wr (w5.alloc (.cells #[.int .i64 0, .int .i64 0, .slice none 0 0] 28)) from (HW5.out.alloc HW5.out.size _))) ?_
          clear hK
          have HW6 := Lib.hid (show wr.heap.size ≤ w5.heap.size from HW5.out.size)
          have HLT5 := Lib.hid (show wr.heap.size < w5.heap.size from HBa.out.lt)
          have HSZ5 := Lib.hid (show wr.heap.size < w5.heap.size from HLT5.out)
          have hup : Below w5.heap.size w5 (w5.alloc (.cells #[.int .i64 0, .int .i64 0, .slice none 0 0] 28)) := (alloc_lt w5 _)
          have HBb := Lib.hid (show Box (w5.alloc (.cells #[.int .i64 0, .int .i64 0, .slice none 0 0] 28)) (w5.heap.size) #[.int .i64 0, .int .i64 0, .slice none 0 0] 28 from Box.new w5 _ _)
          have HBa := Lib.hid (HBa.out.below hup)
          have HXG := Lib.hid (And.intro (HX5.out.1.up hup) (And.intro HX5.out.2.1 (And.intro HX5.out.2.2.1 (And.intro HX5.out.2.2.2.1 (HX5.out.2.2.2.2.up hup)))))
          have HBG := Lib.hid (HW5.out.trans (hup.mono HW5.out.size))
          clear hup
          generalize (w5.alloc (.cells #[.int .i64 0, .int .i64 0, .slice none 0 0] 28)) = G at *
          have HFB := Lib.hid (fill_both (xb := wr.heap.size) (pb := w5.heap.size) HBa.out HBb.out (by have h5 := HSZ5.out; omega) HXG.out.1 HXG.out.2.1 HXG.out.2.2.1 HVX.out HXG.out.2.2.2.2 HXG.out.2.2.2.1 HBG.out (by have h5 := HSZ5.out; have h6 := HW6.out; omega) (by have h5 := HSZ5.out; have h6 := HW6.out; omega))
          have HP2 := Lib.hid (box_other (b := wr.heap.size) (i := 1) (v := .slice Bx lax kx) (box_other (b := wr.heap.size) (i := 0) (v := .slice Ax lqx cx) HBb.out (by have h5 := HSZ5.out; omega)) (by have h5 := HSZ5.out; omega))
          obtain ⟨z0, z1, f0, f1⟩ := cells2 HBa.out
          have HXB := Lib.hid (show wr.heap.size ≤ wr.heap.size by have h5 := HSZ5.out; have h6 := HW6.out; omega)
          have HB12 := Lib.hid ((HBG.out.setCell (p := ⟨wr.heap.size, 0, none⟩) HXB.out (.slice Ax lqx cx)).setCell (p := ⟨wr.heap.size, 1, none⟩) HXB.out (.slice Bx lax kx))
          refine oneL (i := 12) (by kernel_rfl) rfl (fun K' hK => ?_)
          go_simp
          refine hK.out _ _ (fun _ => HD1.out _ HB12.out) ?_
          clear hK z0 z1 f0 f1
          generalize World.setCell (World.setCell G _ _) _ _ = G2 at *
          obtain ⟨y0, y1, y2, g0, g1, g2⟩ := cells3 HP2.out
          refine oneL (i := 13) (by kernel_rfl) rfl (fun K' hK => ?_)
          go_simp
          refine hK.out _ _ (fun _ => HD1.out _ HFB.out.2.2) ?_
          clear hK y0 y1 y2 g0 g1 g2
          generalize World.setCell (World.setCell (World.setCell G2 _ _) _ _) _ _ = G3 at *
          refine oneL (i := 14) (by kernel_rfl) rfl (fun K' hK => ?_)
          go_simp
          refine hK.out _ _ (fun e => by simp at e) ?_
          clear hK
          refine doneL (by kernel_rfl) ?_ _
          go_wp2_with fail
          go_meet
          exact ⟨_, _, Ax, cx, Bx, kx, lqx, lax, Dx, dx, mx, rfl, rfl, rfl, HFB.out.1, HFB.out.2.1, HFB.out.2.2, by have h5 := HSZ5.out; have h6 := HW6.out; omega, by have h5 := HSZ5.out; have h6 := HW6.out; omega⟩
        · go_simp
          refine hK.out _ _ (fun _ => HD1.out _ (show Below wr.heap.size wr ((wr.alloc (.cells #[.slice none 0 0, .slice none 0 0] 25)).alloc (.cells #[.int .i64 0, .int .i64 0, .slice none 0 0] 28)).drew from (((Below.refl wr.heap.size wr).alloc (Nat.le_refl _) _).alloc (by rw [World.size_alloc]; omega) _).drew)) ?_
          clear hK
          refine oneL (i := 5) (by kernel_rfl) rfl (fun K' hK => ?_)
          go_simp
          have HBC := Lib.hid (show Below wr.heap.size wr ((wr.alloc (.cells #[.slice none 0 0, .slice none 0 0] 25)).alloc (.cells #[.int .i64 0, .int .i64 0, .slice none 0 0] 28)).drew from (((Below.refl wr.heap.size wr).alloc (Nat.le_refl _) _).alloc (by rw [World.size_alloc]; omega) _).drew)
          have HBa := Lib.hid (show Box ((wr.alloc (.cells #[.slice none 0 0, .slice none 0 0] 25)).alloc (.cells #[.int .i64 0, .int .i64 0, .slice none 0 0] 28)).drew (wr.heap.size) #[.slice none 0 0, .slice none 0 0] 25 from (Box.alloc (Box.new wr _ _) _).drew)
          have HBb := Lib.hid (show Box ((wr.alloc (.cells #[.slice none 0 0, .slice none 0 0] 25)).alloc (.cells #[.int .i64 0, .int .i64 0, .slice none 0 0] 28)).drew (wr.heap.size + 1) #[.int .i64 0, .int .i64 0, .slice none 0 0] 28 from by
            have := Box.new (wr.alloc (.cells #[.slice none 0 0, .slice none 0 0] 25)) #[.int .i64 0, .int .i64 0, .slice none 0 0] 28
            rw [World.size_alloc] at this
            exact this.drew)
          refine (HHP.out _ HBC.out).mono ?_
          rintro e w5 ⟨Ax, cx, Bx, kx, lqx, lax, Dx, dx, mx, rfl, ⟨hqx, hax⟩, hnx, ⟨hmx, hsx⟩, hbx⟩
          have HW5 := Lib.hid (HBC.out.trans (hbx.mono HBC.out.size))
          have HBa := Lib.hid (HBa.out.below hbx)
          have HBb := Lib.hid (HBb.out.below hbx)
          have HX5 := Lib.hid (And.intro hnx (And.intro hqx (And.intro hax (And.intro hmx hsx))))
          clear hqx hax hnx hmx hsx hbx
          go_simp
          have HDW := Lib.hid (HD1.out w5 HW5.out)
          refine hK.out _ _ (fun _ => HDW.out) ?_
          clear hK
          refine takeL (d := some 24) (i := 6) (v := ?v6o4) rfl rfl (by kernel_rfl) (by kernel_rfl) (by kernel_rfl) (fun _ _ _ h => h) rfl (by kernel_rfl) (Or.inl ⟨by rfl, ?y6o4⟩) HDW.out ?r6o4
          case y6o4 =>
            intro w hSw
            try dsimp only at hSw
            go_simp
            all_goals with_reducible rfl
          try simp only [Act.put, List.setIfInBounds_toArray, List.set_cons_zero, List.set_cons_succ]
          refine takeL (d := some 31) (i := 7) (v := ?v7o4) rfl rfl (by kernel_rfl) (by kernel_rfl) (by kernel_rfl) (fun _ _ _ h => h) rfl (by kernel_rfl) (Or.inl ⟨by rfl, ?y7o4⟩) HDW.out ?r7o4
          case y7o4 =>
            intro w hSw
            try dsimp only at hSw
            go_simp
            all_goals with_reducible rfl
          try simp only [Act.put, List.setIfInBounds_toArray, List.set_cons_zero, List.set_cons_succ]
          refine takeL (d := some 32) (i := 8) (v := ?v8o4) rfl rfl (by kernel_rfl) (by kernel_rfl) (by kernel_rfl) (fun _ _ _ h => h) rfl (by kernel_rfl) (Or.inl ⟨by rfl, ?y8o4⟩) HDW.out ?r8o4
          case y8o4 =>
            intro w hSw
            try dsimp only at hSw
            go_simp
            all_goals with_reducible rfl
          try simp only [Act.put, List.setIfInBounds_toArray, List.set_cons_zero, List.set_cons_succ]
          refine takeL (d := some 33) (i := 9) (v := ?v9o4) rfl rfl (by kernel_rfl) (by kernel_rfl) (by kernel_rfl) (fun _ _ _ h => h) rfl (by kernel_rfl) (Or.inl ⟨by rfl, ?y9o4⟩) HDW.out ?r9o4
          case y9o4 =>
            intro w hSw
            try dsimp only at hSw
            go_simp
            all_goals with_reducible rfl
          try simp only [Act.put, List.setIfInBounds_toArray, List.set_cons_zero, List.set_cons_succ]
          have HW6 := Lib.hid (show wr.heap.size ≤ w5.heap.size from HW5.out.size)
          have HSZ5 := Lib.hid (show True from trivial)
          have HXG := HX5
          have HBG := HW5
          obtain ⟨G, rfl⟩ : ∃ G, G = w5 := ⟨_, rfl⟩
          have HFB := Lib.hid (fill_both (xb := wr.heap.size) (pb := wr.heap.size + 1) HBa.out HBb.out (by have h5 := HSZ5.out; omega) HXG.out.1 HXG.out.2.1 HXG.out.2.2.1 HVX.out HXG.out.2.2.2.2 HXG.out.2.2.2.1 HBG.out (by have h5 := HSZ5.out; have h6 := HW6.out; omega) (by have h5 := HSZ5.out; have h6 := HW6.out; omega))
          have HP2 := Lib.hid (box_other (b := wr.heap.size) (i := 1) (v := .slice Bx lax kx) (box_other (b := wr.heap.size) (i := 0) (v := .slice Ax lqx cx) HBb.out (by have h5 := HSZ5.out; omega)) (by have h5 := HSZ5.out; omega))
          obtain ⟨z0, z1, f0, f1⟩ := cells2 HBa.out
          have HXB := Lib.hid (show wr.heap.size ≤ wr.heap.size by have h5 := HSZ5.out; have h6 := HW6.out; omega)
          have HB12 := Lib.hid ((HBG.out.setCell (p := ⟨wr.heap.size, 0, none⟩) HXB.out (.slice Ax lqx cx)).setCell (p := ⟨wr.heap.size, 1, none⟩) HXB.out (.slice Bx lax kx))
          refine oneL (i := 12) (by kernel_rfl) rfl (fun K' hK => ?_)
          go_simp
          refine hK.out _ _ (fun _ => HD1.out _ HB12.out) ?_
          clear hK z0 z1 f0 f1
          generalize World.setCell (World.setCell G _ _) _ _ = G2 at *
          obtain ⟨y0, y1, y2, g0, g1, g2⟩ := cells3 HP2.out
          refine oneL (i := 13) (by kernel_rfl) rfl (fun K' hK => ?_)
          go_simp
          refine hK.out _ _ (fun _ => HD1.out _ HFB.out.2.2) ?_
          clear hK y0 y1 y2 g0 g1 g2
          generalize World.setCell (World.setCell (World.setCell G2 _ _) _ _) _ _ = G3 at *
          refine oneL (i := 14) (by kernel_rfl) rfl (fun K' hK => ?_)
          go_simp
          refine hK.out _ _ (fun e => by simp at e) ?_
          clear hK
          refine doneL (by kernel_rfl) ?_ _
          go_wp2_with fail
          go_meet
          exact ⟨_, _, Ax, cx, Bx, kx, lqx, lax, Dx, dx, mx, rfl, rfl, rfl, HFB.out.1, HFB.out.2.1, HFB.out.2.2, by have h5 := HSZ5.out; have h6 := HW6.out; omega, by have h5 := HSZ5.out; have h6 := HW6.out; omega⟩
      · go_simp
        refine hK.out _ _ (fun _ => HD1.out _ (show Below wr.heap.size wr (wr.alloc (.cells #[.int .i64 0, .int .i64 0, .slice none 0 0] 28)).drew from ((Below.refl wr.heap.size wr).alloc (Nat.le_refl _) _).drew)) ?_
        clear hK
        refine twoL (i := 5) (j := 10) (by kernel_rfl) rfl rfl (fun K' hK => ?_) (fun K' hK => ?_)
        · go_simp
          have HBC := Lib.hid (show Below wr.heap.size wr (wr.alloc (.cells #[.int .i64 0, .int .i64 0, .slice none 0 0] 28)).drew from ((Below.refl wr.heap.size wr).alloc (Nat.le_refl _) _).drew)
          have HBb := Lib.hid (show Box (wr.alloc (.cells #[.int .i64 0, .int .i64 0, .slice none 0 0] 28)).drew (wr.heap.size) #[.int .i64 0, .int .i64 0, .slice none 0 0] 28 from (Box.new wr _ _).drew)
          refine (HHP.out _ HBC.out).mono ?_
          rintro e w5 ⟨Ax, cx, Bx, kx, lqx, lax, Dx, dx, mx, rfl, ⟨hqx, hax⟩, hnx, ⟨hmx, hsx⟩, hbx⟩
          have HW5 := Lib.hid (HBC.out.trans (hbx.mono HBC.out.size))
          have HBb := Lib.hid (HBb.out.below hbx)
          have HX5 := Lib.hid (And.intro hnx (And.intro hqx (And.intro hax (And.intro hmx hsx))))
          clear hqx hax hnx hmx hsx hbx
          go_simp
          have HDW := Lib.hid (HD1.out w5 HW5.out)
          refine hK.out _ _ (fun _ => HDW.out) ?_
          clear hK
          refine takeL (d := some 24) (i := 6) (v := ?v6o5) rfl rfl (by kernel_rfl) (by kernel_rfl) (by kernel_rfl) (fun _ _ _ h => h) rfl (by kernel_rfl) (Or.inl ⟨by rfl, ?y6o5⟩) HDW.out ?r6o5
          case y6o5 =>
            intro w hSw
            try dsimp only at hSw
            go_simp
            all_goals with_reducible rfl
          try simp only [Act.put, List.setIfInBounds_toArray, List.set_cons_zero, List.set_cons_succ]
          refine takeL (d := some 31) (i := 7) (v := ?v7o5) rfl rfl (by kernel_rfl) (by kernel_rfl) (by kernel_rfl) (fun _ _ _ h => h) rfl (by kernel_rfl) (Or.inl ⟨by rfl, ?y7o5⟩) HDW.out ?r7o5
          case y7o5 =>
            intro w hSw
            try dsimp only at hSw
            go_simp
            all_goals with_reducible rfl
          try simp only [Act.put, List.setIfInBounds_toArray, List.set_cons_zero, List.set_cons_succ]
          refine takeL (d := some 32) (i := 8) (v := ?v8o5) rfl rfl (by kernel_rfl) (by kernel_rfl) (by kernel_rfl) (fun _ _ _ h => h) rfl (by kernel_rfl) (Or.inl ⟨by rfl, ?y8o5⟩) HDW.out ?r8o5
          case y8o5 =>
            intro w hSw
            try dsimp only at hSw
            go_simp
            all_goals with_reducible rfl
          try simp only [Act.put, List.setIfInBounds_toArray, List.set_cons_zero, List.set_cons_succ]
          refine takeL (d := some 33) (i := 9) (v := ?v9o5) rfl rfl (by kernel_rfl) (by kernel_rfl) (by kernel_rfl) (fun _ _ _ h => h) rfl (by kernel_rfl) (Or.inl ⟨by rfl, ?y9o5⟩) HDW.out ?r9o5
          case y9o5 =>
            intro w hSw
            try dsimp only at hSw
            go_simp
            all_goals with_reducible rfl
          try simp only [Act.put, List.setIfInBounds_toArray, List.set_cons_zero, List.set_cons_succ]
          refine oneL (i := 10) (by kernel_rfl) rfl (fun K' hK => ?_)
          go_simp
          refine hK.out _ _ (fun _ => HD1.out _ (show Below wr.heap.size wr (w5.alloc (.cells #[.slice none 0 0, .slice none 0 0] 25)) from (HW5.out.alloc HW5.out.size _))) ?_
          clear hK
          have HW6 := Lib.hid (show wr.heap.size ≤ w5.heap.size from HW5.out.size)
          have HLT5 := Lib.hid (show wr.heap.size < w5.heap.size from HBb.out.lt)
          have HSZ5 := Lib.hid (show wr.heap.size < w5.heap.size from HLT5.out)
          have hup : Below w5.heap.size w5 (w5.alloc (.cells #[.slice none 0 0, .slice none 0 0] 25)) := (alloc_lt w5 _)
          have HBa := Lib.hid (show Box (w5.alloc (.cells #[.slice none 0 0, .slice none 0 0] 25)) (w5.heap.size) #[.slice none 0 0, .slice none 0 0] 25 from Box.new w5 _ _)
          have HBb := Lib.hid (HBb.out.below hup)
          have HXG := Lib.hid (And.intro (HX5.out.1.up hup) (And.intro HX5.out.2.1 (And.intro HX5.out.2.2.1 (And.intro HX5.out.2.2.2.1 (HX5.out.2.2.2.2.up hup)))))
          have HBG := Lib.hid (HW5.out.trans (hup.mono HW5.out.size))
          clear hup
          generalize (w5.alloc (.cells #[.slice none 0 0, .slice none 0 0] 25)) = G at *
          have HFB := Lib.hid (fill_both (xb := w5.heap.size) (pb := wr.heap.size) HBa.out HBb.out (by have h5 := HSZ5.out; omega) HXG.out.1 HXG.out.2.1 HXG.out.2.2.1 HVX.out HXG.out.2.2.2.2 HXG.out.2.2.2.1 HBG.out (by have h5 := HSZ5.out; have h6 := HW6.out; omega) (by have h5 := HSZ5.out; have h6 := HW6.out; omega))
          have HP2 := Lib.hid (box_other (b := w5.heap.size) (i := 1) (v := .slice Bx lax kx) (box_other (b := w5.heap.size) (i := 0) (v := .slice Ax lqx cx) HBb.out (by have h5 := HSZ5.out; omega)) (by have h5 := HSZ5.out; omega))
          obtain ⟨z0, z1, f0, f1⟩ := cells2 HBa.out
          have HXB := Lib.hid (show wr.heap.size ≤ w5.heap.size by have h5 := HSZ5.out; have h6 := HW6.out; omega)
          have HB12 := Lib.hid ((HBG.out.setCell (p := ⟨w5.heap.size, 0, none⟩) HXB.out (.slice Ax lqx cx)).setCell (p := ⟨w5.heap.size, 1, none⟩) HXB.out (.slice Bx lax kx))
          refine oneL (i := 12) (by kernel_rfl) rfl (fun K' hK => ?_)
          go_simp
          refine hK.out _ _ (fun _ => HD1.out _ HB12.out) ?_
          clear hK z0 z1 f0 f1
          generalize World.setCell (World.setCell G _ _) _ _ = G2 at *
          obtain ⟨y0, y1, y2, g0, g1, g2⟩ := cells3 HP2.out
          refine oneL (i := 13) (by kernel_rfl) rfl (fun K' hK => ?_)
          go_simp
          refine hK.out _ _ (fun _ => HD1.out _ HFB.out.2.2) ?_
          clear hK y0 y1 y2 g0 g1 g2
          generalize World.setCell (World.setCell (World.setCell G2 _ _) _ _) _ _ = G3 at *
          refine oneL (i := 14) (by kernel_rfl) rfl (fun K' hK => ?_)
          go_simp
          refine hK.out _ _ (fun e => by simp at e) ?_
          clear hK
          refine doneL (by kernel_rfl) ?_ _
          go_wp2_with fail
          go_meet
          exact ⟨_, _, Ax, cx, Bx, kx, lqx, lax, Dx, dx, mx, rfl, rfl, rfl, HFB.out.1, HFB.out.2.1, HFB.out.2.2, by have h5 := HSZ5.out; have h6 := HW6.out; omega, by have h5 := HSZ5.out; have h6 := HW6.out; omega⟩
        · go_simp
          refine hK.out _ _ (fun _ => HD1.out _ (show Below wr.heap.size wr ((wr.alloc (.cells #[.int .i64 0, .int .i64 0, .slice none 0 0] 28)).alloc (.cells #[.slice none 0 0, .slice none 0 0] 25)).drew from (((Below.refl wr.heap.size wr).alloc (Nat.le_refl _) _).alloc (by rw [World.size_alloc]; omega) _).drew)) ?_
          clear hK
          refine oneL (i := 5) (by kernel_rfl) rfl (fun K' hK => ?_)
          go_simp
          have HBC := Lib.hid (show Below wr.heap.size wr ((wr.alloc (.cells #[.int .i64 0, .int .i64 0, .slice none 0 0] 28)).alloc (.cells #[.slice none 0 0, .slice none 0 0] 25)).drew from (((Below.refl wr.heap.size wr).alloc (Nat.le_refl _) _).alloc (by rw [World.size_alloc]; omega) _).drew)
          have HBb := Lib.hid (show Box ((wr.alloc (.cells #[.int .i64 0, .int .i64 0, .slice none 0 0] 28)).alloc (.cells #[.slice none 0 0, .slice none 0 0] 25)).drew (wr.heap.size) #[.int .i64 0, .int .i64 0, .slice none 0 0] 28 from (Box.alloc (Box.new wr _ _) _).drew)
          have HBa := Lib.hid (show Box ((wr.alloc (.cells #[.int .i64 0, .int .i64 0, .slice none 0 0] 28)).alloc (.cells #[.slice none 0 0, .slice none 0 0] 25)).drew (wr.heap.size + 1) #[.slice none 0 0, .slice none 0 0] 25 from by
            have := Box.new (wr.alloc (.cells #[.int .i64 0, .int .i64 0, .slice none 0 0] 28)) #[.slice none 0 0, .slice none 0 0] 25
            rw [World.size_alloc] at this
            exact this.drew)
          refine (HHP.out _ HBC.out).mono ?_
          rintro e w5 ⟨Ax, cx, Bx, kx, lqx, lax, Dx, dx, mx, rfl, ⟨hqx, hax⟩, hnx, ⟨hmx, hsx⟩, hbx⟩
          have HW5 := Lib.hid (HBC.out.trans (hbx.mono HBC.out.size))
          have HBb := Lib.hid (HBb.out.below hbx)
          have HBa := Lib.hid (HBa.out.below hbx)
          have HX5 := Lib.hid (And.intro hnx (And.intro hqx (And.intro hax (And.intro hmx hsx))))
          clear hqx hax hnx hmx hsx hbx
          go_simp
          have HDW := Lib.hid (HD1.out w5 HW5.out)
          refine hK.out _ _ (fun _ => HDW.out) ?_
          clear hK
          refine takeL (d := some 24) (i := 6) (v := ?v6o6) rfl rfl (by kernel_rfl) (by kernel_rfl) (by kernel_rfl) (fun _ _ _ h => h) rfl (by kernel_rfl) (Or.inl ⟨by rfl, ?y6o6⟩) HDW.out ?r6o6
          case y6o6 =>
            intro w hSw
            try dsimp only at hSw
            go_simp
            all_goals with_reducible rfl
          try simp only [Act.put, List.setIfInBounds_toArray, List.set_cons_zero, List.set_cons_succ]
          refine takeL (d := some 31) (i := 7) (v := ?v7o6) rfl rfl (by kernel_rfl) (by kernel_rfl) (by kernel_rfl) (fun _ _ _ h => h) rfl (by kernel_rfl) (Or.inl ⟨by rfl, ?y7o6⟩) HDW.out ?r7o6
          case y7o6 =>
            intro w hSw
            try dsimp only at hSw
            go_simp
            all_goals with_reducible rfl
          try simp only [Act.put, List.setIfInBounds_toArray, List.set_cons_zero, List.set_cons_succ]
          refine takeL (d := some 32) (i := 8) (v := ?v8o6) rfl rfl (by kernel_rfl) (by kernel_rfl) (by kernel_rfl) (fun _ _ _ h => h) rfl (by kernel_rfl) (Or.inl ⟨by rfl, ?y8o6⟩) HDW.out ?r8o6
          case y8o6 =>
            intro w hSw
            try dsimp only at hSw
            go_simp
            all_goals with_reducible rfl
          try simp only [Act.put, List.setIfInBounds_toArray, List.set_cons_zero, List.set_cons_succ]
          refine takeL (d := some 33) (i := 9) (v := ?v9o6) rfl rfl (by kernel_rfl) (by kernel_rfl) (by kernel_rfl) (fun _ _ _ h => h) rfl (by kernel_rfl) (Or.inl ⟨by rfl, ?y9o6⟩) HDW.out ?r9o6
          case y9o6 =>
            intro w hSw
            try dsimp only at hSw
            go_simp
            all_goals with_reducible rfl
          try simp only [Act.put, List.setIfInBounds_toArray, List.set_cons_zero, List.set_cons_succ]
          have HW6 := Lib.hid (show wr.heap.size ≤ w5.heap.size from HW5.out.size)
          have HSZ5 := Lib.hid (show True from trivial)
          have HXG := HX5
          have HBG := HW5
          obtain ⟨G, rfl⟩ : ∃ G, G = w5 := ⟨_, rfl⟩
          have HFB := Lib.hid (fill_both (xb := wr.heap.size + 1) (pb := wr.heap.size) HBa.out HBb.out (by have h5 := HSZ5.out; omega) HXG.out.1 HXG.out.2.1 HXG.out.2.2.1 HVX.out HXG.out.2.2.2.2 HXG.out.2.2.2.1 HBG.out (by have h5 := HSZ5.out; have h6 := HW6.out; omega) (by have h5 := HSZ5.out; have h6 := HW6.out; omega))
          have HP2 := Lib.hid (box_other (b := wr.heap.size + 1) (i := 1) (v := .slice Bx lax kx) (box_other (b := wr.heap.size + 1) (i := 0) (v := .slice Ax lqx cx) HBb.out (by have h5 := HSZ5.out; omega)) (by have h5 := HSZ5.out; omega))
          obtain ⟨z0, z1, f0, f1⟩ := cells2 HBa.out
          have HXB := Lib.hid (show wr.heap.size ≤ wr.heap.size + 1 by have h5 := HSZ5.out; have h6 := HW6.out; omega)
          have HB12 := Lib.hid ((HBG.out.setCell (p := ⟨wr.heap.size + 1, 0, none⟩) HXB.out (.slice Ax lqx cx)).setCell (p := ⟨wr.heap.size + 1, 1, none⟩) HXB.out (.slice Bx lax kx))
          refine oneL (i := 12) (by kernel_rfl) rfl (fun K' hK => ?_)
          go_simp
          refine hK.out _ _ (fun _ => HD1.out _ HB12.out) ?_
          clear hK z0 z1 f0 f1
          generalize World.setCell (World.setCell G _ _) _ _ = G2 at *
          obtain ⟨y0, y1, y2, g0, g1, g2⟩ := cells3 HP2.out
          refine oneL (i := 13) (by kernel_rfl) rfl (fun K' hK => ?_)
          go_simp
          refine hK.out _ _ (fun _ => HD1.out _ HFB.out.2.2) ?_
          clear hK y0 y1 y2 g0 g1 g2
          generalize World.setCell (World.setCell (World.setCell G2 _ _) _ _) _ _ = G3 at *
          refine oneL (i := 14) (by kernel_rfl) rfl (fun K' hK => ?_)
          go_simp
          refine hK.out _ _ (fun e => by simp at e) ?_
          clear hK
          refine doneL (by kernel_rfl) ?_ _
          go_wp2_with fail
          go_meet
          exact ⟨_, _, Ax, cx, Bx, kx, lqx, lax, Dx, dx, mx, rfl, rfl, rfl, HFB.out.1, HFB.out.2.1, HFB.out.2.2, by have h5 := HSZ5.out; have h6 := HW6.out; omega, by have h5 := HSZ5.out; have h6 := HW6.out; omega⟩
    obtain ⟨wx, rfl⟩ : ∃ z, z = wc := ⟨_, rfl⟩
    obtain ⟨xb, pb, Ax, cx, Bx, kx, lqx, lax, Dx, dx, mx, rfl, rfl, rfl, hNX, hPX, hbX, hx1, hx2⟩ := hcut
    have HN := Lib.hid (HN.out.up hbX)
    have HR := Lib.hid (HR.out.up hbX)
    have HB := Lib.hid (HB.out.trans (hbX.mono HB.out.size))
    have HSX := Lib.hid (And.intro (Nat.le_trans HSZ.out hbX.size) (And.intro (Nat.le_trans HSZ.out hx1) (Nat.le_trans HSZ.out hx2)))
    have HX := Lib.hid hNX
    have HP := Lib.hid hPX
    clear hNX hPX hbX hx1 hx2 xn0 xn1 q0 q1 q2 q3 q4 HHP HSZ hd1
    by_cases h0 : er = 0
    case neg =>
      have hnt : x = nt0 := by rw [← HEQ.out.1]; exact hx_err (by rw [HEQ.out.2.2]; exact h0)
      rw [hnt] at HX
      obtain rfl : 0 = lqx := HX.out.hq
      obtain rfl : 0 = lax := HX.out.ha
      have hd2 : decide (er = 0) = false := decide_eq_false h0
      have HCK := Lib.hid (show Calls Try.prog 13 #[.agg #[.slice A lq c, .slice B la k]] wx (IntPost 0 wx) from by have := check_v HN.out; rw [chk_t HI.out.2.2.2.1] at this; exact this)
      have HSM := Lib.hid (fun V (hb : Below wx.heap.size wx V) => same_e (HX.out.inn.up hb))
      unfold IntPost at HCK
      unfold BoolPost at HSM
      clear hnt
      obtain ⟨xn0, xn1⟩ := HN.out.cells
      obtain ⟨xx0, xx1⟩ := HX.out.cells
      go_wp2_with fail
      refine HCK.out.mono ?_
      rintro e wc ⟨rfl, hbc⟩
      have yx0 := (hbc.cell (p := ⟨xb, 0, none⟩) (World.block_lt_of_cell? _ _ xx0)).trans xx0
      have yx1 := (hbc.cell (p := ⟨xb, 1, none⟩) (World.block_lt_of_cell? _ _ xx1)).trans xx1
      have HBC := Lib.hid hbc
      clear xn0 xn1 xx0 xx1 hbc HCK
      go_wp2_with fail
      refine (HSM.out _ HBC.out).mono ?_
      rintro e wd ⟨rfl, hbd⟩
      have HBD := Lib.hid (HBC.out.trans (hbd.mono HBC.out.size))
      clear yx0 yx1 hbd HBC HSM
      go_wp2_with fail
      go_roundw
      case rel => exact ⟨j + 1, cc, n, s, by omega, by go_num, rfl, ⟨by have := HI.out.1; omega, by have := HI.out.2.1; omega, by have := HI.out.2.2.1; omega, HI.out.2.2.2⟩, HR.out.up HBD.out, ⟨A, c, B, k, lq, la, HN.out.up HBD.out⟩, HB.out.trans (HBD.out.mono HB.out.size), Nat.le_trans HSX.out.1 HBD.out.size⟩
      case measure => simp [intOf]; omega
    subst h0
    have HE0 := Lib.hid HEQ.out.2.2
    have hq3 := hx_q HI.out.2.2.2.1 HE0.out
    rw [HEQ.out.1] at hq3
    have HQ3 := Lib.hid hq3
    clear hq3
    have hkq : wx.cell? ⟨bA, oA + j * 5, none⟩ = some (.int .u8 (m0 : Int)) := by
      obtain ⟨b', o', e', hb', hat⟩ := HS.out.1 (by have := HL.out; omega)
      cases e'
      have := (HB.out.cell (p := ⟨bA, oA + j * 5, none⟩) hb').trans (hat j m HMJ.out.1 0 (bv m.k) rfl)
      unfold bv at this
      rw [HMK.out] at this
      exact this
    have hm256 : m0 < 256 := by rw [← HMK.out]; exact m.k.toNat_lt
    obtain ⟨r6, hr6⟩ : ∃ r, m0 % 6 = r := ⟨_, rfl⟩
    have hr6l : r6 < 6 := by omega
    have hmod : ((m0 : Int) % 6) = (r6 : Int) := by omega
    have hmodt : ((m0 : Int).tmod 6) = (r6 : Int) := by rw [Int.tmod_eq_emod_of_nonneg (by omega)]; exact hmod
    have HR6 := Lib.hid (show m.k.toNat % 6 = r6 by rw [HMK.out]; exact hr6)
    clear hr6
    go_upto_block 2 with fail
    have HF0 := Lib.hid (show True from trivial)
    go_cut [4, 5] from 45 to 97 (fun t4 t5 w2 => ∃ (s' : List Pk) (cc' : Nat), t5 = .int .i64 (cc' : Int) ∧ (cc' ≤ j + 1 ∧ s'.length ≤ j + 1 ∧ (∀ q ∈ x.q, q ∈ s') ∧ (cc' = 0 → x.ap = [])) ∧ RowP w2 W1.heap.size t4 s' ∧ NV w2 nb n A c B k lq la ∧ NV w2 xb x Ax cx Bx kx lqx lax ∧ Below w.heap.size w w2 ∧ W1.heap.size ≤ w2.heap.size)
    case first =>
      have h6 : r6 = 0 ∨ r6 = 1 ∨ r6 = 4 ∨ r6 = 2 ∨ r6 = 3 ∨ r6 = 5 := by omega
      rcases h6 with rfl | rfl | rfl | rfl | rfl | rfl
      case inl =>
        have hxs : x.q = n.q ++ [mpk m] := by
          have h1 := hx_send HR6.out HE0.out
          rw [HEQ.out.1] at h1
          rw [h1]; rfl
        have hln : lqx = lq + 1 := by rw [← HX.out.hq, ← HN.out.hq, hxs, List.length_append]; rfl
        have hxj : x.q[lq]? = some (mpk m) := by
          rw [hxs, ← HN.out.hq, List.getElem?_append_right (Nat.le_refl _), Nat.sub_self]; rfl
        obtain ⟨bQ, oQ, D, d, hAx, hbQ, y0, y1, y2, y3⟩ := HX.out.inn.1.at_ hxj
        subst hAx
        obtain ⟨dm, hdm⟩ : ∃ z, (mpk m).da.length = z := ⟨_, rfl⟩
        rw [hdm] at y2
        obtain ⟨pm, hpm⟩ : ∃ z, mpk m = z := ⟨_, rfl⟩
        rw [hpm] at y0 y1 y3 hdm hxs
        have hlq60 : lq ≤ 60 := by have h1 := HI.out.2.2.1; have h2 := HN.out.hq; omega
        have hz0 : decide ((lqx : Int) = 0) = false := decide_eq_false (by omega)
        have hz1 : (lqx : Int) - 1 = (lq : Int) := by omega
        have hz2 : (lq : Int) < (lqx : Int) := by omega
        have hz3 : (0 : Int) ≤ (lq : Int) := by omega
        have HPM := Lib.hid (And.intro hdm (And.intro y3 (And.intro hxs hpm)))
        have HLB := Lib.hid (Box.new wx #[.int .i64 pm.fr, .int .i64 pm.to, .slice D dm d] 28)
        have HAL := Lib.hid (alloc_lt wx (.cells #[.int .i64 pm.fr, .int .i64 pm.to, .slice D dm d] 28))
        have HRA := Lib.hid (HR.out.up HAL.out)
        have HNA := Lib.hid (HN.out.up HAL.out)
        have HXA := Lib.hid (HX.out.up HAL.out)
        have HBA := Lib.hid (HB.out.trans (HAL.out.mono HB.out.size))
        have HSA := Lib.hid (Nat.le_trans HSX.out.1 HAL.out.size)
        have HYA := Lib.hid (y3.up HAL.out)
        have HVX2 := HVX
        clear hln hxj hbQ y3 hpm hdm hxs
        obtain ⟨xx0, xx1⟩ := HX.out.cells
        go_wp2_with (refine wpList_append_wq rfl (.tmp 57) (.tmp 66) rfl W1.heap.size u4 s rfl HRA.out wx.heap.size pm D d dm HPM.out.1 rfl HLB.out HYA.out HSA.out (by have := HI.out.2.1; omega) ?_; intro v' w7 hr7 hk7 hx7 hb7; have HR7 := Lib.hid hr7; have HN7 := Lib.hid (show NV w7 nb n A c B k lq la from ⟨HNA.out.box.belowo hb7 HNB.out.1, hk7 _ _ _ _ _ HI.out.2.2.2.1 HNA.out.inn, HNA.out.hq, HNA.out.ha⟩); have HX7 := Lib.hid (show NV w7 xb x (some ⟨bQ, oQ, none⟩) cx Bx kx lqx lax from ⟨hx7 _ _ _ (by simp) (onlyS2 _ _ _ _ _ _) HXA.out.box, hk7 _ _ _ _ _ HVX.out HXA.out.inn, HXA.out.hq, HXA.out.ha⟩); have HB7 := Lib.hid (HBA.out.trans (hb7.mono (Nat.le_trans HNB.out.2 (Nat.le_of_lt HNB.out.1)))); have HS7 := Lib.hid (Nat.le_trans HSA.out hb7.size); clear hr7 hk7 hx7 hb7 xx0 xx1 y0 y1 y2)
        go_meet
        exact ⟨s ++ [pm], cc, rfl, ⟨by have := HI.out.1; omega, by rw [List.length_append]; have := HI.out.2.1; show s.length + 1 ≤ j + 1; omega, fun q hq => by
          rcases HQ3.out.1 q hq with h | ⟨_, h⟩
          · exact List.mem_append_left _ (HI.out.2.2.2.2.1 q h)
          · rw [h, HPM.out.2.2.2]; exact List.mem_append_right _ (List.mem_singleton.2 rfl), fun h => HQ3.out.2.2 (by rw [HR6.out]; decide) (HI.out.2.2.2.2.2 h)⟩, HR7.out, HN7.out, HX7.out, HB7.out, HS7.out⟩
      case inr.inl =>
        obtain ⟨b0, hb0⟩ : ∃ b, (spk p pk0 && decide (0 < cc)) = b := ⟨_, rfl⟩
        have HMET := Lib.hid (show p ∈ s ∨ b0 = true from by
          have h1 := hp_in HR6.out HE0.out
          rw [HEQ.out.2.1] at h1
          rcases h1 with h1 | ⟨h1, h2⟩
          · exact .inl (HI.out.2.2.2.2.1 p h1)
          · refine .inr ?_
            have h3 : cc ≠ 0 := fun h => h2 (HI.out.2.2.2.2.2 h)
            rw [← hb0, h1, spk_refl, Bool.true_and]
            exact decide_eq_true (by omega))
        have HB0 := Lib.hid hb0
        clear hb0
        have HSP := Lib.hid (samep_0 HP.out)
        unfold BoolPost at HSP
        obtain ⟨xp0, xp1, xp2⟩ := HP.out.cells
        go_upto_region 21 with fail
        go_cut [10] from 70 to 76 (fun t w2 => t = .bool b0 ∧ Below wx.heap.size wx w2)
        case first =>
          rcases Bool.eq_false_or_eq_true (spk p pk0) with hs | hs
          · rw [hs] at HSP HB0
            by_cases hc0 : 0 < cc
            · have hdc : decide ((0 : Int) < (cc : Int)) = true := decide_eq_true (by omega)
              have HC0 := Lib.hid hc0
              clear hc0 hs
              go_wp2_with fail
              refine HSP.out.mono ?_
              rintro e wv ⟨rfl, hbv⟩
              have HV := Lib.hid hbv
              clear hbv
              go_wp2_with fail
              go_meet
              exact ⟨congrArg Value.bool (by rw [← HB0.out]; simp [HC0.out]), HV.out⟩
            · have hdc : decide ((0 : Int) < (cc : Int)) = false := decide_eq_false (by omega)
              have HC0 := Lib.hid hc0
              clear hc0 hs
              go_wp2_with fail
              refine HSP.out.mono ?_
              rintro e wv ⟨rfl, hbv⟩
              have HV := Lib.hid hbv
              clear hbv
              go_wp2_with fail
              go_meet
              exact ⟨congrArg Value.bool (by rw [← HB0.out]; simp [HC0.out]), HV.out⟩
          · rw [hs] at HSP HB0
            clear hs
            go_wp2_with fail
            refine HSP.out.mono ?_
            rintro e wv ⟨rfl, hbv⟩
            have HV := Lib.hid hbv
            clear hbv
            go_wp2_with fail
            go_meet
            exact ⟨congrArg Value.bool (by rw [← HB0.out]; rfl), HV.out⟩
        obtain ⟨rfl, hbv⟩ := hcut
        have HV := Lib.hid hbv
        clear hbv xp0 xp1 xp2 HSP HB0
        obtain ⟨Ar, cr, hv0, hq0⟩ := HR.out.qq
        obtain ⟨S, hS⟩ : ∃ S, s.length = S := ⟨_, rfl⟩
        rw [hS] at hv0
        subst hv0
        have HSS := Lib.hid (And.intro hS hq0)
        have hS60 : S ≤ 60 := by have := HI.out.2.1; omega
        clear hS hq0
        go_wp2_with fail
        go_loopw [10, 11] (fun t k w2 => ∃ kk : Nat, kk ≤ S ∧ k = .int .i64 (kk : Int) ∧ t = .bool (metk b0 s p kk) ∧ Below wx.heap.size wx w2) (fun _ k _ => S - (intOf k).toNat)
        case atStart => exact ⟨0, Nat.zero_le _, rfl, by unfold metk; simp, HV.out⟩
        case round =>
          obtain ⟨w2, rfl⟩ : ∃ z, z = wr := ⟨_, rfl⟩
          obtain ⟨kk, hkk, rfl, rfl, hb2⟩ := hrel
          have HV2 := Lib.hid hb2
          clear hb2 HV
          by_cases hks : kk < S
          case neg =>
            have hmt : metk b0 s p kk = true := by
              obtain rfl : kk = S := by omega
              rw [← HSS.out.1]
              exact metk_all HMET.out
            rw [hmt]
            have hdk : decide ((kk : Int) < (S : Int)) = false := decide_eq_false (by omega)
            clear hmt
            go_wp2_with fail
            go_meet
            exact ⟨s, cc, rfl, ⟨by have := HI.out.1; omega, by have := HI.out.2.1; omega, fun q hq => by
              rcases HQ3.out.1 q hq with h | ⟨h, _⟩
              · exact HI.out.2.2.2.2.1 q h
              · rw [HR6.out] at h; exact absurd h (by decide), fun h => HQ3.out.2.2 (by rw [HR6.out]; decide) (HI.out.2.2.2.2.2 h)⟩, HR.out.up HV2.out, HN.out.up HV2.out, HX.out.up HV2.out, HB.out.trans (HV2.out.mono HB.out.size), Nat.le_trans HSX.out.1 HV2.out.size⟩
          have hdk : decide ((kk : Int) < (S : Int)) = true := decide_eq_true (by omega)
          have hk0 : (0 : Int) ≤ (kk : Int) := by omega
          have hkS : (kk : Int) < (S : Int) := by omega
          obtain ⟨q, hq⟩ : ∃ q, s[kk]? = some q := ⟨_, List.getElem?_eq_getElem (by have := HSS.out.1; omega)⟩
          obtain ⟨bR, oR, Dq, dq, hAr, hbR, z0, z1, z2, z3⟩ := HSS.out.2.at_ hq
          subst hAr
          have HM1 := Lib.hid (metk_one (b0 := b0) (p := p) hq)
          obtain ⟨mq, hmq⟩ : ∃ z, q.da.length = z := ⟨_, rfl⟩
          rw [hmq] at z2
          obtain ⟨sq, hsq⟩ : ∃ b, spk q p = b := ⟨_, rfl⟩
          have HSP := Lib.hid (fun V (hb : Below wx.heap.size wx V) => show Calls Try.prog 22 #[.agg #[.int .i64 q.fr, .int .i64 q.to, .slice Dq mq dq], .agg #[.int .i64 p.fr, .int .i64 p.to, .slice Dx mx dx]] V (BoolPost sq V) from hsq ▸ samep_r (z3.up hb) hmq (HP.out.up hb))
          unfold BoolPost at HSP
          obtain ⟨xp0, xp1, xp2⟩ := HP.out.cells
          have HK := Lib.hid (fun V (hb : Below wx.heap.size wx V) => show (fun w' => w'.cell? ⟨bR, oR + kk * 3, none⟩ = some (.int .i64 q.fr) ∧ w'.cell? ⟨bR, oR + kk * 3 + 1, none⟩ = some (.int .i64 q.to) ∧ w'.cell? ⟨bR, oR + kk * 3 + 2, none⟩ = some (.slice Dq mq dq) ∧ w'.cell? ⟨pb, 0, none⟩ = some (.int .i64 p.fr) ∧ w'.cell? ⟨pb, 1, none⟩ = some (.int .i64 p.to) ∧ w'.cell? ⟨pb, 2, none⟩ = some (.slice Dx mx dx)) V from
            ⟨(hb.cell (p := ⟨bR, oR + kk * 3, none⟩) (World.block_lt_of_cell? _ _ z0)).trans z0, (hb.cell (p := ⟨bR, oR + kk * 3 + 1, none⟩) (World.block_lt_of_cell? _ _ z1)).trans z1, (hb.cell (p := ⟨bR, oR + kk * 3 + 2, none⟩) (World.block_lt_of_cell? _ _ z2)).trans z2, (hb.cell (p := ⟨pb, 0, none⟩) (World.block_lt_of_cell? _ _ xp0)).trans xp0, (hb.cell (p := ⟨pb, 1, none⟩) (World.block_lt_of_cell? _ _ xp1)).trans xp1, (hb.cell (p := ⟨pb, 2, none⟩) (World.block_lt_of_cell? _ _ xp2)).trans xp2⟩)
          rw [hsq] at HM1
          clear hq hbR z0 z1 z2 z3 xp0 xp1 xp2 hmq hsq
          have HD2 := Lib.hid (show Below wx.heap.size wx w2.drew from HV2.out.drew)
          obtain ⟨mt, hmt⟩ : ∃ b, metk b0 s p kk = b := ⟨_, rfl⟩
          rw [hmt] at HM1 ⊢
          clear hmt
          go_upto_region 25 with fail
          cases mt
          case true =>
            go_quiet (fail)
            all_goals
              clear HK HSP
              go_wp2_with fail
              go_roundw
              case rel => exact ⟨kk + 1, by omega, by go_num, congrArg Value.bool (by rw [HM1.out]; simp), HV2.out.trans ((below_drewN w2 nq).mono HV2.out.size)⟩
              case measure => simp [intOf]; omega
          case false =>
            go_region_held3 (fun w' => w'.cell? ⟨bR, oR + kk * 3, none⟩ = some (.int .i64 q.fr) ∧ w'.cell? ⟨bR, oR + kk * 3 + 1, none⟩ = some (.int .i64 q.to) ∧ w'.cell? ⟨bR, oR + kk * 3 + 2, none⟩ = some (.slice Dq mq dq) ∧ w'.cell? ⟨pb, 0, none⟩ = some (.int .i64 p.fr) ∧ w'.cell? ⟨pb, 1, none⟩ = some (.int .i64 p.to) ∧ w'.cell? ⟨pb, 2, none⟩ = some (.slice Dx mx dx))
              (with_reducible first | exact HK.out _ HD2.out | fail)
              (first
                | (go_at_call 22; ((with_reducible refine (HSP.out _ HD2.out).mono ?_); rintro e wv ⟨rfl, hbv⟩; replace HD2 := Lib.hid (HD2.out.trans (hbv.mono HD2.out.size)); clear hbv))
                | fail)
            all_goals
              clear HK HSP
              go_wp2_with fail
              go_roundw
              case rel => exact ⟨_, _, _, _, _, _, _, _, _, _, _, _, _, _, _, _, _, ⟨kk + 1, by omega, by go_num, congrArg Value.bool (by rw [HM1.out]; simp), HD2.out⟩, rfl⟩
              case measure => simp [intOf]; omega
      case inr.inr.inl =>
        have hcc : cc ≤ 60 := by have := HI.out.1; omega
        go_wp2_with fail
        go_meet
        exact ⟨s, cc + 1, by go_num, ⟨by have := HI.out.1; omega, by have := HI.out.2.1; omega, fun q hq => by
          rcases HQ3.out.1 q hq with h | ⟨h, _⟩
          · exact HI.out.2.2.2.2.1 q h
          · rw [HR6.out] at h; exact absurd h (by decide), fun h => by cases h⟩, HR.out, HN.out, HX.out, HB.out, HSX.out.1⟩
      all_goals
        go_wp2_with fail
        go_meet
        exact ⟨s, cc, rfl, ⟨by have := HI.out.1; omega, by have := HI.out.2.1; omega, fun q hq => by
          rcases HQ3.out.1 q hq with h | ⟨h, _⟩
          · exact HI.out.2.2.2.2.1 q h
          · rw [HR6.out] at h; exact absurd h (by decide), fun h => HQ3.out.2.2 (by rw [HR6.out]; decide) (HI.out.2.2.2.2.2 h)⟩, HR.out, HN.out, HX.out, HB.out, HSX.out.1⟩
    obtain ⟨wz, rfl⟩ : ∃ z, z = wc := ⟨_, rfl⟩
    obtain ⟨s', cc', rfl, hI', hR', hN', hX', hB', hS'⟩ := hcut
    have HI2 := Lib.hid hI'
    have HR2 := Lib.hid hR'
    have HN2 := Lib.hid hN'
    have HX2 := Lib.hid hX'
    have HB2 := Lib.hid hB'
    have HS2 := Lib.hid hS'
    clear hI' hR' hN' hX' hB' hS' HN HR HB HX HP HSX hkq
    obtain ⟨xx0, xx1⟩ := HX2.out.cells
    obtain ⟨xn0, xn1⟩ := HN2.out.cells
    obtain ⟨fn0, fn1⟩ := HN2.out.frozen
    have HNN := Lib.hid (NV.puto HN2.out HX2.out.inn HX2.out.hq HX2.out.ha)
    have HRR := Lib.hid ((HR2.out.off HN2.out.box (onlyS2 _ _ _ _ _ _) HNB.out.1 0 (.slice Ax lqx cx)).off (HN2.out.box.set (i := 0) (v := .slice Ax lqx cx)) (OnlyS.set (onlyS2 _ _ _ _ _ _) 0 _ _ _) HNB.out.1 1 (.slice Bx lax kx))
    have HBB := Lib.hid ((HB2.out.setCell (p := ⟨nb, 0, none⟩) HNB.out.2 (.slice Ax lqx cx)).setCell (p := ⟨nb, 1, none⟩) HNB.out.2 (.slice Bx lax kx))
    have HSS := Lib.hid (show W1.heap.size ≤ ((wz.setCell ⟨nb, 0, none⟩ (.slice Ax lqx cx)).setCell ⟨nb, 1, none⟩ (.slice Bx lax kx)).heap.size from Nat.le_trans HS2.out (Nat.le_trans (set_grown_at wz nb 0 (.slice Ax lqx cx)).size (set_grown_at _ nb 1 (.slice Bx lax kx)).size))
    go_upto_region 31 with fail
    clear xx0 xx1 xn0 xn1 fn0 fn1 HX2 HN2 HR2 HB2 HS2
    generalize World.setCell (World.setCell wz _ _) _ _ = W6 at *
    have HCK := Lib.hid (show Calls Try.prog 13 #[.agg #[.slice Ax lqx cx, .slice Bx lax kx]] W6 (IntPost 0 W6) from by have := check_v HNN.out; rw [chk_t HVX.out] at this; exact this)
    unfold IntPost at HCK
    obtain ⟨nn0, nn1⟩ := HNN.out.cells
    go_wp2_with fail
    refine HCK.out.mono ?_
    rintro e wd ⟨rfl, hbd⟩
    have HBD := Lib.hid hbd
    clear nn0 nn1 hbd HCK
    go_wp2_with fail
    go_roundw
    case rel => exact ⟨j + 1, cc', x, s', by omega, by go_num, rfl, ⟨HI2.out.1, HI2.out.2.1, by have h1 := HQ3.out.2.1; have h2 := HI.out.2.2.1; omega, HVX.out, HI2.out.2.2.1, HI2.out.2.2.2⟩, HRR.out.up HBD.out, ⟨Ax, cx, Bx, kx, lqx, lax, HNN.out.up HBD.out⟩, HBB.out.trans (HBD.out.mono HBB.out.size), Nat.le_trans HSS.out HBD.out.size⟩
    case measure => simp [intOf]; omega
end Go.Proofs.Ytojijebmipgeeaa
