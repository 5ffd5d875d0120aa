/- The reference's Closure. -/
import Derived.Test.YtobchecnfkocdaaRVa
import Derived.Test.YtobchecnfkocdaaIns
import Derived.Test.YtobchecnfkocdaaRId
import Derived.Test.YtobchecnfkocdaaPgR
import Derived.Test.YtobchecnfkocdaaSane
namespace Go.Proofs.Ytobchecnfkocdaa
open Go.RowKit
set_option linter.unusedVariables false
set_option linter.unusedSimpArgs false

theorem big_list {n : Nat} {a ls : List (List Nat)} (hl : ∀ p, p ∈ ls ↔ Gen n a p) (h4 : ls.length ≤ 4096) : ¬ Big n a := by
  rintro ⟨M, m1, m2, m3⟩
  have := nd_sub M ls m1 (fun x hx => (hl x).2 (m3 x hx))
  omega
/-- What a closure's answer is, in one form. -/
def ResQ (N : Nat) (gs ls : List (List Nat)) (e1 : Int) : Prop := (Big N gs ∧ e1 = 2 ∧ ls = []) ∨ (e1 = 0 ∧ Srt (ls.map ints) ∧ (∀ p, p ∈ ls ↔ Gen N gs p) ∧ ls.length ≤ 4096)
def ResP (w : World) (e : Ending) (w' : World) (X : List (List Nat) → Int → Prop) : Prop :=
  ∃ (A : Option Addr) (m c : Nat) (ls : List (List Nat)) (e1 : Int), e = .returned (.tuple #[.slice A m c, .int .i64 e1]) ∧ RI w' A (ls.map ints) c ∧ ls.length = m ∧ m ≤ 4096 ∧ X ls e1 ∧ Below w.heap.size w w'
theorem cq_res {N : Nat} {gs : List (List Nat)} {w w' : World} {e : Ending} (h : ClQ N gs w e w') : ResP w e w' (ResQ N gs) := by
  rcases h with ⟨hb, rfl, h1⟩ | ⟨A, m, c, ls, rfl, hol, hs, hm, hl, h1⟩
  · exact ⟨none, 0, 0, [], 2, rfl, RI.nil w', rfl, by omega, .inl ⟨hb, rfl, rfl⟩, h1⟩
  · have hml : ls.length = m := by have := hol.1; rwa [List.length_map] at this
    exact ⟨A, m, c, ls, 0, rfl, hol.ri, hml, by omega, .inr ⟨rfl, hs, hm, hl⟩, h1⟩
theorem product_pt {a b : List Nat} {N c d : Nat} {A B : Option Addr} {V : World} (ha : Pm N a) (hb : Pm N b) (hN : N ≤ 256) (hA : Si V A (ints a) c) (hB : Si V B (ints b) d) :
    Calls Try.prog 28 #[.slice A N c, .slice B N d] V (fun e w' => ∃ C k, e = .returned (.slice C N k) ∧ Si w' C (ints (mu a b)) k ∧ Tb w' C ∧ Below V.heap.size V w') := by
  have h := product_tb A c (ints a) B d (ints b) V hA hB (fun x hx => by
    obtain ⟨y, hy, rfl⟩ := List.mem_map.1 hx
    have := hb.2.1 y hy
    rw [ints_length, ha.1]
    omega) (by rw [ints_length, hb.1]; omega)
  rw [cmi_ints, ints_length, ints_length, ha.1, hb.1] at h
  refine h.mono ?_
  rintro e w' ⟨C, k, rfl, h1, h2, h3⟩
  exact ⟨C, k, by rw [ints_length, mu_length, hb.1], h1, h2, h3⟩
theorem om_some2 {B n c : Nat} {w : World} {A : Option Addr} {ls : List (List Int)} (h : OM B w A n c ls) {g : Nat} (e : A = some ⟨g, 0, none⟩) : g < w.heap.size ∧ (Value.slice A n c).ownBlock = some g := by
  obtain ⟨_, vs, h1, _⟩ := h
  subst e
  exact ⟨(h1.lt g rfl).2, rfl⟩
theorem om_apart2 {B n c n2 c2 g : Nat} {w : World} {A A2 : Option Addr} {ls ls2 : List (List Int)} (h : OM B w A n c ls) (h2 : OM B w A2 n2 c2 ls2) (hne : ∀ g, A = some ⟨g, 0, none⟩ → A2 ≠ some ⟨g, 0, none⟩) (hat : (Value.slice A n c).ownBlock = some g ∨ g = w.heap.size) : A2 ≠ some ⟨g, 0, none⟩ := by
  intro e
  rcases hat with h3 | h3
  · obtain ⟨_, vs, h1, _⟩ := h
    rcases h1.2 with ⟨hv, _⟩ | ⟨g', cap, cur, hv, _⟩
    · rw [hv] at h3
      cases h3
    · injection hv with hA _ _
      subst hA
      injection h3 with h3
      have h3 : g' = g := h3
      subst h3
      exact hne g' rfl e
  · have := (om_some2 h2 e).1
    omega
theorem wpList_append_om2 {B : Nat} {w : World} {ops : Array Oper} {rest : List Oper} {o : Oper} {a : Act} {Q : Exit → Act → World → Prop} (hgd : o.guard = none) (s x : Operand)
    (ho : o.op = .call { callee := .builtin .append, args := #[s, x], argTypes := #[31, 31] })
    (A : Option Addr) (n c : Nat) (ls : List (List Int)) (hs : a.eval s = .slice A n c) (hO : OM B w A n c ls) (q m : Nat) (ns : List (List Int)) (us : List Value) (hm : us.length = m) (hm0 : 0 < m) (hx : a.eval x = .slice (some ⟨q, 0, none⟩) m m) (hq : Box w q us.toArray 22)
    (hnl : ns.length = m) (hns : ∀ (i : Nat) (l : List Int), ns[i]? = some l → ∃ A' c', us[i]? = some (.slice A' l.length c') ∧ Si w A' l c' ∧ Tc B w A' l.length) (hone : ∀ u ∈ us, u.oneCell' = true) (hn : n + m ≤ 900000) (hbase : B ≤ w.heap.size)
    (h : ∀ g c' w', OM B w' (some ⟨g, 0, none⟩) (n + m) c' (ls ++ ns) → Below B w w' → w.grownBy w' (Value.slice A n c).ownBlock → ((Value.slice A n c).ownBlock = some g ∨ g = w.heap.size) → wpList Try.prog ops Q rest (a.put o.dst (.slice (some ⟨g, 0, none⟩) (n + m) c')) w') :
    wpList Try.prog ops Q (o :: rest) a w := by
  refine wpList_plain hgd fun K hK => ?_
  exact wp_append_om s x ho A n c ls hs hO q m ns us hm hm0 hx hq hnl hns hone hn hbase (fun g c' w' h1 h2 h3 h4 => hK _ _ (h g c' w' h1 h2 h3 h4))
/-- What the loops keep. -/
def RcR (B N : Nat) (gs : List (List Nat)) (w : World) (i k d : Nat) (v7 v8 : Value) (wr : World) : Prop :=
  ∃ (ls ts : List (List Nat)) (g7 f c7 g8 c8 : Nat), v7 = .slice (some ⟨g7, 0, none⟩) f c7 ∧ v8 = .slice (some ⟨g8, 0, none⟩) f c8 ∧ OM B wr (some ⟨g7, 0, none⟩) f c7 (ls.map ints) ∧ OM B wr (some ⟨g8, 0, none⟩) f c8 (ts.map ints) ∧ g7 ≠ g8 ∧
    RcS N gs ls ts i ∧ i + d ≤ f ∧ f ≤ 4096 ∧ (∀ k' g p, k' < k → gs[k']? = some g → ts[i]? = some p → mu g p ∈ ls) ∧ Below B w wr
def RcP (n : Int) (gens : List (List Int)) (w : World) (e : Ending) (w' : World) : Prop :=
  (cge n gens ≠ 0 ∧ e = .returned (.tuple #[.slice none 0 0, .int .i64 (cge n gens)]) ∧ Below w.heap.size w w') ∨
    (cge n gens = 0 ∧ ∃ N gs, n = ((N : Nat) : Int) ∧ N ≤ 256 ∧ gens = gs.map ints ∧ (∀ g ∈ gs, Pm N g) ∧ ResP w e w' (ResQ N gs))
theorem row_lit {B N c : Nat} {w : World} {A : Option Addr} (hB : B ≤ w.heap.size) {l : List Int} (hl : l.length = N) (hs : Si w A l c) (ht : Tb w A) : OM B (w.alloc (.cells #[.slice A N c] 22)) (some ⟨w.heap.size, 0, none⟩) 1 1 [l] := by
  have hb := al1 w (.cells #[.slice A N c] 22)
  refine ⟨rfl, _, World.ownsRow_lit w #[.slice A N c] 1 hB (by unfold maxLen; omega) rfl, list1 ⟨A, c, by rw [hl]; rfl, hs.up hb, ?_⟩⟩
  exact (Tc.of_tb ht).up hb

set_option maxHeartbeats 8000000 in
set_option maxRecDepth 100000 in
theorem rclosure_any (n : Int) (A : Option Addr) (c : Nat) (gens : List (List Int)) (w : World) (hA : RI w A gens c) (hsh : ∀ p ∈ gens, p.length ≤ 24) :
    Calls Try.prog 20 #[.int .i64 n, .slice A gens.length c] w (RcP n gens w) := by
  have HVA := Lib.hid (valid_any n A c gens w hA hsh)
  obtain ⟨E, hE⟩ : ∃ E, cge n gens = E := ⟨_, rfl⟩
  unfold RcP
  rw [hE] at HVA ⊢
  by_cases h0 : E = 0
  case neg =>
    have d0 : (E != 0) = true := by rw [bne_iff_ne]; exact h0
    have HH := Lib.hid h0
    clear hE h0 hA hsh
    generalize gens.length = L at *
    go_enter Try.func20, Try.ntmps20
    go_wp2_with fail
    refine HVA.out.mono ?_
    rintro e w1 ⟨rfl, hb⟩
    have HB := Lib.hid hb
    clear hb
    go_wp2_with fail
    go_ret2
    exact .inl ⟨HH.out, rfl, HB.out⟩
  subst h0
  obtain ⟨N, gs, rfl, hN, rfl, hgs, hl1⟩ := cge_ok hE
  rw [List.length_map] at hl1 HVA ⊢
  obtain ⟨L, hL⟩ : ∃ L, gs.length = L := ⟨_, rfl⟩
  obtain ⟨B, hB⟩ : ∃ B, w.heap.size = B := ⟨_, rfl⟩
  rw [hB] at HVA
  have HG := Lib.hid (And.intro hA (And.intro hgs (And.intro hL hB)))
  rw [hL] at hl1 HVA ⊢
  refine Calls.mono (?_ : Calls _ _ _ _ (fun e w' => ResP w e w' (ResQ N gs))) (fun e w' h => .inr ⟨rfl, N, gs, rfl, hN, rfl, hgs, h⟩)
  clear hA hsh hgs hL hB hE
  go_enter Try.func20, Try.ntmps20
  go_wp2_with fail
  refine HVA.out.mono ?_
  rintro e w1 ⟨rfl, hb⟩
  have HB1 := Lib.hid hb
  clear hb HVA
  go_wp2_with fail
  refine (identity_pt N hN _).mono ?_
  rintro e w2 ⟨A2, c2, rfl, hs2, ht2, hb2⟩
  have hz1 : B ≤ w1.heap.size := by have := HB1.out.size; rwa [HG.out.2.2.2] at this
  have HB2 := Lib.hid (And.intro (HB1.out.trans (hb2.mono hz1)) (Nat.le_trans hz1 hb2.size))
  have HF2 := Lib.hid (row_lit HB2.out.2 (by rw [ints_length, List.length_range]) hs2 ht2)
  have HA2 := Lib.hid (al1 w2 (.cells #[.slice A2 N c2] 22))
  clear hs2 ht2 hb2 hz1
  go_wp2_with fail
  refine (identity_pt N hN _).mono ?_
  rintro e w4 ⟨A4, c4, rfl, hs4, ht4, hb4⟩
  have hz3 : w2.heap.size < (w2.alloc (.cells #[.slice A2 N c2] 22)).heap.size := by rw [World.size_alloc]; omega
  have HB4 := Lib.hid (And.intro (HB2.out.1.trans ((HA2.out.mono HB2.out.2).trans (hb4.mono (by have := HB2.out.2; omega)))) (And.intro (show B ≤ w4.heap.size from by have h1 := hb4.size; have h2 := HB2.out.2; omega) (show w2.heap.size < w4.heap.size from Nat.lt_of_lt_of_le hz3 hb4.size)))
  have HF4 := Lib.hid (HF2.out.up hb4)
  have HT4 := Lib.hid (row_lit HB4.out.2.1 (by rw [ints_length, List.length_range]) hs4 ht4)
  have HA4 := Lib.hid (al1 w4 (.cells #[.slice A4 N c4] 22))
  have HST := Lib.hid (show RcR B N gs w 0 0 0 (.slice (some ⟨w2.heap.size, 0, none⟩) 1 1) (.slice (some ⟨w4.heap.size, 0, none⟩) 1 1) (w4.alloc (.cells #[.slice A4 N c4] 22)) from
    ⟨[List.range N], [List.range N], _, 1, 1, _, 1, rfl, rfl, HF4.out.up HA4.out, HT4.out, by have := HB4.out.2.2; omega, RcS.start N gs, by omega, by omega, fun k' g p h => by omega, HB4.out.1.trans (HA4.out.mono HB4.out.2.1)⟩)
  clear hs4 ht4 hb4 hz3 HA2 HF2 HB2 HF4 HT4 HA4 HB1
  go_wp2_with fail
  go_loopw [7, 8, 9] (fun v7 v8 v9 wr => ∃ i : Nat, v9 = .int .i64 (i : Int) ∧ RcR B N gs w i 0 0 v7 v8 wr) (fun _ _ v9 _ => 4096 - (intOf v9).toNat)
  case atStart => exact ⟨0, rfl, HST.out⟩
  case round =>
    obtain ⟨i, rfl, hR⟩ := hrel
    obtain ⟨ls, ts, g7, f, c7, g8, c8, rfl, rfl, hO7, hO8, hne, hS, hif, hf, _, hb⟩ := hR
    have KR := Lib.hid (And.intro hO7 (And.intro hO8 (And.intro hne (And.intro hS hb))))
    clear hO7 hO8 hne hS hb HST
    by_cases hlt : i < f
    case neg =>
      have hdi : decide ((i : Int) < (f : Int)) = false := decide_eq_false (by omega)
      go_wp2_with fail
      go_ret2
      have hfl : f = ts.length := by have := KR.out.2.1.1; rw [List.length_map] at this; exact this.symm
      have hS := KR.out.2.2.2.1
      have hlf : ls.length = f := by rw [hfl, hS.len]
      have hie : i = ts.length := by omega
      rw [hie] at hS
      exact ⟨_, f, _, ls, 0, rfl, KR.out.1.ri, hlf, hf, .inr ⟨rfl, hS.srt, hS.all HG.out.2.1, by omega⟩, by rw [HG.out.2.2.2]; exact KR.out.2.2.2.2⟩
    have hdi : decide ((i : Int) < (f : Int)) = true := decide_eq_true (by omega)
    have HST := Lib.hid (show RcR B N gs w i 0 1 (.slice (some ⟨g7, 0, none⟩) f c7) (.slice (some ⟨g8, 0, none⟩) f c8) wr from ⟨ls, ts, g7, f, c7, g8, c8, rfl, rfl, KR.out.1, KR.out.2.1, KR.out.2.2.1, KR.out.2.2.2.1, by omega, hf, fun k' g p h => by omega, KR.out.2.2.2.2⟩)
    clear KR
    have hi4 : i < 4096 := by omega
    clear hif hf
    go_wp2_with fail
    clear hlt
    go_loopw [7, 8, 10] (fun v7 v8 v10 wr => ∃ k : Nat, k ≤ L ∧ v10 = .int .i64 (k : Int) ∧ RcR B N gs w i k 1 v7 v8 wr) (fun _ _ v10 _ => L - (intOf v10).toNat)
    case atStart => exact ⟨0, Nat.zero_le _, rfl, HST.out⟩
    case round =>
      clear hdi
      obtain ⟨k, hk, rfl, hR⟩ := hrel
      obtain ⟨ls, ts, g7, f, c7, g8, c8, rfl, rfl, hO7, hO8, hne, hS, hif, hf, hkk, hb⟩ := hR
      have KR := Lib.hid (And.intro hO7 (And.intro hO8 (And.intro hne (And.intro hS (And.intro hb hkk)))))
      clear hO7 hO8 hne hS hb hkk HST
      by_cases hlk : k < L
      case neg =>
        have hdk : decide ((k : Int) < (L : Int)) = false := decide_eq_false (by omega)
        go_wp2_with fail
        go_roundw
        case rel =>
          refine ⟨i + 1, by go_num, ls, ts, g7, f, c7, g8, c8, rfl, rfl, KR.out.1, KR.out.2.1, KR.out.2.2.1, ?_, by omega, hf, fun k' g p h => by omega, KR.out.2.2.2.2.1⟩
          have hS := KR.out.2.2.2.1
          refine ⟨hS.srt, hS.mem, hS.len, hS.gen, hS.one, fun j p hj hp g hg => ?_⟩
          by_cases hji : j < i
          · exact hS.cl j p hji hp g hg
          · obtain rfl : j = i := by omega
            obtain ⟨k', hk', e⟩ := List.getElem_of_mem hg
            exact KR.out.2.2.2.2.2 k' g p (by have := HG.out.2.2.1; omega) (by rw [List.getElem?_eq_getElem hk', e]) hp
        case measure => simp [intOf]; omega
      case pos =>
        have hdk : decide ((k : Int) < (L : Int)) = true := decide_eq_true (by omega)
        obtain ⟨g, hg⟩ : ∃ g, gs[k]? = some g := ⟨_, List.getElem?_eq_getElem (by rw [HG.out.2.2.1]; exact hlk)⟩
        have hgm := List.mem_of_getElem? hg
        have hgp := HG.out.2.1 g hgm
        have hfl : ts.length = f := by have := KR.out.2.1.1; rwa [List.length_map] at this
        obtain ⟨p, hp⟩ : ∃ p, ts[i]? = some p := ⟨_, List.getElem?_eq_getElem (by omega)⟩
        have hpl : p ∈ ls := (KR.out.2.2.2.1.mem p).2 (List.mem_of_getElem? hp)
        have hpg := KR.out.2.2.2.1.gen p hpl
        have hpp := hpg.pm HG.out.2.1
        have hlf : ls.length = f := by rw [← KR.out.2.2.2.1.len, hfl]
        obtain ⟨b1, o1, Ag, cg, hAe, hbl, hc, hsg⟩ := HG.out.1.at_ (i := k) (l := ints g) (by rw [List.getElem?_map, hg]; rfl)
        subst hAe
        rw [ints_length, hgp.1] at hc
        obtain ⟨vs, hvl, hvc, hve, -, -, -⟩ := KR.out.2.1.part
        obtain ⟨At, ct, hv8, hst8, -⟩ := hve i (ints p) (by rw [List.getElem?_map, hp]; rfl)
        rw [ints_length, hpp.1] at hv8
        have hc8 := hvc i _ hv8
        have hbw : Below w.heap.size w wr := by rw [HG.out.2.2.2]; exact KR.out.2.2.2.2.1
        have hsz : B ≤ wr.heap.size := by have := hbw.size; rwa [HG.out.2.2.2] at this
        have hg8 : g8 < wr.heap.size := World.block_lt_of_cell? wr _ hc8
        have HD1 := Lib.hid (fun W' (hb : Below wr.heap.size wr W') => show (fun w' => w'.cell? ⟨b1, o1 + k, none⟩ = some (.slice Ag N cg) ∧ w'.cell? ⟨g8, i, none⟩ = some (.slice At N ct)) W' from ⟨((hbw.trans (hb.mono hbw.size)).cell (p := ⟨b1, o1 + k, none⟩) hbl).trans hc, (hb.cell (p := ⟨g8, i, none⟩) hg8).trans hc8⟩)
        have HWD := Lib.hid (Below.refl wr.heap.size wr).drew
        have HDV := Lib.hid (HD1.out _ HWD.out)
        have HPR := Lib.hid (fun V (hV : Below wr.heap.size wr V) => product_pt hgp hpp hN (hsg.up (hbw.trans (hV.mono hbw.size))) (hst8.up hV))
        have HX := Lib.hid (And.intro hg (And.intro hp (And.intro (Gen.lmul HG.out.2.1 hgm hpg) (And.intro (hgp.mul hpp) (And.intro hfl hlf)))))
        have HZ := Lib.hid hsz
        have i0 : (0 : Int) ≤ (k : Int) := by omega
        have i1 : (k : Int) < (L : Int) := by omega
        have i2 : (0 : Int) ≤ (i : Int) := by omega
        have i3 : (i : Int) < (f : Int) := by omega
        clear hg hgm hgp hfl hp hpl hpg hpp hbl hc hsg hvl hvc hve hv8 hst8 hc8 hbw hsz hg8 hlf
        clear vs
        go_upto_region 12 with fail
        refine wp_region_later 9 (fun w' => w'.cell? ⟨b1, o1 + k, none⟩ = some (.slice Ag N cg) ∧ w'.cell? ⟨g8, i, none⟩ = some (.slice At N ct)) (by kernel_rfl) ?_
        refine takeL (d := some 38) (i := 0) (v := ?v0) rfl rfl (by kernel_rfl) (by kernel_rfl) (by kernel_rfl) (fun _ _ _ h => h) rfl (by kernel_rfl) (Or.inl ⟨by rfl, ?z0⟩) HDV.out ?q0
        case z0 =>
          intro w hSw
          try dsimp only at hSw
          obtain ⟨d0, d1⟩ := hSw
          go_simp
          all_goals with_reducible rfl
        try simp only [Act.put, List.setIfInBounds_toArray, List.set_cons_zero, List.set_cons_succ, Array.toArray_toList]
        refine takeL (d := some 39) (i := 1) (v := ?v1) rfl rfl (by kernel_rfl) (by kernel_rfl) (by kernel_rfl) (fun _ _ _ h => h) rfl (by kernel_rfl) (Or.inl ⟨by rfl, ?z1⟩) HDV.out ?q1
        case z1 =>
          intro w hSw
          try dsimp only at hSw
          obtain ⟨d0, d1⟩ := hSw
          go_simp
          all_goals with_reducible rfl
        try simp only [Act.put, List.setIfInBounds_toArray, List.set_cons_zero, List.set_cons_succ, Array.toArray_toList]
        refine takeL (d := some 40) (i := 2) (v := ?v2) rfl rfl (by kernel_rfl) (by kernel_rfl) (by kernel_rfl) (fun _ _ _ h => h) rfl (by kernel_rfl) (Or.inl ⟨by rfl, ?z2⟩) HDV.out ?q2
        case z2 =>
          intro w hSw
          try dsimp only at hSw
          obtain ⟨d0, d1⟩ := hSw
          go_simp
          all_goals with_reducible rfl
        try simp only [Act.put, List.setIfInBounds_toArray, List.set_cons_zero, List.set_cons_succ, Array.toArray_toList]
        refine takeL (d := some 41) (i := 3) (v := ?v3) rfl rfl (by kernel_rfl) (by kernel_rfl) (by kernel_rfl) (fun _ _ _ h => h) rfl (by kernel_rfl) (Or.inl ⟨by rfl, ?z3⟩) HDV.out ?q3
        case z3 =>
          intro w hSw
          try dsimp only at hSw
          obtain ⟨d0, d1⟩ := hSw
          go_simp
          all_goals with_reducible rfl
        try simp only [Act.put, List.setIfInBounds_toArray, List.set_cons_zero, List.set_cons_succ, Array.toArray_toList]
        refine takeL (d := some 42) (i := 4) (v := ?v4) rfl rfl (by kernel_rfl) (by kernel_rfl) (by kernel_rfl) (fun _ _ _ h => h) rfl (by kernel_rfl) (Or.inl ⟨by rfl, ?z4⟩) HDV.out ?q4
        case z4 =>
          intro w hSw
          try dsimp only at hSw
          obtain ⟨d0, d1⟩ := hSw
          go_simp
          all_goals with_reducible rfl
        try simp only [Act.put, List.setIfInBounds_toArray, List.set_cons_zero, List.set_cons_succ, Array.toArray_toList]
        refine takeL (d := some 43) (i := 5) (v := ?v5) rfl rfl (by kernel_rfl) (by kernel_rfl) (by kernel_rfl) (fun _ _ _ h => h) rfl (by kernel_rfl) (Or.inl ⟨by rfl, ?z5⟩) HDV.out ?q5
        case z5 =>
          intro w hSw
          try dsimp only at hSw
          obtain ⟨d0, d1⟩ := hSw
          go_simp
          all_goals with_reducible rfl
        try simp only [Act.put, List.setIfInBounds_toArray, List.set_cons_zero, List.set_cons_succ, Array.toArray_toList]
        refine takeL (d := some 44) (i := 6) (v := ?v6) rfl rfl (by kernel_rfl) (by kernel_rfl) (by kernel_rfl) (fun _ _ _ h => h) rfl (by kernel_rfl) (Or.inl ⟨by rfl, ?z6⟩) HDV.out ?q6
        case z6 =>
          intro w hSw
          try dsimp only at hSw
          obtain ⟨d0, d1⟩ := hSw
          go_simp
          all_goals with_reducible rfl
        try simp only [Act.put, List.setIfInBounds_toArray, List.set_cons_zero, List.set_cons_succ, Array.toArray_toList]
        refine takeL (d := some 45) (i := 7) (v := ?v7) rfl rfl (by kernel_rfl) (by kernel_rfl) (by kernel_rfl) (fun _ _ _ h => h) rfl (by kernel_rfl) (Or.inl ⟨by rfl, ?z7⟩) HDV.out ?q7
        case z7 =>
          intro w hSw
          try dsimp only at hSw
          obtain ⟨d0, d1⟩ := hSw
          go_simp
          all_goals with_reducible rfl
        try simp only [Act.put, List.setIfInBounds_toArray, List.set_cons_zero, List.set_cons_succ, Array.toArray_toList]
        refine oneL (i := 8) (by kernel_rfl) rfl (fun K' hK => ?_)
        rw [if_pos (by rfl)]
        go_simp
        refine (HPR.out _ HWD.out).mono ?_
        rintro e w5 ⟨A5, c5, rfl, hs5, ht5, hb5⟩
        have H5 := Lib.hid (HWD.out.trans (hb5.mono HWD.out.size))
        refine hK.out _ _ (fun _ => HD1.out _ H5.out) ?_
        clear hK hb5
        refine oneL (i := 9) (by kernel_rfl) rfl (fun K' hK => ?_)
        go_simp
        refine hK.out _ _ (fun e => by simp at e) ?_
        clear hK
        refine doneL (by kernel_rfl) ?_ _
        have HFI := Lib.hid (find_any (some ⟨g7, 0, none⟩) c7 (ls.map ints) A5 c5 (ints (mu g p)) w5 (KR.out.1.up H5.out).ri hs5 KR.out.2.2.2.1.srt (by rw [List.length_map, HX.out.2.2.2.2.2]; omega))
        unfold FindP at HFI
        rw [List.length_map, HX.out.2.2.2.2.2, ints_length, HX.out.2.2.2.1.1] at HFI
        have HS5 := Lib.hid (And.intro hs5 ht5)
        clear hs5 ht5 HDV HD1 HWD HPR
        go_wp2_with fail
        refine HFI.out.mono ?_
        rintro e w6 ⟨at6, rfl, hplc, hb6⟩
        have HB6 := Lib.hid (H5.out.trans (hb6.mono H5.out.size))
        have HS6 := Lib.hid (And.intro (HS5.out.1.up hb6) (HS5.out.2.up hb6))
        have HPL := Lib.hid hplc
        clear hb6 hplc HFI HS5 H5
        have HK6 := Lib.hid (And.intro (KR.out.1.up HB6.out) (And.intro (KR.out.2.1.up HB6.out) (And.intro (KR.out.2.2.2.2.1.trans (HB6.out.mono HZ.out)) (Nat.le_trans HZ.out HB6.out.size))))
        by_cases hin : mu g p ∈ ls
        case pos =>
          rw [decide_eq_true (ints_mem.2 hin)]
          have HIN := Lib.hid hin
          clear hin
          go_wp2_with fail
          go_roundw
          case rel =>
            refine ⟨k + 1, by omega, by go_num, ls, ts, g7, f, c7, g8, c8, rfl, rfl, HK6.out.1, HK6.out.2.1, KR.out.2.2.1, KR.out.2.2.2.1, hif, hf, fun k' g' p' h1 h2 h3 => ?_, HK6.out.2.2.1⟩
            by_cases hkk : k' < k
            · exact KR.out.2.2.2.2.2 k' g' p' hkk h2 h3
            · obtain rfl : k' = k := by omega
              rw [HX.out.1] at h2
              rw [HX.out.2.1] at h3
              injection h2 with h2
              injection h3 with h3
              subst h2 h3
              exact HIN.out
          case measure => simp [intOf]; omega
        case neg =>
          rw [decide_eq_false (fun h => hin (ints_mem.1 h))]
          have HIN := Lib.hid hin
          clear hin
          by_cases hf4 : f = 4096
          case pos =>
            have d4 : ((f : Int) == 4096) = true := by rw [beq_iff_eq]; omega
            go_wp2_with fail
            go_ret2
            have hbig := KR.out.2.2.2.1.big (by rw [HX.out.2.2.2.2.2]; exact hf4) HIN.out HX.out.2.2.1
            exact ⟨none, 0, 0, [], 2, rfl, RI.nil _, rfl, by omega, .inl ⟨hbig, rfl, rfl⟩, by rw [HG.out.2.2.2]; exact HK6.out.2.2.1⟩
          have d4 : ((f : Int) == 4096) = false := by rw [beq_eq_false_iff_ne]; omega
          have hat : at6 ≤ f := by have := HPL.out.1; rwa [List.length_map, HX.out.2.2.2.2.2] at this
          have HINS := Lib.hid (insert_any B g7 f c7 (ls.map ints) at6 A5 c5 (ints (mu g p)) w6 HK6.out.1 hat HS6.out.1 (Tc.of_tb HS6.out.2) hf HK6.out.2.2.2)
          unfold InsP at HINS
          rw [ints_length, HX.out.2.2.2.1.1, map_ins] at HINS
          have hg86 : g8 < w6.heap.size := by
            obtain ⟨vs, h1⟩ := HK6.out.2.1.own
            exact (h1.lt g8 rfl).2
          have HG86 := Lib.hid hg86
          clear hat hg86
          go_wp2_with fail
          refine HINS.out.mono ?_
          rintro e w7 ⟨g9, c9, rfl, hO9, hg9, hb7⟩
          have HB7 := Lib.hid (And.intro (HB6.out.trans (hb7.mono HB6.out.size)) (And.intro (HK6.out.2.2.1.trans (hb7.mono HK6.out.2.2.2)) (Nat.le_trans HK6.out.2.2.2 hb7.size)))
          have HK7 := Lib.hid (And.intro hO9 (And.intro (HK6.out.2.1.up hb7) (show g9 ≠ g8 from by have := HG86.out; omega)))
          have HS7 := Lib.hid (And.intro (HS6.out.1.up hb7) (HS6.out.2.up hb7))
          have HA7 := Lib.hid (al1 w7 (.cells #[.slice A5 N c5] 22))
          clear hO9 hg9 hb7 HINS HK6 HS6 HB6 HG86
          go_wp2_with (at_builtin; refine wpList_append_om2 (B := B) rfl (.tmp 61) (.tmp 63) rfl (some ⟨g8, 0, none⟩) f c8 _ rfl (HK7.out.2.1.up HA7.out) w7.heap.size 1 [ints (mu g p)] [.slice A5 N c5] rfl (by omega) rfl (Box.new w7 _ _) rfl (list1 ⟨A5, c5, by rw [ints_length, HX.out.2.2.2.1.1]; rfl, HS7.out.1.up HA7.out, (Tc.of_tb HS7.out.2).up HA7.out⟩) (by intro u hu; simp at hu; subst hu; rfl) (by omega) (Nat.le_trans HB7.out.2.2 (by rw [World.size_alloc]; omega)) ?_; intro g10 k10 w8 hO10 hb10 hg10 hat10; have HT := Lib.hid (And.intro hO10 (And.intro hb10 (And.intro hg10 hat10))); clear hO10 hb10 hg10 hat10)
          go_roundw
          case rel =>
            obtain ⟨hO10, hb10, hg10, hat10⟩ := HT.out
            obtain ⟨vs10, ho10⟩ := (HK7.out.2.1.up HA7.out).own
            have hne : ∀ g, (some ⟨g9, 0, none⟩ : Option Addr) = some ⟨g, 0, none⟩ → (some ⟨g8, 0, none⟩ : Option Addr) ≠ some ⟨g, 0, none⟩ := fun g e1 e2 => by
              injection e1 with e1
              injection e1 with e1
              injection e2 with e2
              injection e2 with e2
              exact HK7.out.2.2 (by omega)
            have hO9 := (HK7.out.1.up HA7.out).other ho10 hne hg10
            have hap := om_apart2 (HK7.out.2.1.up HA7.out) (HK7.out.1.up HA7.out) (fun g e1 e2 => hne g e2 e1) hat10
            refine ⟨k + 1, by omega, by go_num, _, ts ++ [mu g p], g9, f + 1, c9, g10, k10, rfl, rfl, hO9, by rw [List.map_append]; exact hO10, fun e => hap (by rw [e]), KR.out.2.2.2.1.more HPL.out HIN.out HX.out.2.2.1 (by have := HX.out.2.2.2.2.1; omega), by omega, by omega, fun k' g' p' h1 h2 h3 => ?_, HB7.out.2.1.trans ((HA7.out.mono HB7.out.2.2).trans hb10)⟩
            rw [List.getElem?_append_left (by have := HX.out.2.2.2.2.1; omega)] at h3
            have hmem : ∀ x, x ∈ ls ∨ x = mu g p → x ∈ ls.take at6 ++ mu g p :: ls.drop at6 := fun x hx => by
              rw [List.mem_append, List.mem_cons]
              rcases hx with hx | hx
              · rw [← List.take_append_drop at6 ls, List.mem_append] at hx
                rcases hx with hx | hx
                · exact .inl hx
                · exact .inr (.inr hx)
              · exact .inr (.inl hx)
            by_cases hkk : k' < k
            · exact hmem _ (.inl (KR.out.2.2.2.2.2 k' g' p' hkk h2 h3))
            · obtain rfl : k' = k := by omega
              rw [HX.out.1] at h2
              rw [HX.out.2.1] at h3
              injection h2 with h2
              injection h3 with h3
              subst h2 h3
              exact hmem _ (.inr rfl)
          case measure => simp [intOf]; omega
end Go.Proofs.Ytobchecnfkocdaa
