/- LexJoined. -/
import Derived.Test.YtojlibeecpmbnaaDoorPlJ
import Derived.Laws.AppendOwnNone
namespace Go.Proofs.YtojlibeecpmbnaaDoor
open Go.RowKit Go.Shelf
set_option linter.unusedVariables false
set_option linter.unusedSimpArgs false

theorem bs_append (a b : List UInt8) : bs a ++ bs b = bs (a ++ b) := by
  apply ByteArray.ext
  simp [bs, ByteArray.data_append]
theorem bs_lf : (⟨#[10]⟩ : ByteArray) = bs [10] := rfl
attribute [local go_sem] bs_toList bs_e bs_size bs_append bs_lf

theorem tkcs_one (l : List Tk) : ∀ u ∈ tkcs l, u.oneCell' = true := by
  intro u hu
  unfold tkcs at hu
  obtain ⟨v, hv, hu⟩ := List.mem_flatten.1 hu
  obtain ⟨t, _, rfl⟩ := List.mem_map.1 hv
  simp [tkc] at hu
  rcases hu with rfl | rfl | rfl | rfl <;> rfl
theorem TT.news {w : World} {ad : Addr} {l : List Tk} {c : Nat} (h : TT w (some ad) l c) : ∀ j u, (tkcs l)[j]? = some u → w.cell? (ad.add j) = some u := by
  intro j u hu
  have hl : 0 < l.length := by
    have := (List.getElem?_eq_some_iff.1 hu).1
    rw [tkcs_len] at this
    omega
  obtain ⟨b, off, e, _, hc⟩ := h.1 hl
  injection e with e
  subst e
  rw [add_off]
  exact hc j u hu
theorem wpList_append_tks {base : Nat} {w : World} {ops : Array Oper} {rest : List Oper} {o : Oper} {a : Act} {Q : Exit → Act → World → Prop} (hgd : o.guard = none) (s x : Operand)
    (ho : o.op = .call { callee := .builtin .append, args := #[s, x], argTypes := #[23, 23] })
    (v : Value) (n : Nat) (xs : List Value) (hs : a.eval s = v) (hown : w.ownsRow base 35 4 v n xs)
    (A : Option Addr) (l : List Tk) (m c : Nat) (hm : l.length = m) (hx : a.eval x = .slice A m c) (hT : TT w A l c) (hn : n + m ≤ 1000000) (hbase : base ≤ w.heap.size)
    (h : ∀ A' c' w', w'.ownsRow base 35 4 (.slice A' (n + m) c') (n + m) (xs ++ tkcs l) → w.grownBy w' v.ownBlock → wpList Tryd.prog ops Q rest (a.put o.dst (.slice A' (n + m) c')) w') : wpList Tryd.prog ops Q (o :: rest) a w := by
  obtain ⟨i0, hi0, hz0, hz1, hz2⟩ := info_parts tk_info
  refine wpList_plain hgd fun K hK => ?_
  cases A with
  | none =>
    obtain ⟨rfl, rfl⟩ := hT.2.2.2 rfl
    obtain rfl : m = 0 := by simpa using hm.symm
    obtain ⟨A1, c1, hv⟩ := own_form hown
    have hrun := run_append_owned_none (P := Tryd.prog) (w := w) base 23 o.type 35 i0 4 Tryd.underlying23 hi0 v n xs hown
    unfold Oper.wp
    simp [execOp, ho, resolve, invoke, builtin, hs, hx, hrun, Result.andThen]
    subst hv
    exact hK _ _ (h A1 c1 w (by simpa [tkcs] using hown) (World.grownBy.refl w _))
  | some ad =>
    refine wp_append_own w s x 23 ho base 35 i0 (.agg #[.int .i64 0, .string ⟨#[]⟩, .int .i64 0, .int .i64 0]) 4 40 Tryd.underlying23 hi0 hz0 hz1 hz2 rfl (by decide) v n xs hs hown ad m c (tkcs l) hx (by rw [tkcs_len, hm]) hT.news (tkcs_one l) (le_maxLen (by omega)) (by omega) hbase ?_
    intro v' w' ho' hg' _
    obtain ⟨A1, c1, rfl⟩ := own_form ho'
    exact hK _ _ (h A1 c1 w' ho' hg')
/-- The tokens of the second source, moved, so far. -/
def mv (d : Nat) (y : List Tk) : List Tk := y.map (Tk.sh d)
theorem mv_at {d : Nat} {y : List Tk} {j : Nat} {t : Tk} (h : y[j]? = some t) : mv d (y.take (j + 1)) = mv d (y.take j) ++ [t.sh d] := by
  unfold mv
  rw [List.take_add_one, h]
  simp

set_option maxHeartbeats 8000000 in
set_option maxRecDepth 100000 in
theorem lawJoined_any (s X : List UInt8) (w : World) (hK : KT w ∧ PT w) (hl : s.length ≤ 140737488355328) (hm : X.length ≤ 140737488355328) :
    Calls Tryd.prog 7 #[.string (bs s), .string (bs X)] w (BoolPost true w) := by
  have HSN := Lib.hid (sane_any w hK.1 hK.2)
  have HKP := Lib.hid hK
  unfold BoolPost at HSN ⊢
  obtain ⟨L, hL⟩ : ∃ L, s.length = L := ⟨_, rfl⟩
  obtain ⟨M, hM⟩ : ∃ M, X.length = M := ⟨_, rfl⟩
  have HL := Lib.hid (And.intro hL hM)
  have hlen : ∀ wx, (Builtin.len_ #[9] 3 #[.string (bs s)]).run Tryd.prog wx = .ok (.int .i64 (L : Int)) wx := fun wx => by rw [bs_len s _ _ Tryd.underlying9, hL]
  have hlem : ∀ wx, (Builtin.len_ #[9] 3 #[.string (bs X)]).run Tryd.prog wx = .ok (.int .i64 (M : Int)) wx := fun wx => by rw [bs_len X _ _ Tryd.underlying9, hM]
  rw [hL] at hl
  rw [hM] at hm
  clear hK hL hM
  go_enter Tryd.func7, Tryd.ntmps7
  go_wp2_with fail
  refine HSN.out.mono ?_
  rintro e ws ⟨rfl, hbs⟩
  have HB := Lib.hid hbs
  clear hbs HSN
  obtain ⟨S, hS⟩ : ∃ S, L + M = S := ⟨_, rfl⟩
  have hsum : (L : Int) + (M : Int) = (S : Int) := by omega
  have hS48 : S ≤ 281474976710656 := by omega
  have HS := Lib.hid hS
  clear hS
  by_cases h3000 : 3000 < S
  case pos =>
    have hd : decide ((3000 : Int) < (S : Int)) = true := decide_eq_true (by omega)
    have hd2 : (3000 : Int) < (S : Int) := by omega
    go_wp2_with fail
    go_ret
    exact ⟨rfl, HB.out⟩
  have hd : decide ((3000 : Int) < (S : Int)) = false := decide_eq_false (by omega)
  have hd2 : ¬ (3000 : Int) < (S : Int) := by omega
  have hL3 : L ≤ 3000 := by have := HS.out; omega
  have HL1 := Lib.hid (lex_any s ws (HKP.out.1.below HB.out) (by have := HL.out.1; omega))
  have HL2 := Lib.hid (fun V (hb : Below w.heap.size w V) => lex_any X V (HKP.out.1.below hb) (by have := HL.out.2; omega))
  have HL3 := Lib.hid (fun V (hb : Below w.heap.size w V) => lex_any (s ++ 10 :: X) V (HKP.out.1.below hb) (by have h1 := HL.out.1; have h2 := HL.out.2; simp; omega))
  have hz1 : s.length = L := HL.out.1
  have hz2 : X.length = M := HL.out.2
  have hz3 : ([10] : List UInt8).length = 1 := rfl
  have hz4 : (s ++ [10]).length = L + 1 := by rw [List.length_append, hz1, hz3]
  have h1 := lxo_of (s := s) (by have h3 := HS.out; omega)
  have h2 := lxo_of (s := X) (by have h3 := HS.out; omega)
  have h3 := lxo_of (s := s ++ 10 :: X) (by have h3 := HS.out; simp; omega)
  rw [lex_lf s X, hz1] at h3
  have HBN := Lib.hid (fun ts (h : lex s = .ok ts) => lx_bnd s.length s 0 ts h)
  have HBX := Lib.hid (fun ts (h : lex X = .ok ts) => lx_bnd X.length X 0 ts h)
  have HBG := Lib.hid (fun ts (h : lex X = .ok ts) => places_ge X.length X 0 ts h)
  cases hx : lex s with
  | no j =>
    rw [hx] at h1 h3
    have h1 : lxo s = ([], j, 100) := h1
    have h3 : lxo (s ++ 10 :: X) = ([], j, 100) := h3
    rw [h1] at HL1
    rw [h3] at HL3
    obtain ⟨ox, hox⟩ : ∃ o, lxo X = o := ⟨_, rfl⟩
    rw [hox] at HL2
    obtain ⟨ty, ay, ey⟩ := ox
    unfold LexP at HL1 HL2 HL3
    simp only at HL1 HL2 HL3
    clear h1 h2 h3 hx hox
    go_wp2_with fail
    refine HL1.out.mono ?_
    rintro e w1 ⟨A1, c1, rfl, hT, hb⟩
    have HB := Lib.hid (HB.out.trans (hb.mono HB.out.size))
    clear hT hb HL1
    go_wp2_with fail
    refine (HL2.out w1 HB.out).mono ?_
    rintro e w2 ⟨A2, c2, rfl, hT, hb⟩
    have HB := Lib.hid (HB.out.trans (hb.mono HB.out.size))
    clear hT hb HL2
    go_wp2_with fail
    refine (HL3.out w2 HB.out).mono ?_
    rintro e w3 ⟨A3, c3, rfl, hT, hb⟩
    have HB := Lib.hid (HB.out.trans (hb.mono HB.out.size))
    clear hT hb HL3
    go_wp2_with fail
    go_ret
    exact ⟨rfl, HB.out⟩
  | ok tx =>
  rw [hx] at h1 h3
  have h1 : lxo s = (tx, 0, 0) := h1
  rw [h1] at HL1
  have HTX := Lib.hid (HBN.out tx hx)
  cases hy : lex X with
  | no j =>
    rw [hy] at h2 h3
    have h2 : lxo X = ([], j, 100) := h2
    have h3 : lxo (s ++ 10 :: X) = ([], j + (L + 1), 100) := h3
    rw [h2] at HL2
    rw [h3] at HL3
    obtain ⟨q, hq⟩ : ∃ q, j + (L + 1) = q := ⟨_, rfl⟩
    rw [hq] at HL3
    have hj3 : j ≤ 3000 := by
      have := (err_at _ X 0 j (Nat.le_refl _) (by rw [lxr_zero]; exact hy)).lt
      have h3 := HS.out
      omega
    obtain ⟨q0, hq0⟩ : ∃ q0, j + L = q0 := ⟨_, rfl⟩
    have hq1 : (j : Int) + (L : Int) = (q0 : Int) := by omega
    have hq2 : (q0 : Int) + 1 = (q : Int) := by omega
    unfold LexP at HL1 HL2 HL3
    simp only at HL1 HL2 HL3
    clear h1 h2 h3 hx hy hq hq0
    go_wp2_with fail
    refine HL1.out.mono ?_
    rintro e w1 ⟨A1, c1, rfl, hT, hb⟩
    have HB := Lib.hid (HB.out.trans (hb.mono HB.out.size))
    clear hT hb HL1
    go_wp2_with fail
    refine (HL2.out w1 HB.out).mono ?_
    rintro e w2 ⟨A2, c2, rfl, hT, hb⟩
    have HB := Lib.hid (HB.out.trans (hb.mono HB.out.size))
    clear hT hb HL2
    go_wp2_with fail
    refine (HL3.out w2 HB.out).mono ?_
    rintro e w3 ⟨A3, c3, rfl, hT, hb⟩
    have HB := Lib.hid (HB.out.trans (hb.mono HB.out.size))
    clear hT hb HL3
    go_wp2_with fail
    go_ret
    exact ⟨rfl, HB.out⟩
  | ok ty =>
  rw [hy] at h2 h3
  have h2 : lxo X = (ty, 0, 0) := h2
  have h3 : lxo (s ++ 10 :: X) = (tx ++ mv (L + 1) ty, 0, 0) := h3
  rw [h2] at HL2
  rw [h3] at HL3
  have HTY := Lib.hid (And.intro (HBX.out ty hy) (HBG.out ty hy))
  clear h1 h2 h3 hx hy HBN HBX HBG
  obtain ⟨nx, hnx⟩ : ∃ n, tx.length = n := ⟨_, rfl⟩
  obtain ⟨ny, hny⟩ : ∃ n, ty.length = n := ⟨_, rfl⟩
  have hnz : (tx ++ mv (L + 1) ty).length = nx + ny := by rw [List.length_append, hnx]; unfold mv; rw [List.length_map, hny]
  have HN := Lib.hid (And.intro hnx hny)
  unfold LexP at HL1 HL2 HL3
  simp only at HL1 HL2 HL3
  rw [hnx] at HL1
  rw [hny] at HL2
  rw [hnz] at HL3
  have hnx3 : nx ≤ 3000 := by have h := HTX.out.1; omega
  have hny3 : ny ≤ 3000 := by have h := HTY.out.1.1; have h3 := HS.out; omega
  clear hnx hny hnz
  go_wp2_with fail
  refine HL1.out.mono ?_
  rintro e w1 ⟨A1, c1, rfl, hT1, hb⟩
  have HB := Lib.hid (HB.out.trans (hb.mono HB.out.size))
  have HT1 := Lib.hid hT1
  clear hT1 hb HL1
  go_wp2_with fail
  refine (HL2.out w1 HB.out).mono ?_
  rintro e w2 ⟨A2, c2, rfl, hT2, hb⟩
  have HB := Lib.hid (HB.out.trans (hb.mono HB.out.size))
  have HT1 := Lib.hid (HT1.out.up hb)
  have HT2 := Lib.hid hT2
  clear hT2 hb HL2
  go_wp2_with fail
  refine (HL3.out w2 HB.out).mono ?_
  rintro e w3 ⟨A3, c3, rfl, hT3, hb⟩
  have HB := Lib.hid (HB.out.trans (hb.mono HB.out.size))
  have HT1 := Lib.hid (HT1.out.up hb)
  have HT2 := Lib.hid (HT2.out.up hb)
  have HT3 := Lib.hid hT3
  clear hT3 hb HL3
  go_upto_region 12 with fail
  obtain ⟨B, hBB⟩ : ∃ B, w3.heap.size = B := ⟨_, rfl⟩
  have hal := (Below.refl w3.heap.size w3).alloc (Nat.le_refl _) (.cells #[] 35)
  have HE := Lib.hid (show (w3.alloc (.cells #[] 35)).ownsRow B 35 4 (.slice (some ⟨w3.heap.size, 0, none⟩) 0 0) 0 [] from World.ownsRow_lit w3 #[] 0 (by omega) (by unfold maxLen; omega) rfl)
  have HT1 := Lib.hid (HT1.out.up hal)
  have HBE := Lib.hid (show Below B w3 (w3.alloc (.cells #[] 35)) from hBB ▸ hal)
  have HBZ := Lib.hid hBB
  clear hal hBB
  go_wp2_with (refine wpList_append_tks rfl (.tmp 82) (.tmp 83) rfl _ 0 [] rfl HE.out A1 tx nx c1 HN.out.1 rfl HT1.out (by omega) (by have := HBE.out.size; have := HBZ.out; omega) ?_; intro A4 c4 w4 ho4 hg4; have HB4 := Lib.hid (HBE.out.trans (own_grown HE.out hg4 (by have := HBE.out.size; have := HBZ.out; omega))); rw [Nat.zero_add, List.nil_append] at ho4; have HO4 := Lib.hid ho4; clear ho4 hg4)
  obtain ⟨L1, hL1⟩ : ∃ q, L + 1 = q := ⟨_, rfl⟩
  have hLI : (L : Int) + 1 = (L1 : Int) := by omega
  have HZL := Lib.hid hL1
  rw [hL1] at HT3
  clear hL1
  go_loopw [14, 87] (fun v i wr => ∃ (j : Nat) (A : Option Addr) (c : Nat), j ≤ ny ∧ i = .int .i64 (j : Int) ∧ v = .slice A (nx + j) c ∧ wr.ownsRow B 35 4 v (nx + j) (tkcs (tx ++ mv L1 (ty.take j))) ∧ Below B w3 wr) (fun _ i _ => ny - (intOf i).toNat)
  case atStart => exact ⟨0, A4, c4, Nat.zero_le _, rfl, rfl, by rw [List.take_zero]; unfold mv; simpa using HO4.out, HB4.out⟩
  case round =>
    obtain ⟨j, A5, c5, hj, rfl, rfl, how, hb⟩ := hrel
    have HOW := Lib.hid how
    have HB5 := Lib.hid hb
    clear how hb
    by_cases hlt : j < ny
    case neg =>
      obtain rfl : j = ny := by omega
      have hdj : decide ((j : Int) < (j : Int)) = false := decide_eq_false (by omega)
      have hty : ty.take j = ty := List.take_of_length_le (by have := HN.out.2; omega)
      have how2 := HOW.out
      rw [hty] at how2
      have hZ : (tx ++ mv L1 ty).length = nx + j := by rw [List.length_append, HN.out.1]; unfold mv; rw [List.length_map, HN.out.2]
      rw [← hZ] at how2
      have hTA := (TT.of_own how2).2
      have HBW := Lib.hid (show Below w3.heap.size w3 wr from by rw [HBZ.out]; exact HB5.out)
      have hq := requal_any (tx ++ mv L1 ty) (tx ++ mv L1 ty) A3 A5 c3 c5 wr (HT3.out.up HBW.out) hTA
      rw [eqt_refl, hZ] at hq
      have HQ := Lib.hid hq
      unfold BoolPost at HQ
      clear hq hTA how2 hty hZ
      go_wp2_with fail
      refine HQ.out.mono ?_
      rintro e w6 ⟨rfl, hb6⟩
      have HB := Lib.hid ((HB.out.trans (HBW.out.mono HB.out.size)).trans (hb6.mono (by have h1 := HB.out.size; have h2 := HBW.out.size; omega)))
      clear hb6
      go_wp2_with fail
      go_ret
      exact ⟨rfl, HB.out⟩
    have hdj : decide ((j : Int) < (ny : Int)) = true := decide_eq_true (by omega)
    have hj0 : (0 : Int) ≤ (j : Int) := by omega
    have hjN : (j : Int) < (ny : Int) := by omega
    obtain ⟨t, ht⟩ : ∃ t, ty[j]? = some t := ⟨_, List.getElem?_eq_getElem (by have := HN.out.2; omega)⟩
    obtain ⟨bA, oA, e1, hbA, x0, x1, x2, x3⟩ := HT2.out.at_ ht
    subst e1
    have hbb := HB5.out
    have hbA' : bA < B := by rw [← HBZ.out]; exact hbA
    have z0 := (hbb.cell (p := ⟨bA, oA + j * 4, none⟩) hbA').trans x0
    have z1 := (hbb.cell (p := ⟨bA, oA + j * 4 + 1, none⟩) hbA').trans x1
    have z2 := (hbb.cell (p := ⟨bA, oA + j * 4 + 2, none⟩) hbA').trans x2
    have z3 := (hbb.cell (p := ⟨bA, oA + j * 4 + 3, none⟩) hbA').trans x3
    have htp1 := HTY.out.1.2 t (List.mem_of_getElem? ht)
    have htp2 := HTY.out.2 t (List.mem_of_getElem? ht)
    have htp3 : t.p ≤ 3000 := by have h1 := HL.out.2; have h2 := HS.out; omega
    have htp4 : 0 ≤ t.p := by omega
    have HMV := Lib.hid (mv_at (d := L1) ht)
    have htk : (t.sh L1) = ⟨t.k, t.t, t.n, t.p + (L1 : Int)⟩ := rfl
    obtain ⟨k, tt, tn, p⟩ := t
    simp only at z0 z1 z2 z3 htp1 htp2 htp3 htp4 htk
    obtain ⟨pp, hpp⟩ : ∃ z, p + (L1 : Int) = z := ⟨_, rfl⟩
    rw [hpp] at htk
    rw [htk] at HMV
    have ha1 := (Below.refl wr.heap.size wr).alloc (Nat.le_refl _) (.cells #[.int .i64 k, .string (bs tt), .int .i64 tn, .int .i64 pp] 35)
    have ha2 := (Below.refl (wr.alloc (.cells #[.int .i64 k, .string (bs tt), .int .i64 tn, .int .i64 pp] 35)).heap.size _).alloc (Nat.le_refl _) (.cells #[.int .i64 k, .string (bs tt), .int .i64 tn, .int .i64 pp] 35)
    have ha := ha1.trans (ha2.mono ha1.size)
    have HO6 := Lib.hid (own_below HOW.out ha)
    have hbx := Box.new (wr.alloc (.cells #[.int .i64 k, .string (bs tt), .int .i64 tn, .int .i64 pp] 35)) #[.int .i64 k, .string (bs tt), .int .i64 tn, .int .i64 pp] 35
    rw [World.size_alloc] at hbx
    have HTB := Lib.hid (TT.of_box (l := [⟨k, tt, tn, pp⟩]) hbx (by simp))
    have HB6 := Lib.hid (HB5.out.trans (ha.mono (show B ≤ wr.heap.size by have h1 := HB5.out.size; have h2 := HBZ.out; omega)))
    have hL1b : L1 ≤ 3001 := by have := HZL.out; omega
    clear ha1 ha2 ha hbx htk x0 x1 x2 x3 hbA hbb hbA' ht htp1 htp2
    go_wp2_with (refine wpList_append_tks rfl (.tmp 98) (.tmp 100) rfl _ (nx + j) _ rfl HO6.out (some ⟨wr.heap.size + 1, 0, none⟩) [⟨k, tt, tn, pp⟩] 1 1 rfl rfl HTB.out (by omega) (by have h1 := HB6.out.size; have h2 := HBZ.out; omega) ?_; intro A7 c7 w7 ho7 hg7; have HO7 := Lib.hid ho7; have HB7 := Lib.hid (HB6.out.trans (own_grown HO6.out hg7 (by have h1 := HB6.out.size; have h2 := HBZ.out; omega))); clear ho7 hg7 z0 z1 z2 z3)
    go_roundw
    case rel => exact ⟨j + 1, A7, c7, by omega, by go_num, by rw [Nat.add_assoc], by
      have h := HO7.out
      rw [Nat.add_assoc, show tkcs (tx ++ mv L1 (ty.take j)) ++ tkcs [⟨k, tt, tn, pp⟩] = tkcs (tx ++ mv L1 (ty.take (j + 1))) from by rw [HMV.out]; simp [tkcs]] at h
      exact h, HB7.out⟩
    case measure => simp [intOf]; omega
end Go.Proofs.YtojlibeecpmbnaaDoor
