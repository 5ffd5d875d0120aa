/- extend (under way). -/
import Derived.Test.YtobchecnfkocdaaExM
namespace Go.Proofs.Ytobchecnfkocdaa
open Go.RowKit
set_option linter.unusedVariables false
set_option linter.unusedSimpArgs false

set_option maxHeartbeats 8000000 in
set_option maxRecDepth 100000 in
theorem extend_any (B N G : Nat) (gens els : List (List Nat)) (mb : Nat) (Ag : Option Addr) (cg : Nat) (Ae : Option Addr) (ce : Nat) (p : List Nat) (W : World) (h : GS B N W G gens els mb els.length Ag cg Ae ce) (hp : Pm N p) (hN : N ≤ 256) (hgp : ∀ q ∈ gens, Pm N q) (hep : ∀ q ∈ els, Pm N q) (hnd : els.Nodup) (hel : els.length ≤ 4096) (hgl : gens.length ≤ 2000) :
    Calls Try.prog 34 #[.pointer (some ⟨G, 0, none⟩), .agg (eof p)] W (ExtQ B N G mb gens els p W) := by
  have HH := Lib.hid h
  have hok : Ok N p := ⟨hp.1, fun x hx => by have := hp.2.1 x hx; omega⟩
  have hlook := fun (V : World) (hV : Below W.heap.size W V) => (show ∃ S, ME N V mb els.length S ∧ ∀ q, q ∈ S ↔ q ∈ els from (h.up hV).2.2.2.2.1)
  have hsz : B ≤ W.heap.size := by have h1 := h.1.lt; have h2 := h.2.2.2.2.2.1; omega
  have HP := Lib.hid (And.intro hp (And.intro hok (And.intro hgp (And.intro hep (And.intro hnd hsz)))))
  obtain ⟨CX, hCX⟩ : ∃ CX, eof p = CX := ⟨_, rfl⟩
  have HCX := Lib.hid hCX
  rw [hCX]
  have hba := (Below.refl W.heap.size W).alloc (Nat.le_refl _) (.cells CX 55)
  have hx3 := Box.new W CX 55
  obtain ⟨B3, hB3⟩ : ∃ B3, W.heap.size = B3 := ⟨_, rfl⟩
  obtain ⟨V, hV⟩ : ∃ V, W.alloc (.cells CX 55) = V := ⟨_, rfl⟩
  rw [hV] at hba hx3
  rw [hB3] at hx3
  have g3 := (h.up hba).1.cell 3
  simp only [List.getElem?_toArray, List.getElem?_cons_zero, List.getElem?_cons_succ] at g3
  have K0 := Lib.hid (And.intro (h.up hba) (And.intro hx3 hba))
  have HRG := Lib.hid (Box.range (cs := CX.toList) (by rw [Array.toArray_toList]; exact hx3))
  have hlen : CX.toList.length = 256 := by rw [← hCX]; exact eof_len p
  have HLN := Lib.hid hlen
  have hlk : ∀ k, (Instr.lookup 61 (.map (some mb)) (.agg CX) false).run Try.prog (V.drewN k) = .ok (.bool (decide (p ∈ els))) (V.drewN k) := fun k => by
    obtain ⟨S, hS, hm⟩ := hlook (V.drewN k) (hba.trans ((below_drewN V k).mono hba.size))
    have := hS.look hok
    rw [hCX] at this
    rw [this]
    congr 2
    rw [decide_eq_decide]
    exact hm p
  clear h hlook hba hx3 hlen hCX hok hp hgp hep hnd hsz
  go_enter Try.func34, Try.ntmps34
  go_upto_region 1 with fail
  have HB3 := Lib.hid (show W.heap.size ≤ B3 from by rw [hB3]; exact Nat.le_refl _)
  clear hV hB3
  go_step3
  go_upto_region 1 with fail
  refine wp_region_quiet_lit (by kernel_rfl) (by kernel_rfl) ?_
  repeat (quiet_step (fail))
  refine qload rfl 55 (.tmp 3) rfl B3 0 rfl CX.toList _ (by rintro _ ⟨k, rfl⟩; exact HRG.out) Try.underlying55 rfl (by rw [HLN.out]; exact el_whole) ?_
  try simp only [Act.put, List.setIfInBounds_toArray, List.set_cons_zero, List.set_cons_succ, Array.toArray_toList]
  repeat (quiet_step (fail))
  refine wpQuiet_nil ?_
  intro _ hw'
  obtain ⟨nq, rfl⟩ := hw'
  have K1 := Lib.hid (And.intro (K0.out.1.up (below_drewN V nq)) (And.intro (show Box (V.drewN nq) B3 CX 55 from K0.out.2.1) (K0.out.2.2.trans ((below_drewN V nq).mono K0.out.2.2.size))))
  clear hlk g3 K0 HRG
  generalize V.drewN nq = V1 at *
  by_cases hin : p ∈ els
  · have hd : decide (p ∈ els) = true := decide_eq_true hin
    have HF := Lib.hid (show ExtQ B N G mb gens els p W (.returned (.bool true)) V1 from ⟨true, gens, els, Ag, cg, Ae, ce, rfl, K1.out.1, K1.out.2.2.mono HP.out.2.2.2.2.2, .inl ⟨hin, rfl, rfl, rfl⟩⟩)
    go_wp2_with fail
    rw [Exit.noGoto_ret]
    go_ret
    exact HF.out
  have hd : decide (p ∈ els) = false := decide_eq_false hin
  have HIN := Lib.hid hin
  clear hin
  go_upto_region 3 with fail
  have hsz1 : B3 < V1.heap.size := K1.out.2.1.lt
  have hrg1 : V1.rangeAt B3 0 CX.toList := Box.range (by rw [Array.toArray_toList]; exact K1.out.2.1)
  have HDV := Lib.hid (show (fun w' => w'.cell? ⟨G, 1, none⟩ = some (.slice Ag gens.length cg) ∧ w'.rangeAt B3 0 CX.toList) V1.drew from ⟨K1.out.1.1.cell 1, hrg1⟩)
  have HD1 := Lib.hid (fun W' (hb : Below V1.heap.size V1 W') => show (fun w' => w'.cell? ⟨G, 1, none⟩ = some (.slice Ag gens.length cg) ∧ w'.rangeAt B3 0 CX.toList) W' from ⟨(K1.out.1.1.below hb).cell 1, range_below hrg1 hb⟩)
  have hbase : B ≤ (V1.alloc (.cells CX 55)).drew.heap.size := by
    show B ≤ (V1.alloc _).heap.size
    rw [World.size_alloc]
    have := K1.out.2.2.size
    have := HP.out.2.2.2.2.2
    omega
  have hba := (Below.refl V1.heap.size V1).alloc (Nat.le_refl _) (.cells CX 55)
  have HBA := Lib.hid hba.drew
  have HQX := Lib.hid (show Box (V1.alloc (.cells CX 55)).drew V1.heap.size (eof p) 55 from by rw [HCX.out]; exact (Box.new V1 CX _).drew)
  have HBS := Lib.hid (And.intro hbase hsz1)
  clear hsz1 hrg1 hba hbase hd
  refine wp_region_later 10 (fun w' => w'.cell? ⟨G, 1, none⟩ = some (.slice Ag gens.length cg) ∧ w'.rangeAt B3 0 CX.toList) (by kernel_rfl) ?_
  refine takeL (d := some 16) (i := 0) (v := ?v0) rfl rfl (by kernel_rfl) (by kernel_rfl) (by kernel_rfl) (fun _ _ _ h => h) rfl (by kernel_rfl) (Or.inl ⟨by rfl, ?y0⟩) HDV.out ?r0
  case y0 =>
    intro w hSw
    try dsimp only at hSw
    obtain ⟨d0, d1⟩ := hSw
    clear d1
    go_simp
    all_goals with_reducible rfl
  try simp only [Act.put, List.setIfInBounds_toArray, List.set_cons_zero, List.set_cons_succ]
  refine takeL (d := some 17) (i := 1) (v := ?v1) rfl rfl (by kernel_rfl) (by kernel_rfl) (by kernel_rfl) (fun _ _ _ h => h) rfl (by kernel_rfl) (Or.inl ⟨by rfl, ?y1⟩) HDV.out ?r1
  case y1 =>
    intro w hSw
    try dsimp only at hSw
    obtain ⟨d0, d1⟩ := hSw
    clear d1
    go_simp
    all_goals with_reducible rfl
  try simp only [Act.put, List.setIfInBounds_toArray, List.set_cons_zero, List.set_cons_succ]
  refine takeL (d := some 18) (i := 2) (v := ?v2) rfl rfl (by kernel_rfl) (by kernel_rfl) (by kernel_rfl) (fun _ _ _ h => h) rfl (by kernel_rfl) (Or.inl ⟨by rfl, ?y2⟩) HDV.out ?r2
  case y2 =>
    intro w hSw
    try dsimp only at hSw
    obtain ⟨d0, d1⟩ := hSw
    clear d1
    go_simp
    all_goals with_reducible rfl
  try simp only [Act.put, List.setIfInBounds_toArray, List.set_cons_zero, List.set_cons_succ]
  refine takeL (d := some 19) (i := 3) (v := ?v3) rfl rfl (by kernel_rfl) (by kernel_rfl) (by kernel_rfl) (fun _ _ _ h => h) rfl (by kernel_rfl) (Or.inl ⟨by rfl, ?y3⟩) HDV.out ?r3
  case y3 =>
    intro w hSw
    try dsimp only at hSw
    obtain ⟨d0, d1⟩ := hSw
    clear d1
    go_simp
    all_goals with_reducible rfl
  try simp only [Act.put, List.setIfInBounds_toArray, List.set_cons_zero, List.set_cons_succ]
  refine takeL (d := some 20) (i := 4) (v := ?v4) rfl rfl (by kernel_rfl) (by kernel_rfl) (by kernel_rfl) (fun _ _ _ h => h) rfl (by kernel_rfl) (Or.inl ⟨by rfl, ?y4⟩) HDV.out ?r4
  case y4 =>
    intro w hSw
    try dsimp only at hSw
    obtain ⟨d0, d1⟩ := hSw
    clear d1
    go_simp
    all_goals with_reducible rfl
  try simp only [Act.put, List.setIfInBounds_toArray, List.set_cons_zero, List.set_cons_succ]
  refine takeL (d := some 21) (i := 5) (v := .agg CX.toList.toArray) rfl rfl (by kernel_rfl) (by kernel_rfl) (by kernel_rfl) (fun _ _ _ h => h) rfl (by kernel_rfl) (Or.inl ⟨by rfl, ?y5⟩) HDV.out ?r5
  case y5 =>
    intro w hSw
    exact exec_el (x := .tmp 3) rfl (b := B3) (off := 0) rfl hSw.2 HLN.out
  try simp only [Act.put, List.setIfInBounds_toArray, List.set_cons_zero, List.set_cons_succ, Array.toArray_toList]
  refine oneL (i := 6) (by kernel_rfl) rfl (fun K' hK => ?_)
  refine step_el1 (by rfl) (.tmp 21) p (by rfl) (show Value.agg CX = Value.agg (eof p) by rw [HCX.out]) ?_
  rw [HCX.out]
  refine hK.out _ _ (fun _ => HD1.out _ HBA.out) ?_
  clear hK
  refine oneL (i := 7) (by kernel_rfl) rfl (fun K' hK => ?_)
  refine step_append_el (base := B) (by rfl) (.tmp 20) (.tmp 22) (by rfl) (.slice Ag gens.length cg) gens.length gens (by rfl) (own_below K1.out.1.2.1 HBA.out) V1.heap.size p (by rfl) HQX.out (by omega) HBS.out.1 ?_
  intro g c' w11 ho hg hat
  have FIN := Lib.hid (gen_mid HH.out HP.out.2.1 K1.out.1 K1.out.2.1 K1.out.2.2 HBA.out ho hg hat HB3.out)
  have HDW : Hid ((fun w' => w'.cell? ⟨G, 1, none⟩ = some (.slice Ag gens.length cg) ∧ w'.rangeAt B3 0 CX.toList) w11) := ⟨FIN.out.1.cell 1, Box.range (by rw [Array.toArray_toList]; exact FIN.out.2.1)⟩
  have f11 := FIN.out.1.frozen 1
  have c11 : w11.cell? ⟨G, 1, none⟩ = some (.slice Ag gens.length cg) := FIN.out.1.cell 1
  clear ho hg hat
  refine hK.out _ _ (fun _ => HDW.out) ?_
  clear hK
  refine oneL (i := 8) (by kernel_rfl) rfl (fun K' hK => ?_)
  go_simp
  refine hK.out _ _ (fun _ => HDW.out) ?_
  clear hK
  refine oneL (i := 9) (by kernel_rfl) rfl (fun K' hK => ?_)
  go_simp
  refine hK.out _ _ (fun _ => HDW.out) ?_
  clear hK
  refine oneL (i := 10) (by kernel_rfl) rfl (fun K' hK => ?_)
  go_simp
  refine hK.out _ _ (fun e => by simp at e) ?_
  clear hK
  refine doneL (by kernel_rfl) ?_ _
  have F := Lib.hid FIN.out.2.2
  clear f11 c11 HDW FIN K1 HDV HD1 HBA HQX HBS
  generalize World.setCell _ ⟨G, 1, none⟩ _ = V2 at *
  generalize some (⟨g, 0, none⟩ : Addr) = Ag2 at *
  have hgl2 : (gens ++ [p]).length = gens.length + 1 := by rw [List.length_append, List.length_singleton]
  have hgp : ∀ y ∈ gens ++ [p], Pm N y := fun y hy => by
    rcases List.mem_append.1 hy with h | h
    · exact HP.out.2.2.1 y h
    · rw [List.mem_singleton.1 h]; exact HP.out.1
  obtain ⟨gs, hgs⟩ : ∃ gs, gens ++ [p] = gs := ⟨_, rfl⟩
  rw [hgs] at F hgl2 hgp
  have HGS := Lib.hid (And.intro hgs hgp)
  obtain ⟨gn, hgn⟩ : ∃ gn, gs.length = gn := ⟨_, rfl⟩
  have HGN := Lib.hid hgn
  have hgn2 : gn ≤ 2001 := by omega
  have hI0 : InvE N gs els els := ⟨fun q hq => hq, HP.out.2.2.2.2.1, hel, HP.out.2.2.2.1, fun Q h1 h2 q hq => h1 q hq⟩
  have HI0 := Lib.hid hI0
  clear hgl2 hgp hgs hgn hI0
  go_wp2_with fail
  go_step3
  go_wp2_with fail
  go_loopg [5, 6] 4097 (fun gg tm i wr => ∃ (ii : Nat) (es : List (List Nat)) (Ae2 : Option Addr) (ce2 : Nat), ii + gg = 4097 ∧ ii ≤ es.length ∧ tm = .bool false ∧ i = .int .i64 (ii : Int) ∧ GS B N wr G gs es mb es.length Ag2 c' Ae2 ce2 ∧ Below B W wr ∧ InvE N gs els es ∧ (∀ (j : Nat) q, j < ii → es[j]? = some q → ∀ y ∈ gs, mu q y ∈ es))
  case atStart => exact ⟨0, els, Ae, ce, rfl, Nat.zero_le _, rfl, rfl, F.out.1, F.out.2, HI0.out, fun j q h => absurd h (by omega)⟩
  case round =>
    obtain ⟨ii, es, Ae2, ce2, hig, hii, rfl, rfl, hG, hb, hI, hcl⟩ := hrel
    have KR := Lib.hid (And.intro hG (And.intro hb (And.intro hI hcl)))
    have h4096 := hI.2.2.1
    have g2 := hG.1.cell 2
    have g1 := hG.1.cell 1
    simp only [List.getElem?_toArray, List.getElem?_cons_zero, List.getElem?_cons_succ] at g1 g2
    clear hG hb hI hcl F
    obtain ⟨en, hen⟩ : ∃ en, es.length = en := ⟨_, rfl⟩
    have HEN := Lib.hid hen
    rw [hen] at hii h4096 g2
    rw [HGN.out] at g1
    clear hen
    obtain ⟨gg, rfl⟩ : ∃ gg, gk = gg + 1 := ⟨gk - 1, by omega⟩
    by_cases hlt : ii < en
    case neg =>
      have hdj : decide ((ii : Int) < (en : Int)) = false := decide_eq_false (by omega)
      have HF := Lib.hid (show ExtQ B N G mb gens els p W (.returned (.bool true)) wr from ⟨true, gs, es, Ag2, c', Ae2, ce2, rfl, KR.out.1, KR.out.2.1, .inr ⟨HIN.out, HGS.out.1.symm, KR.out.2.2.1.1, KR.out.2.2.1.2.1, KR.out.2.2.1.2.2.1, KR.out.2.2.1.2.2.2.1, KR.out.2.2.1.2.2.2.2, fun _ x hx y hy => by
        obtain ⟨j, hj, e⟩ := List.getElem_of_mem hx
        exact KR.out.2.2.2 j x (by have := HEN.out; omega) (by rw [List.getElem?_eq_getElem hj, e]) y hy, fun h => by cases h⟩⟩)
      go_wp2_with fail
      try rw [Exit.noGoto_ret]
      go_ret
      exact HF.out
    have hdj : decide ((ii : Int) < (en : Int)) = true := decide_eq_true (by omega)
    obtain ⟨z, hz⟩ : ∃ z, es[ii]? = some z := ⟨_, List.getElem?_eq_getElem (by rw [HEN.out]; exact hlt)⟩
    have HZ := Lib.hid hz
    clear hz
    go_wp2_with fail
    go_loopg [5, 40] gn (fun g2 tm s40 wy => ∃ (k : Nat) (es2 : List (List Nat)) (Ae3 : Option Addr) (ce3 : Nat), k + g2 = gn ∧ tm = .bool false ∧ s40 = .int .i64 (k : Int) ∧ GS B N wy G gs es2 mb es2.length Ag2 c' Ae3 ce3 ∧ Below B W wy ∧ InvE N gs els es2 ∧ en ≤ es2.length ∧ es2[ii]? = some z ∧ (∀ (j : Nat) q, j < ii → es2[j]? = some q → ∀ y ∈ gs, mu q y ∈ es2) ∧ (∀ (j : Nat) y, j < k → gs[j]? = some y → mu z y ∈ es2))
    case atStart => exact ⟨0, es, Ae2, ce2, by omega, rfl, rfl, KR.out.1, KR.out.2.1, KR.out.2.2.1, by rw [HEN.out]; exact Nat.le_refl _, HZ.out, KR.out.2.2.2, fun j y h => absurd h (by omega)⟩
    case round =>
      obtain ⟨k, es2, Ae3, ce3, hkg, rfl, rfl, hG, hb, hI, hel2, hz2, hcl, hck⟩ := hrel
      have KS := Lib.hid (And.intro hG (And.intro hb (And.intro hI (And.intro hel2 (And.intro hz2 (And.intro hcl hck))))))
      have h4096' := hI.2.2.1
      have i1 := hG.1.cell 1
      have i2 := hG.1.cell 2
      simp only [List.getElem?_toArray, List.getElem?_cons_zero, List.getElem?_cons_succ] at i1 i2
      clear hG hb hI hel2 hz2 hcl hck KR
      by_cases hkl : k < gn
      case neg =>
        have hdk : decide ((k : Int) < (gn : Int)) = false := decide_eq_false (by omega)
        go_wp2_with fail
        go_roundg gg
        case measure => omega
        case rel =>
          refine ⟨ii + 1, es2, Ae3, ce3, by omega, by have := KS.out.2.2.2.1; omega, rfl, by first | rfl | simp, KS.out.1, KS.out.2.1, KS.out.2.2.1, fun j q hj hq y hy => ?_⟩
          by_cases hji : j < ii
          · exact KS.out.2.2.2.2.2.1 j q hji hq y hy
          · have e : j = ii := by omega
            subst e
            have hqz : q = z := Option.some.inj (hq.symm.trans KS.out.2.2.2.2.1)
            subst hqz
            obtain ⟨m, hm, e⟩ := List.getElem_of_mem hy
            exact KS.out.2.2.2.2.2.2 m y (by have := HGN.out; omega) (by rw [List.getElem?_eq_getElem hm, e])
      have hdk : decide ((k : Int) < (gn : Int)) = true := decide_eq_true (by omega)
      obtain ⟨g2, rfl⟩ : ∃ g2, gk = g2 + 1 := ⟨gk - 1, by omega⟩
      obtain ⟨y, hy⟩ : ∃ y, gs[k]? = some y := ⟨_, List.getElem?_eq_getElem (by rw [HGN.out]; exact hkl)⟩
      have HY := Lib.hid hy
      clear hy
      obtain ⟨gb, hA, hgb, hBgb, hrg⟩ := own_range KS.out.1.2.1 HY.out rfl
      subst hA
      rw [HGN.out] at i1
      obtain ⟨CY, hCY⟩ : ∃ CY, eof y = CY := ⟨_, rfl⟩
      rw [hCY] at hrg
      have HCY := Lib.hid hCY
      have HYL := Lib.hid (show CY.toList.length = 256 from by rw [← hCY]; exact eof_len y)
      have HRY := Lib.hid hrg
      have HYI := Lib.hid (show (Try.prog.info? 55).map (·.size) = some CY.size from hCY ▸ el_info _)
      have HYO := Lib.hid (show CY.all (·.oneCell') = true from by rw [← hCY]; exact ucs_one _)
      have HGB := Lib.hid (And.intro hgb hBgb)
      have HZC := Lib.hid (show (Try.zeroCells55).size = CY.size from by rw [zc_el, ← hCY]; exact (ucs_size _).trans (ucs_size _).symm)
      have HB8 := Lib.hid (Box.new wr Try.zeroCells55 55)
      clear hCY hrg hgb hBgb
      go_upto_region 11 with (first
        | (refine wpList_load_el rfl (.tmp 42) rfl gb (k * 256) (by first | rfl | simp) CY.toList HRY.out HYL.out ?_)
        | (refine wpList_store_row rfl 55 (.tmp 8) (.tmp 43) rfl wr.heap.size CY rfl rfl 55 Try.zeroCells55 HB8.out HYI.out HZC.out HYO.out ?_))
      have hW1 := below_fill' wr Try.zeroCells55 CY 55
      have hX1 := box_fill' wr Try.zeroCells55 CY 55
      obtain ⟨W1, hw1⟩ : ∃ W1, (wr.alloc (.cells Try.zeroCells55 55)).setRow wr.heap.size CY = W1 := ⟨_, rfl⟩
      rw [hw1] at hW1 hX1 ⊢
      have hie : ii < es2.length := by have := KS.out.2.2.2.1; omega
      have hGW := KS.out.1.up hW1
      obtain ⟨ge, hA, hgb, hBgb, hrg⟩ := own_range hGW.2.2.1 KS.out.2.2.2.2.1 rfl
      subst hA
      have HWS := Lib.hid (show B ≤ wr.heap.size by have h1 := HGB.out; omega)
      have KW := Lib.hid (And.intro hGW (KS.out.2.1.trans (hW1.mono HWS.out)))
      obtain ⟨CZ, hCZ⟩ : ∃ CZ, eof z = CZ := ⟨_, rfl⟩
      rw [hCZ] at hrg
      have HCZ := Lib.hid hCZ
      have HZL := Lib.hid (show CZ.toList.length = 256 from by rw [← hCZ]; exact eof_len z)
      obtain ⟨CM, hCM⟩ : ∃ CM, eof (mu z y) = CM := ⟨_, rfl⟩
      have HCM := Lib.hid hCM
      have HMI := Lib.hid (show (Try.prog.info? 55).map (·.size) = some CM.size from hCM ▸ el_info _)
      have HMO := Lib.hid (show CM.all (·.oneCell') = true from by rw [← hCM]; exact ucs_one _)
      have HMZ := Lib.hid (show (Try.zeroCells55).size = CM.size from by rw [zc_el, ← hCM]; exact (ucs_size _).trans (ucs_size _).symm)
      have g0 := hGW.1.cell 0
      have g2 := hGW.1.cell 2
      simp only [List.getElem?_toArray, List.getElem?_cons_zero, List.getElem?_cons_succ] at g0 g2
      have HG0 := Lib.hid g0
      have HPP := Lib.hid (And.intro (KS.out.2.2.1.2.2.2.1 z (List.mem_of_getElem? KS.out.2.2.2.2.1)) (HGS.out.2 y (List.mem_of_getElem? HY.out)))
      have HPR := Lib.hid (fun (V : World) (hV : Below W1.heap.size W1 V) => show Calls Try.prog 41 #[.pointer (some ⟨G, 0, none⟩), .agg CZ, .agg CY] V (fun e w' => e = .returned (.agg CM) ∧ Below V.heap.size V w') from by
        rw [← HCZ.out, ← HCY.out, ← HCM.out]
        exact prod_any G N z y V ((hV.cell (p := ⟨G, 0, none⟩) (World.block_lt_of_cell? W1 _ HG0.out)).trans HG0.out) HPP.out.1 HPP.out.2 hN)
      obtain ⟨B8, hB8⟩ : ∃ b, wr.heap.size = b := ⟨_, rfl⟩
      rw [hB8] at hX1 ⊢
      have HBB := Lib.hid (show B ≤ B8 by rw [← hB8]; exact HWS.out)
      have hry : W1.rangeAt B8 0 CY.toList := Box.range (by rw [Array.toArray_toList]; exact hX1)
      have HX1 := Lib.hid hX1
      have HDV := Lib.hid (show (fun w' => w'.cell? ⟨G, 2, none⟩ = some (.slice (some ⟨ge, 0, none⟩) es2.length ce3) ∧ w'.rangeAt ge (ii * 256) CZ.toList ∧ w'.rangeAt B8 0 CY.toList) W1.drew from ⟨g2, hrg, hry⟩)
      have HD1 := Lib.hid (fun W' (hb : Below W1.heap.size W1 W') => show (fun w' => w'.cell? ⟨G, 2, none⟩ = some (.slice (some ⟨ge, 0, none⟩) es2.length ce3) ∧ w'.rangeAt ge (ii * 256) CZ.toList ∧ w'.rangeAt B8 0 CY.toList) W' from ⟨(hGW.1.below hb).cell 2, range_below hrg hb, range_below hry hb⟩)
      have HWD := Lib.hid (Below.refl W1.heap.size W1).drew
      clear hGW hrg hry g0 g2 hX1 hW1 hw1 hCZ hCM i1 i2 hgb hBgb HB8 HRY HZC hB8 HYI HYO
      try simp only [Act.put]
      refine wp_region_later 11 (fun w' => w'.cell? ⟨G, 2, none⟩ = some (.slice (some ⟨ge, 0, none⟩) es2.length ce3) ∧ w'.rangeAt ge (ii * 256) CZ.toList ∧ w'.rangeAt B8 0 CY.toList) (by kernel_rfl) ?_
      refine takeL (d := some 44) (i := 0) (v := ?v1_0) rfl rfl (by kernel_rfl) (by kernel_rfl) (by kernel_rfl) (fun _ _ _ h => h) rfl (by kernel_rfl) (Or.inl ⟨by rfl, ?z0⟩) HDV.out ?q0
      case z0 =>
        intro w hSw
        try dsimp only at hSw
        obtain ⟨d0, d1⟩ := hSw
        clear d1
        go_simp
        all_goals with_reducible rfl
      try simp only [Act.put, List.setIfInBounds_toArray, List.set_cons_zero, List.set_cons_succ, Array.toArray_toList]
      refine takeL (d := some 45) (i := 1) (v := ?v1_1) rfl rfl (by kernel_rfl) (by kernel_rfl) (by kernel_rfl) (fun _ _ _ h => h) rfl (by kernel_rfl) (Or.inl ⟨by rfl, ?z1⟩) HDV.out ?q1
      case z1 =>
        intro w hSw
        try dsimp only at hSw
        obtain ⟨d0, d1⟩ := hSw
        clear d1
        go_simp
        all_goals with_reducible rfl
      try simp only [Act.put, List.setIfInBounds_toArray, List.set_cons_zero, List.set_cons_succ, Array.toArray_toList]
      refine takeL (d := some 46) (i := 2) (v := ?v1_2) rfl rfl (by kernel_rfl) (by kernel_rfl) (by kernel_rfl) (fun _ _ _ h => h) rfl (by kernel_rfl) (Or.inl ⟨by rfl, ?z2⟩) HDV.out ?q2
      case z2 =>
        intro w hSw
        try dsimp only at hSw
        obtain ⟨d0, d1⟩ := hSw
        clear d1
        go_simp
        all_goals with_reducible rfl
      try simp only [Act.put, List.setIfInBounds_toArray, List.set_cons_zero, List.set_cons_succ, Array.toArray_toList]
      refine takeL (d := some 47) (i := 3) (v := ?v1_3) rfl rfl (by kernel_rfl) (by kernel_rfl) (by kernel_rfl) (fun _ _ _ h => h) rfl (by kernel_rfl) (Or.inl ⟨by rfl, ?z3⟩) HDV.out ?q3
      case z3 =>
        intro w hSw
        try dsimp only at hSw
        obtain ⟨d0, d1⟩ := hSw
        clear d1
        go_simp
        all_goals with_reducible rfl
      try simp only [Act.put, List.setIfInBounds_toArray, List.set_cons_zero, List.set_cons_succ, Array.toArray_toList]
      refine takeL (d := some 48) (i := 4) (v := ?v1_4) rfl rfl (by kernel_rfl) (by kernel_rfl) (by kernel_rfl) (fun _ _ _ h => h) rfl (by kernel_rfl) (Or.inl ⟨by rfl, ?z4⟩) HDV.out ?q4
      case z4 =>
        intro w hSw
        try dsimp only at hSw
        obtain ⟨d0, d1⟩ := hSw
        clear d1
        go_simp
        all_goals with_reducible rfl
      try simp only [Act.put, List.setIfInBounds_toArray, List.set_cons_zero, List.set_cons_succ, Array.toArray_toList]
      refine takeL (d := some 49) (i := 5) (v := ?v1_5) rfl rfl (by kernel_rfl) (by kernel_rfl) (by kernel_rfl) (fun _ _ _ h => h) rfl (by kernel_rfl) (Or.inl ⟨by rfl, ?z5⟩) HDV.out ?q5
      case z5 =>
        intro w hSw
        try dsimp only at hSw
        obtain ⟨d0, d1⟩ := hSw
        clear d1
        go_simp
        all_goals with_reducible rfl
      try simp only [Act.put, List.setIfInBounds_toArray, List.set_cons_zero, List.set_cons_succ, Array.toArray_toList]
      refine takeL (d := some 50) (i := 6) (v := ?v1_6) rfl rfl (by kernel_rfl) (by kernel_rfl) (by kernel_rfl) (fun _ _ _ h => h) rfl (by kernel_rfl) (Or.inl ⟨by rfl, ?z6⟩) HDV.out ?q6
      case z6 =>
        intro w hSw
        try dsimp only at hSw
        obtain ⟨d0, d1⟩ := hSw
        clear d1
        go_simp
        all_goals with_reducible rfl
      try simp only [Act.put, List.setIfInBounds_toArray, List.set_cons_zero, List.set_cons_succ, Array.toArray_toList]
      refine takeL (d := some 51) (i := 7) (v := .agg CZ.toList.toArray) rfl rfl (by kernel_rfl) (by kernel_rfl) (by kernel_rfl) (fun _ _ _ h => h) rfl (by kernel_rfl) (Or.inl ⟨by rfl, ?z7⟩) HDV.out ?q7
      case z7 =>
        intro w hSw
        exact exec_el (x := .tmp 50) rfl (b := ge) (off := ii * 256) rfl hSw.2.1 HZL.out
      try simp only [Act.put, List.setIfInBounds_toArray, List.set_cons_zero, List.set_cons_succ, Array.toArray_toList]
      refine takeL (d := some 52) (i := 8) (v := .agg CY.toList.toArray) rfl rfl (by kernel_rfl) (by kernel_rfl) (by kernel_rfl) (fun _ _ _ h => h) rfl (by kernel_rfl) (Or.inl ⟨by rfl, ?z8⟩) HDV.out ?q8
      case z8 =>
        intro w hSw
        exact exec_el (x := .tmp 8) rfl (b := B8) (off := 0) rfl hSw.2.2 HYL.out
      try simp only [Act.put, List.setIfInBounds_toArray, List.set_cons_zero, List.set_cons_succ, Array.toArray_toList]
      refine twoL (i := 9) (j := 10) (by kernel_rfl) rfl rfl (fun K' hK => ?_) (fun K' hK => ?_)
      · rw [if_pos (by rfl)]
        go_simp
        refine (HPR.out _ HWD.out).mono ?_
        rintro e w5 ⟨rfl, hb5⟩
        have H5 := Lib.hid (HWD.out.trans (hb5.mono HWD.out.size))
        refine hK.out _ _ (fun _ => HD1.out _ H5.out) ?_
        clear hK hb5
        refine oneL (i := 10) (by kernel_rfl) rfl (fun K' hK => ?_)
        go_simp
        have HBX := Lib.hid (Box.new w5 Try.zeroCells55 55)
        have HLE := Lib.hid H5.out.size
        have H6 := Lib.hid (show Below W1.heap.size W1 (w5.alloc (.cells Try.zeroCells55 55)) from H5.out.alloc H5.out.size _)
        clear H5
        refine hK.out _ _ (fun _ => HD1.out _ H6.out) ?_
        clear hK
        refine oneL (i := 11) (by kernel_rfl) rfl (fun K' hK => ?_)
        rw [if_pos (by rfl)]
        refine wp_store_row 55 (.tmp 9) (.tmp 53) rfl w5.heap.size CM (by rfl) (by rfl) 55 Try.zeroCells55 HBX.out HMI.out HMZ.out HMO.out ?_
        have F := Lib.hid (show Box ((w5.alloc (.cells Try.zeroCells55 55)).setRow w5.heap.size CM) w5.heap.size CM 55 ∧ Below W1.heap.size W1 ((w5.alloc (.cells Try.zeroCells55 55)).setRow w5.heap.size CM) ∧ W1.heap.size ≤ w5.heap.size from ⟨Box.setRow HBX.out, H6.out.trans (below_grown (setRow_grown (w5.alloc (.cells Try.zeroCells55 55)) w5.heap.size CM) HLE.out H6.out.size), HLE.out⟩)
        clear HBX H6 HLE HPR HDV HD1 HWD
        refine hK.out _ _ (fun e => by simp at e) ?_
        clear hK
        refine doneL (by kernel_rfl) ?_ _
        generalize World.setRow _ _ _ = V3 at *
        generalize w5.heap.size = b9 at *
        have HSB := Lib.hid (show B ≤ W1.heap.size by have h1 := KW.out.1.1.lt; have h2 := KW.out.1.2.2.2.2.2.1; omega)
        have KV := Lib.hid (And.intro (KW.out.1.up F.out.2.1) (And.intro (KW.out.2.trans (F.out.2.1.mono HSB.out)) F.out.1))
        have hML : CM.toList.length = 256 := by rw [← HCM.out]; exact eof_len _
        have HML := Lib.hid hML
        have HPM := Lib.hid (show Pm N (mu z y) from HPP.out.1.mul HPP.out.2)
        have hok : Ok N (mu z y) := ⟨HPM.out.1, fun x hx => by have := HPM.out.2.1 x hx; omega⟩
        have HOK := Lib.hid hok
        have HRG := Lib.hid (Box.range (cs := CM.toList) (by rw [Array.toArray_toList]; exact KV.out.2.2))
        have hlk : ∀ k, (Instr.lookup 61 (.map (some mb)) (.agg CM) false).run Try.prog (V3.drewN k) = .ok (.bool (decide (mu z y ∈ es2))) (V3.drewN k) := fun k => by
          obtain ⟨S, hS, hm⟩ := (KV.out.1.up (below_drewN V3 k)).2.2.2.2.1
          have := hS.look HOK.out
          rw [HCM.out] at this
          rw [this]
          congr 2
          rw [decide_eq_decide]
          exact hm _
        have g3 := KV.out.1.1.cell 3
        simp only [List.getElem?_toArray, List.getElem?_cons_zero, List.getElem?_cons_succ] at g3
        clear F KW HSB hok hML
        go_upto_region 12 with fail
        refine wp_region_quiet_lit (by kernel_rfl) (by kernel_rfl) ?_
        repeat (quiet_step (fail))
        refine qload rfl 55 (.tmp 9) rfl b9 0 rfl CM.toList _ (by rintro _ ⟨k, rfl⟩; exact HRG.out) Try.underlying55 rfl (by rw [HML.out]; exact el_whole) ?_
        try simp only [Act.put, List.setIfInBounds_toArray, List.set_cons_zero, List.set_cons_succ, Array.toArray_toList]
        repeat (quiet_step (fail))
        refine wpQuiet_nil ?_
        intro _ hw'
        obtain ⟨nq, rfl⟩ := hw'
        have K4 := Lib.hid (And.intro (KV.out.1.up (below_drewN V3 nq)) (And.intro (KV.out.2.1.trans ((below_drewN V3 nq).mono (Nat.le_trans HP.out.2.2.2.2.2 KV.out.2.1.size))) (show Box (V3.drewN nq) b9 CM 55 from KV.out.2.2)))
        clear hlk g3 KV HRG
        generalize V3.drewN nq = V4 at *
        by_cases hin : mu z y ∈ es2
        · have hd : decide (mu z y ∈ es2) = true := decide_eq_true hin
          have HI2 := Lib.hid hin
          clear hin
          go_wp2_with fail
          go_roundg g2
          case measure => omega
          case rel =>
            refine ⟨k + 1, es2, _, _, by omega, rfl, by first | rfl | simp, K4.out.1, K4.out.2.1, KS.out.2.2.1, KS.out.2.2.2.1, KS.out.2.2.2.2.1, KS.out.2.2.2.2.2.1, fun j y' hj hy' => ?_⟩
            by_cases hjk : j < k
            · exact KS.out.2.2.2.2.2.2 j y' hjk hy'
            · have e : j = k := by omega
              subst e
              have e2 : y' = y := Option.some.inj (hy'.symm.trans HY.out)
              rw [e2]
              exact HI2.out
        have hd : decide (mu z y ∈ es2) = false := decide_eq_false hin
        have HI2 := Lib.hid hin
        clear hin
        have h2 := K4.out.1.1.cell 2
        simp only [List.getElem?_toArray, List.getElem?_cons_zero, List.getElem?_cons_succ] at h2
        obtain ⟨m2, hm2⟩ : ∃ m2, es2.length = m2 := ⟨_, rfl⟩
        have HM2 := Lib.hid hm2
        rw [hm2] at h2 h4096'
        clear hm2
        by_cases hfull : m2 = 4096
        · have hde : decide ((m2 : Int) = 4096) = true := decide_eq_true (by omega)
          have hdf : ((m2 : Int) == 4096) = true := by simp; omega
          have HFU := Lib.hid hfull
          have HF := Lib.hid (show ExtQ B N G mb gens els p W (.returned (.bool false)) V4 from ⟨false, gs, es2, _, _, _, _, rfl, K4.out.1, K4.out.2.1, .inr ⟨HIN.out, HGS.out.1.symm, KS.out.2.2.1.1, KS.out.2.2.1.2.1, KS.out.2.2.1.2.2.1, KS.out.2.2.1.2.2.2.1, KS.out.2.2.1.2.2.2.2, fun h => (by cases h), fun _ => ⟨HM2.out.trans HFU.out, z, y, List.mem_of_getElem? KS.out.2.2.2.2.1, List.mem_of_getElem? HY.out, HI2.out⟩⟩⟩)
          go_wp2_with fail
          try rw [Exit.noGoto_ret]
          go_ret
          exact HF.out
        have hde : decide ((m2 : Int) = 4096) = false := decide_eq_false (by omega)
        have HFU := Lib.hid (show es2.length ≠ 4096 from by rw [HM2.out]; exact hfull)
        have hdf : ((m2 : Int) == 4096) = false := by simp; omega
        have hdg : ¬ ((m2 : Int) = 4096) := by omega
        have HRG := Lib.hid (Box.range (cs := CM.toList) (by rw [Array.toArray_toList]; exact K4.out.2.2))
        have HPT := Lib.hid (show Calls Try.prog 40 #[.pointer (some ⟨G, 0, none⟩), .agg CM] V4 (fun e W' => e = .returned (.tuple #[]) ∧ ∃ Ae' ce', GS B N W' G gs (es2 ++ [mu z y]) mb (es2.length + 1) (some ⟨gb, 0, none⟩) c' Ae' ce' ∧ Below B V4 W') from by
          have := put_any B N G gs es2 mb es2.length _ _ _ _ (mu z y) V4 K4.out.1 HOK.out hN (by have := KS.out.2.2.1.2.2.1; omega) (by have := KS.out.2.2.1.2.2.1; omega)
          rw [HCM.out] at this
          exact this)
        go_wp2_with (first
          | (refine wpList_load_el rfl (.tmp 9) rfl b9 0 (by first | rfl | simp) CM.toList HRG.out HML.out ?_)
          | (go_at_call 40; (with_reducible refine HPT.out.mono ?_); rintro e w6 ⟨rfl, Ae6, ce6, hG6, hb6⟩; have H6 := Lib.hid (And.intro hG6 hb6); clear hG6 hb6))
        go_roundg g2
        case measure => omega
        case rel =>
          have hl : (es2 ++ [mu z y]).length = es2.length + 1 := by rw [List.length_append, List.length_singleton]
          have hin2 := KS.out.2.2.1.add (List.mem_of_getElem? KS.out.2.2.2.2.1) (List.mem_of_getElem? HY.out) HPP.out.2 HI2.out HFU.out
          refine ⟨k + 1, es2 ++ [mu z y], Ae6, ce6, by omega, rfl, by first | rfl | simp, by rw [hl]; exact H6.out.1, K4.out.2.1.trans (H6.out.2.mono (Nat.le_refl _)), hin2, by rw [hl]; have := KS.out.2.2.2.1; omega, ?_, fun j q hj hq y' hy' => ?_, fun j y' hj hy' => ?_⟩
          · rw [List.getElem?_append_left (by have := KS.out.2.2.2.1; omega)]
            exact KS.out.2.2.2.2.1
          · rw [List.getElem?_append_left (by have := KS.out.2.2.2.1; omega)] at hq
            exact List.mem_append_left _ (KS.out.2.2.2.2.2.1 j q hj hq y' hy')
          · by_cases hjk : j < k
            · exact List.mem_append_left _ (KS.out.2.2.2.2.2.2 j y' hjk hy')
            · have e : j = k := by omega
              subst e
              have e2 : y' = y := Option.some.inj (hy'.symm.trans HY.out)
              rw [e2]
              exact List.mem_append_right _ (List.mem_singleton.2 rfl)
      · go_simp
        have HB0 := Lib.hid (show Box (W1.alloc (.cells Try.zeroCells55 55)).drew W1.heap.size Try.zeroCells55 55 from (Box.new W1 _ _).drew)
        have H0 := Lib.hid (show Below W1.heap.size W1 (W1.alloc (.cells Try.zeroCells55 55)).drew from ((Below.refl W1.heap.size W1).alloc (Nat.le_refl _) _).drew)
        refine hK.out _ _ (fun _ => HD1.out _ H0.out) ?_
        clear hK
        refine oneL (i := 9) (by kernel_rfl) rfl (fun K' hK => ?_)
        rw [if_pos (by rfl)]
        go_simp
        refine (HPR.out _ H0.out).mono ?_
        rintro e w5 ⟨rfl, hb5⟩
        have H6 := Lib.hid (H0.out.trans (hb5.mono H0.out.size))
        have HBX := Lib.hid (HB0.out.below hb5)
        have HLE := Lib.hid (Nat.le_refl W1.heap.size)
        clear HB0 H0 hb5
        refine hK.out _ _ (fun _ => HD1.out _ H6.out) ?_
        clear hK
        refine oneL (i := 11) (by kernel_rfl) rfl (fun K' hK => ?_)
        rw [if_pos (by rfl)]
        refine wp_store_row 55 (.tmp 9) (.tmp 53) rfl W1.heap.size CM (by rfl) (by rfl) 55 Try.zeroCells55 HBX.out HMI.out HMZ.out HMO.out ?_
        have F := Lib.hid (show Box ((w5).setRow W1.heap.size CM) W1.heap.size CM 55 ∧ Below W1.heap.size W1 ((w5).setRow W1.heap.size CM) ∧ W1.heap.size ≤ W1.heap.size from ⟨Box.setRow HBX.out, H6.out.trans (below_grown (setRow_grown (w5) W1.heap.size CM) HLE.out H6.out.size), HLE.out⟩)
        clear HBX H6 HLE HPR HDV HD1 HWD
        refine hK.out _ _ (fun e => by simp at e) ?_
        clear hK
        refine doneL (by kernel_rfl) ?_ _
        obtain ⟨b9, hb9⟩ : ∃ b9, W1.heap.size = b9 := ⟨_, rfl⟩
        have F2 := Lib.hid (show Box (w5.setRow W1.heap.size CM) b9 CM 55 ∧ Below W1.heap.size W1 (w5.setRow W1.heap.size CM) ∧ W1.heap.size ≤ b9 from by rw [← hb9]; exact F.out)
        clear F
        have F := F2
        clear F2
        generalize World.setRow w5 W1.heap.size CM = V3 at *
        rw [hb9]
        clear hb9
        have HSB := Lib.hid (show B ≤ W1.heap.size by have h1 := KW.out.1.1.lt; have h2 := KW.out.1.2.2.2.2.2.1; omega)
        have KV := Lib.hid (And.intro (KW.out.1.up F.out.2.1) (And.intro (KW.out.2.trans (F.out.2.1.mono HSB.out)) F.out.1))
        have hML : CM.toList.length = 256 := by rw [← HCM.out]; exact eof_len _
        have HML := Lib.hid hML
        have HPM := Lib.hid (show Pm N (mu z y) from HPP.out.1.mul HPP.out.2)
        have hok : Ok N (mu z y) := ⟨HPM.out.1, fun x hx => by have := HPM.out.2.1 x hx; omega⟩
        have HOK := Lib.hid hok
        have HRG := Lib.hid (Box.range (cs := CM.toList) (by rw [Array.toArray_toList]; exact KV.out.2.2))
        have hlk : ∀ k, (Instr.lookup 61 (.map (some mb)) (.agg CM) false).run Try.prog (V3.drewN k) = .ok (.bool (decide (mu z y ∈ es2))) (V3.drewN k) := fun k => by
          obtain ⟨S, hS, hm⟩ := (KV.out.1.up (below_drewN V3 k)).2.2.2.2.1
          have := hS.look HOK.out
          rw [HCM.out] at this
          rw [this]
          congr 2
          rw [decide_eq_decide]
          exact hm _
        have g3 := KV.out.1.1.cell 3
        simp only [List.getElem?_toArray, List.getElem?_cons_zero, List.getElem?_cons_succ] at g3
        clear F KW HSB hok hML
        go_upto_region 12 with fail
        refine wp_region_quiet_lit (by kernel_rfl) (by kernel_rfl) ?_
        repeat (quiet_step (fail))
        refine qload rfl 55 (.tmp 9) rfl b9 0 rfl CM.toList _ (by rintro _ ⟨k, rfl⟩; exact HRG.out) Try.underlying55 rfl (by rw [HML.out]; exact el_whole) ?_
        try simp only [Act.put, List.setIfInBounds_toArray, List.set_cons_zero, List.set_cons_succ, Array.toArray_toList]
        repeat (quiet_step (fail))
        refine wpQuiet_nil ?_
        intro _ hw'
        obtain ⟨nq, rfl⟩ := hw'
        have K4 := Lib.hid (And.intro (KV.out.1.up (below_drewN V3 nq)) (And.intro (KV.out.2.1.trans ((below_drewN V3 nq).mono (Nat.le_trans HP.out.2.2.2.2.2 KV.out.2.1.size))) (show Box (V3.drewN nq) b9 CM 55 from KV.out.2.2)))
        clear hlk g3 KV HRG
        generalize V3.drewN nq = V4 at *
        by_cases hin : mu z y ∈ es2
        · have hd : decide (mu z y ∈ es2) = true := decide_eq_true hin
          have HI2 := Lib.hid hin
          clear hin
          go_wp2_with fail
          go_roundg g2
          case measure => omega
          case rel =>
            refine ⟨k + 1, es2, _, _, by omega, rfl, by first | rfl | simp, K4.out.1, K4.out.2.1, KS.out.2.2.1, KS.out.2.2.2.1, KS.out.2.2.2.2.1, KS.out.2.2.2.2.2.1, fun j y' hj hy' => ?_⟩
            by_cases hjk : j < k
            · exact KS.out.2.2.2.2.2.2 j y' hjk hy'
            · have e : j = k := by omega
              subst e
              have e2 : y' = y := Option.some.inj (hy'.symm.trans HY.out)
              rw [e2]
              exact HI2.out
        have hd : decide (mu z y ∈ es2) = false := decide_eq_false hin
        have HI2 := Lib.hid hin
        clear hin
        have h2 := K4.out.1.1.cell 2
        simp only [List.getElem?_toArray, List.getElem?_cons_zero, List.getElem?_cons_succ] at h2
        obtain ⟨m2, hm2⟩ : ∃ m2, es2.length = m2 := ⟨_, rfl⟩
        have HM2 := Lib.hid hm2
        rw [hm2] at h2 h4096'
        clear hm2
        by_cases hfull : m2 = 4096
        · have hde : decide ((m2 : Int) = 4096) = true := decide_eq_true (by omega)
          have hdf : ((m2 : Int) == 4096) = true := by simp; omega
          have HFU := Lib.hid hfull
          have HF := Lib.hid (show ExtQ B N G mb gens els p W (.returned (.bool false)) V4 from ⟨false, gs, es2, _, _, _, _, rfl, K4.out.1, K4.out.2.1, .inr ⟨HIN.out, HGS.out.1.symm, KS.out.2.2.1.1, KS.out.2.2.1.2.1, KS.out.2.2.1.2.2.1, KS.out.2.2.1.2.2.2.1, KS.out.2.2.1.2.2.2.2, fun h => (by cases h), fun _ => ⟨HM2.out.trans HFU.out, z, y, List.mem_of_getElem? KS.out.2.2.2.2.1, List.mem_of_getElem? HY.out, HI2.out⟩⟩⟩)
          go_wp2_with fail
          try rw [Exit.noGoto_ret]
          go_ret
          exact HF.out
        have hde : decide ((m2 : Int) = 4096) = false := decide_eq_false (by omega)
        have HFU := Lib.hid (show es2.length ≠ 4096 from by rw [HM2.out]; exact hfull)
        have hdf : ((m2 : Int) == 4096) = false := by simp; omega
        have hdg : ¬ ((m2 : Int) = 4096) := by omega
        have HRG := Lib.hid (Box.range (cs := CM.toList) (by rw [Array.toArray_toList]; exact K4.out.2.2))
        have HPT := Lib.hid (show Calls Try.prog 40 #[.pointer (some ⟨G, 0, none⟩), .agg CM] V4 (fun e W' => e = .returned (.tuple #[]) ∧ ∃ Ae' ce', GS B N W' G gs (es2 ++ [mu z y]) mb (es2.length + 1) (some ⟨gb, 0, none⟩) c' Ae' ce' ∧ Below B V4 W') from by
          have := put_any B N G gs es2 mb es2.length _ _ _ _ (mu z y) V4 K4.out.1 HOK.out hN (by have := KS.out.2.2.1.2.2.1; omega) (by have := KS.out.2.2.1.2.2.1; omega)
          rw [HCM.out] at this
          exact this)
        go_wp2_with (first
          | (refine wpList_load_el rfl (.tmp 9) rfl b9 0 (by first | rfl | simp) CM.toList HRG.out HML.out ?_)
          | (go_at_call 40; (with_reducible refine HPT.out.mono ?_); rintro e w6 ⟨rfl, Ae6, ce6, hG6, hb6⟩; have H6 := Lib.hid (And.intro hG6 hb6); clear hG6 hb6))
        go_roundg g2
        case measure => omega
        case rel =>
          have hl : (es2 ++ [mu z y]).length = es2.length + 1 := by rw [List.length_append, List.length_singleton]
          have hin2 := KS.out.2.2.1.add (List.mem_of_getElem? KS.out.2.2.2.2.1) (List.mem_of_getElem? HY.out) HPP.out.2 HI2.out HFU.out
          refine ⟨k + 1, es2 ++ [mu z y], Ae6, ce6, by omega, rfl, by first | rfl | simp, by rw [hl]; exact H6.out.1, K4.out.2.1.trans (H6.out.2.mono (Nat.le_refl _)), hin2, by rw [hl]; have := KS.out.2.2.2.1; omega, ?_, fun j q hj hq y' hy' => ?_, fun j y' hj hy' => ?_⟩
          · rw [List.getElem?_append_left (by have := KS.out.2.2.2.1; omega)]
            exact KS.out.2.2.2.2.1
          · rw [List.getElem?_append_left (by have := KS.out.2.2.2.1; omega)] at hq
            exact List.mem_append_left _ (KS.out.2.2.2.2.2.1 j q hj hq y' hy')
          · by_cases hjk : j < k
            · exact List.mem_append_left _ (KS.out.2.2.2.2.2.2 j y' hjk hy')
            · have e : j = k := by omega
              subst e
              have e2 : y' = y := Option.some.inj (hy'.symm.trans HY.out)
              rw [e2]
              exact List.mem_append_right _ (List.mem_singleton.2 rfl)
end Go.Proofs.Ytobchecnfkocdaa
