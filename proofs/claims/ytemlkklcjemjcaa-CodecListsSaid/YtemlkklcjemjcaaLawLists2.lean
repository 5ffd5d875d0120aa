/- The law of lists: the walk. -/
import Derived.Test.YtemlkklcjemjcaaLawLists
import Derived.IntWalk
namespace Go.Proofs.Ytemlkklcjemjcaa
open Go.RowKit
set_option linter.unusedVariables false

set_option maxHeartbeats 1000000 in
set_option maxRecDepth 100000 in
theorem lawLists_any (len cap : Nat) (f : Nat → T) (a : Option Addr) (w : World) (hml : len ≤ maxLen) (hrs : RdS w.heap.size w len f a) :
    Calls Try.prog 8 #[.slice a len cap] w fun e w' => e = .returned (.bool true) ∧ Below w.heap.size w w' := by
  obtain ⟨i0, hi0, hz0, hz1, hz2⟩ := info_parts u8_info
  obtain ⟨iv, hv0, hy0, hy1, hy2⟩ := info_parts val_info
  have hsm : ∀ i, i < len → few1 (f i) 20 = true → dep (f i) ≤ 21 ∧ (enc (f i)).length ≤ 42200 := by
    intro i hi hf
    obtain ⟨b, off, c0, c1, c2, c3, _, _, _, _, _, _, hr⟩ := hrs.at_ (Below.refl _ _) hi
    exact few1_small hr.short hf
  have HSM := Lib.hid hsm
  clear hsm
  have hbw := Below.refl w.heap.size w
  go_enter Try.func8, Try.ntmps8
  go_wp2_with fail
  refine (sane_any _).mono ?_
  rintro e w1 ⟨rfl, hb1⟩
  have hbw := hbw.trans (hb1.mono hbw.size)
  clear hb1
  have HC := Lib.hid (few_any len cap _ _ _ hml (hrs.up hbw))
  go_wp2_with fail
  refine HC.out.mono ?_
  rintro e w2 ⟨rfl, hb1⟩
  have hbw := hbw.trans (hb1.mono hbw.size)
  clear hb1 HC
  cases hfew : allTo (fun i => few1 (f i) 20) len
  · clear hfew
    go_wp2_with fail
    go_ret
    exact ⟨rfl, hbw⟩
  have hfw : ∀ i, i < len → few1 (f i) 20 = true := allTo_eq.1 hfew
  by_cases h20 : 20 < len
  · clear hfew
    go_wp2_with fail
    go_ret
    exact ⟨rfl, hbw⟩
  clear hfew
  have HFW := Lib.hid hfw
  have HRS := Lib.hid hrs
  clear hfw hrs
  have hlen20 : len ≤ 20 := by omega
  clear hml h20
  go_wp2_with fail
  go_loopw [3, 4, 5, 31] (fun wa ze su i wr => ∃ j : Nat, j ≤ len ∧ i = .int .i64 j ∧ wr.ownsRow w.heap.size 5 1 wa (catTo (fun i => enc (f i)) j).length ((catTo (fun i => enc (f i)) j).map bv) ∧
      wr.ownsRow w.heap.size 24 4 ze j (zs j) ∧ su = .int .i64 (catTo (fun i => enc (f i)) j).length ∧ (catTo (fun i => enc (f i)) j).length ≤ 42200 * j ∧ (∀ i, i < j → chk (f i) = 0) ∧ Below w.heap.size w wr) (fun _ _ _ i _ => len - (intOf i).toNat)
  case atStart =>
    exact ⟨0, Nat.zero_le _, rfl, World.ownsRow_nil _ _ _ _, World.ownsRow_nil _ _ _ _, rfl, by simp [catTo], fun i hi => by omega, hbw⟩
  case round =>
    clear hbw
    obtain ⟨j, hj, rfl, ho1, ho2, rfl, hcat, hck, hbw⟩ := hrel
    have HCK := Lib.hid hck
    clear hck
    obtain ⟨Aw, cw, rfl⟩ := own_form ho1
    obtain ⟨Az, cz, rfl⟩ := own_form ho2
    by_cases hlt : j < len
    · obtain ⟨b, off, c0, c1, c2, c3, rfl, hbl, e0, e1, e2, e3, hr⟩ := HRS.out.at_ hbw hlt
      obtain ⟨k1, n1, s1, a1, l1, m1, rfl, rfl, rfl, rfl⟩ := hr.form
      have hbl1 : b < wr.heap.size := by have := hbw.size; omega
      have hx : catTo (fun i => enc (f i)) (j + 1) = catTo (fun i => enc (f i)) j ++ enc (f j) := rfl
      have HX := Lib.hid hx
      clear hx
      generalize catTo (fun i => enc (f i)) j = E at *
      have hb2 := (Below.refl wr.heap.size wr).alloc (Nat.le_refl _) (.cells #[.int .i64 k1, .int .i64 n1, .string s1, .slice a1 l1 m1] 24)
      have q7 := Box.new wr #[.int .i64 k1, .int .i64 n1, .string s1, .slice a1 l1 m1] 24
      have hr := hr.up hb2
      have ho1 := own_up ho1 hb2
      have ho2 := own_up ho2 hb2
      have hbw := hbw.trans (hb2.mono hbw.size)
      clear hb2
      have HC := Lib.hid (encode_any (f j) _ _ hr (HFW.out j hlt))
      go_wp2_with fail
      refine HC.out.mono ?_
      rintro e w3 ⟨A1, C1, rfl, ho3, hb1⟩
      have q7 := q7.below hb1
      have hr := hr.up hb1
      have ho1 := own_up ho1 hb1
      have ho2 := own_up ho2 hb1
      have hbw := hbw.trans (hb1.mono hbw.size)
      clear hb1 HC e0 e1 e2 e3
      have c70 := q7.cell 0
      have c71 := q7.cell 1
      have c72 := q7.cell 2
      have c73 := q7.cell 3
      simp only [List.getElem?_toArray, List.getElem?_cons_zero, List.getElem?_cons_succ] at c70 c71 c72 c73
      have HC := Lib.hid (size_any (f j) _ _ hr (HFW.out j hlt))
      go_wp2_with fail
      refine HC.out.mono ?_
      rintro e w4 ⟨rfl, hb1⟩
      have ho1 := own_up ho1 hb1
      have ho2 := own_up ho2 hb1
      have ho3 := own_up ho3 hb1
      have hbw := hbw.trans (hb1.mono hbw.size)
      clear hb1 HC c70 c71 c72 c73 q7 hr
      by_cases k : chk (f j) = 0
      · have hO : out (f j) = enc (f j) := by unfold out; rw [if_pos k]
        have hpl := (HSM.out j hlt (HFW.out j hlt)).2
        have hpp := enc_pos (f j)
        rw [hO] at ho3
        rw [hO, k]
        have HK := Lib.hid k
        clear hO k
        generalize enc (f j) = P at *
        obtain ⟨g, rfl, hsrc⟩ := own_src ho3 hpp
        have hol := ho1.lt
        go_wp2_with (at_builtin; refine wpList_append_own _ rfl (.tmp 68) (.tmp 69) 27 rfl w.heap.size 5 i0 (.int .u8 0) 1 1 Try.underlying27 hi0 hz0 hz1 hz2 rfl (by decide) _ E.length (E.map bv) rfl ho1 ⟨g, 0, none⟩ P.length C1 (P.map bv) rfl (by simp) hsrc (bv_one _) (le_maxLen (by omega)) (by omega) hbw.size ?_; intro v3 w5 ho4 hg3 _; have ho5 := ho2.kept hg3 (own_ne ho2 ho1 (by decide)); have hbw5 := hbw.grown hg3 hbw.size (fun k hk => (hol k hk).1); clear hsrc ho3 hg3 hol ho1 ho2 hbw)
        refine (Int_any 0 _).mono ?_
        rintro e w6 ⟨rfl, hb1⟩
        have ho4 := (own_up ho4 hb1).alloc (.cells #[.int .i64 1, .int .i64 0, .string ⟨#[]⟩, .slice none 0 0] 24)
        have ho5 := (own_up ho5 hb1).alloc (.cells #[.int .i64 1, .int .i64 0, .string ⟨#[]⟩, .slice none 0 0] 24)
        have hbw6 := hbw5.trans (hb1.mono hbw5.size)
        have hbw7 := hbw6.alloc hbw6.size (.cells #[.int .i64 1, .int .i64 0, .string ⟨#[]⟩, .slice none 0 0] 24)
        clear hb1 hbw5
        have hol := ho5.lt
        have hone : ∀ x ∈ [Value.int .i64 1, .int .i64 0, .string ⟨#[]⟩, .slice none 0 0], x.oneCell' = true := by simp [Value.oneCell']
        have hnw := World.news_of_block (w := w6.alloc (.cells #[.int .i64 1, .int .i64 0, .string ⟨#[]⟩, .slice none 0 0] 24)) (B := w6.heap.size) (cs := #[.int .i64 1, .int .i64 0, .string ⟨#[]⟩, .slice none 0 0]) (t := 24) (fr := (0, 0)) (heap_alloc_new w6 _)
        have HNW := Lib.hid hnw
        have HONE := Lib.hid hone
        clear hnw hone
        have h63 : j + 1 ≤ maxLen := le_maxLen (by omega)
        have h47 : (j + 1) * 56 ≤ 140737488355328 := by omega
        go_wp2_with (at_builtin; refine wpList_append_own _ rfl (.tmp 71) (.tmp 73) 22 rfl w.heap.size 24 iv _ 4 56 Try.underlying22 hv0 hy0 hy1 hy2 rfl (by decide) _ j (zs j) rfl ho5 ⟨w6.heap.size, 0, none⟩ 1 1 [.int .i64 1, .int .i64 0, .string ⟨#[]⟩, .slice none 0 0] rfl rfl HNW.out HONE.out h63 h47 hbw7.size ?_; intro v8 w8 ho8 hg8 _; have ho9 := ho4.kept hg8 (own_ne ho4 ho5 (by decide)); have hbw8 := hbw7.grown hg8 hbw7.size (fun k hk => (hol k hk).1); clear hg8 hol ho4 ho5 hbw7 hbw6)
        go_roundw
        case rel =>
          exact ⟨j + 1, by omega, by go_num, by rw [HX.out, List.length_append, List.map_append]; exact ho9, ho8, congrArg (Value.int .i64) (by rw [HX.out, List.length_append]; omega), by rw [HX.out, List.length_append]; omega,
            fun i hi => if e : i = j then by rw [e]; exact HK.out else HCK.out i (by omega), hbw8⟩
        case measure => simp [intOf]; omega
      · have hnn := lst_bad hlt k
        have hdl : dep (lst len f) ≤ 22 := by
          rw [lst_dep]
          have := maxTo_le (g := fun i => dep (f i)) (n := len) (M := 21) (fun i hi => (HSM.out i hi (HFW.out i hi)).1)
          omega
        have HNN := Lib.hid hnn
        have HDL := Lib.hid hdl
        clear hnn hdl
        generalize chk (f j) = X at *
        generalize out (f j) = O at *
        clear ho1 ho2 ho3 HX
        go_wp2_with fail
        refine (List_any _ len cap _).mono ?_
        rintro e w5 ⟨rfl, hb1⟩
        have hbw := hbw.trans (hb1.mono hbw.size)
        clear hb1
        have HC := Lib.hid (encode_bad (lst len f) _ _ (lst_rd (cap := cap) (le_maxLen (by omega)) (HRS.out.up hbw)) (by have := HDL.out; omega) HNN.out)
        go_wp2_with fail
        refine HC.out.mono ?_
        rintro e w6 ⟨rfl, hb1⟩
        have hbw := hbw.trans (hb1.mono hbw.size)
        clear hb1 HC
        have hcn : (chk (lst len f) != 0 : Bool) = true := by simpa using HNN.out
        generalize chk (lst len f) = Y at *
        go_wp2_with fail
        go_ret
        first
          | exact ⟨rfl, hbw⟩
          | exact ⟨ret_bool hcn, hbw⟩
          | fail
    · obtain rfl : j = len := by omega
      have hdl : dep (lst j f) ≤ 22 := by
        rw [lst_dep]
        have := maxTo_le (g := fun i => dep (f i)) (n := j) (M := 21) (fun i hi => (HSM.out i hi (HFW.out i hi)).1)
        omega
      have hE := lst_enc j f
      have hNL := num_length j
      have HDL := Lib.hid hdl
      clear hdl
      generalize catTo (fun i => enc (f i)) j = E at *
      go_wp2_with fail
      refine (List_any a j cap _).mono ?_
      rintro e w5 ⟨rfl, hb1⟩
      have ho1 := own_up ho1 hb1
      have ho2 := own_up ho2 hb1
      have hbw := hbw.trans (hb1.mono hbw.size)
      clear hb1
      have hrl := lst_rd (cap := cap) (le_maxLen (by omega)) (HRS.out.up hbw)
      by_cases k : chk (lst j f) = 0
      case neg =>
        have HC := Lib.hid (encode_bad (lst j f) _ _ hrl (by have := HDL.out; omega) k)
        rw [lst_limit HCK.out k] at HC
        clear k hrl hE
        go_wp2_with fail
        refine HC.out.mono ?_
        rintro e w6 ⟨rfl, hb1⟩
        have hbw := hbw.trans (hb1.mono hbw.size)
        clear hb1 HC
        go_wp2_with fail
        go_ret
        exact ⟨rfl, hbw⟩
      have hll : (3 :: (num j ++ E) : List UInt8).length = 1 + (num j).length + E.length := by rw [List.length_cons, List.length_append]; omega
      have hdr : (3 :: (num j ++ E) : List UInt8).drop (1 + (num j).length) = E := by rw [Nat.add_comm, List.drop_succ_cons]; exact List.drop_left
      have HC := Lib.hid (encode_good (lst j f) _ _ hrl (by have := HDL.out; omega) k (by rw [hE, hll]; omega))
      rw [hE] at HC
      have HDR := Lib.hid hdr
      clear k hrl hE hdr
      generalize (3 :: (num j ++ E) : List UInt8) = c at *
      have HLL := Lib.hid hll
      clear hll
      go_wp2_with fail
      refine HC.out.mono ?_
      rintro e w6 ⟨u, rfl, ho3, hb1⟩
      have ho1 := own_up ho1 hb1
      have ho2 := own_up ho2 hb1
      have hbw := hbw.trans (hb1.mono hbw.size)
      obtain ⟨A3, C3, rfl⟩ := own_form ho3
      obtain ⟨g, rfl, _⟩ := own_src ho3 (by have := HLL.out; omega)
      clear hb1 HC
      go_wp2_with fail
      refine (List_any Az j cz _).mono ?_
      rintro e w7 ⟨rfl, hb1⟩
      have ho1 := own_up ho1 hb1
      have ho2 := own_up ho2 hb1
      have ho3 := own_up ho3 hb1
      have hbw := hbw.trans (hb1.mono hbw.size)
      clear hb1
      obtain ⟨A4, C4, hv4, hrz⟩ := zs_list ho2 (le_maxLen (by omega))
      injection hv4 with e1 _ e2
      subst e1 e2
      obtain ⟨z1, z2, z3⟩ := zeros_facts j
      have HC := Lib.hid (size_good _ _ _ hrz (by omega) z2 (by omega))
      clear z1 z2 hrz
      generalize (enc (tList (List.replicate j (tInt 0)))).length = SZ at *
      have HZ := Lib.hid z3
      clear z3
      generalize (num j).length = NL at *
      go_wp2_with fail
      refine HC.out.mono ?_
      rintro e w8 ⟨rfl, hb1⟩
      have ho1 := own_up ho1 hb1
      have ho3 := own_up ho3 hb1
      have hbw := hbw.trans (hb1.mono hbw.size)
      clear hb1 HC ho2
      have hb0 : E.length ≤ c.length := by have := HLL.out; omega
      have hb9 : c.length ≤ 900000 := by have := HLL.out; omega
      go_wp2_with fail
      have hat : (c.length : Int) - (E.length : Int) = ((1 + NL : Nat) : Int) := by have := HLL.out; omega
      rw [hat]
      clear hat
      have hbd := (Below.refl w8.heap.size w8).drew
      have ho1 := own_up ho1 hbd
      have ho3 := own_up ho3 hbd
      have hbw := hbw.drew
      clear hbd
      obtain ⟨hB, d1, d2⟩ := Bs.of_own ho3
      have hcv1 := run_str_own ho1
      have hB2 := hB.drop (n := 1 + NL)
      rw [HDR.out] at hB2
      have hcv2 : (convert 27 9 (.slice (if C3 = 1 + NL then some ⟨g, 0, none⟩ else some ⟨g, 1 + NL, none⟩) E.length (C3 - (1 + NL)))).run Try.prog w8.drew = .ok (.string ⟨E.toArray⟩) w8.drew := by
        by_cases hca : C3 = 1 + NL
        · rw [if_pos hca]
          have hE0 : E = [] := List.length_eq_zero_iff.1 (by have := HLL.out; omega)
          rw [hE0]
          exact conv_bs _ (Bs.none_ (h := 0))
        · rw [if_neg hca]
          have := conv_bs (C3 - (1 + NL)) hB2
          rw [show (some ⟨g, 1 + NL, none⟩ : Option Addr) = Option.map (fun x : Addr => x.add (1 + NL)) (some ⟨g, 0, none⟩) from by simp [add_off]]
          exact this
      clear hB hB2 ho1 ho3
      generalize (⟨E.toArray⟩ : ByteArray) = sE at *
      unfold maxLen at *
      have hll := HLL.out
      have hz := HZ.out
      clear HLL HZ
      generalize E.length = EL at *
      generalize c.length = CL at *
      generalize hAT : 1 + NL = AT at *
      have e1 : IntKind.i64.wrap (2 * (j : Int)) = 2 * ↑j := IntWalk.i64_in _ (by omega)
      have e2 : IntKind.i64.wrap ((SZ : Int) - 2 * (j : Int)) = (AT : Int) := (IntWalk.i64_in _ (by omega)).trans (by omega)
      have e3 : IntKind.i64.wrap ((AT : Int) + (EL : Int)) = (CL : Int) := (IntWalk.i64_in _ (by omega)).trans (by omega)
      have i1 : (0 : Int) ≤ (AT : Int) := by omega
      have i2 : (AT : Int) ≤ (CL : Int) := by omega
      have i3 : (AT : Int) ≤ (C3 : Int) := by omega
      have i4 : (2 : Int) ≤ (AT : Int) := by omega
      have hd : decide ((2 : Int) ≤ (AT : Int)) = true := decide_eq_true i4
      have i6 : CL - AT = EL := by omega
      have i8 : (CL : Int) ≤ (C3 : Int) := by omega
      clear hll hz hAT hNL
      go_region_held3 (fun w' => (convert 27 9 (.slice Aw EL cw)).run Try.prog w' = .ok (.string sE) w' ∧ (convert 27 9 (.slice (if C3 = AT then some ⟨g, 0, none⟩ else some ⟨g, AT, none⟩) EL (C3 - AT))).run Try.prog w' = .ok (.string sE) w')
        (first | exact ⟨hcv1, hcv2⟩ | go_keep)
        (first | fail)
      all_goals
        go_wp2_with fail
        all_goals
          go_ret
          exact ⟨rfl, hbw⟩
end Go.Proofs.Ytemlkklcjemjcaa
