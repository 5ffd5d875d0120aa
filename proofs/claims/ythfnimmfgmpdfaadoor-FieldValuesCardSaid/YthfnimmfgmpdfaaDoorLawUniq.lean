/- FieldUnique. -/
import Derived.Test.YthfnimmfgmpdfaaDoorSane
import Derived.Test.YthfnimmfgmpdfaaDoorUniqP
import Derived.Deep.RegionHeld3
import Derived.LoopTactic
namespace Go.Proofs.YthfnimmfgmpdfaaDoor
open Go.RowKit
set_option linter.unusedVariables false

/-- What lasts from a world on. -/
structure UF (xs ys m l : List UInt8) (A0 A1 A2 A3 : Option Addr) (c0 c1 c2 c3 : Nat) (W : World) : Prop where
  K : KT W
  X : Sl W A0 xs c0
  Y : Sl W A1 ys c1
  M : Sl W A2 m c2
  L : Sl W A3 l c3
theorem UF.up {xs ys m l : List UInt8} {A0 A1 A2 A3 : Option Addr} {c0 c1 c2 c3 : Nat} {W W' : World} (h : UF xs ys m l A0 A1 A2 A3 c0 c1 c2 c3 W) (hb : Below W.heap.size W W') : UF xs ys m l A0 A1 A2 A3 c0 c1 c2 c3 W' :=
  ⟨h.K.below hb, h.X.up hb, h.Y.up hb, h.M.up hb, h.L.up hb⟩
theorem ev_at {A : Option Addr} {l : List UInt8} {c n : Nat} {W : World} (hK : KT W) (hS : Sl W A l c) (hn : l.length = n) (h : n ≤ 1000) (x v : UInt8) (hv' : hv l x = v) :
    Calls Tryd.prog 15 #[.slice A n c, bv x] W fun e w' => e = .returned (.int .u8 (v.toNat : Int)) ∧ Below W.heap.size W w' := by
  subst hn hv'
  exact eval_any A c l x W hK hS (by omega)
theorem th_at {A A2 : Option Addr} {xs ys : List UInt8} {c c2 n m : Nat} {W : World} (hK : KT W) (hS : Sl W A xs c) (hS2 : Sl W A2 ys c2) (hn : xs.length = n) (hm : ys.length = m) (h : n ≤ 1000) (h2 : m ≤ 1000) (x v : UInt8) (E : Int) (hv' : hv (co xs ys) x = v) (hE : coe xs ys = E) :
    Calls Tryd.prog 14 #[.slice A n c, .slice A2 m c2, bv x] W fun e w' => e = .returned (.tuple #[.int .u8 (v.toNat : Int), .int .i64 E]) ∧ Below W.heap.size W w' := by
  subst hn hm hv' hE
  exact thru_any A c xs A2 c2 ys x W hK hS hS2 h h2
theorem co_at_call {A A2 : Option Addr} {xs ys l : List UInt8} {c c2 n m k : Nat} {W : World} (hK : KT W) (hS : Sl W A xs c) (hS2 : Sl W A2 ys c2) (hn : xs.length = n) (hm : ys.length = m) (h : n ≤ 1000) (h2 : m ≤ 1000) (E : Int) (hl : co xs ys = l) (hk : l.length = k) (hE : coe xs ys = E) :
    Calls Tryd.prog 13 #[.slice A n c, .slice A2 m c2] W fun e w' => ∃ A3 c3, e = .returned (.tuple #[.slice A3 k c3, .int .i64 E]) ∧ Sl w' A3 l c3 ∧ Below W.heap.size W w' := by
  subst hn hm hk hl hE
  refine (coef_any A c xs A2 c2 ys W hK hS hS2 h h2).mono ?_
  rintro e w' ⟨A3, c3, he, ho, hb⟩
  exact ⟨A3, c3, he, Sl.of_own' ho rfl, hb⟩
theorem sl_cell {A : Option Addr} {l : List UInt8} {c k : Nat} {u : World} (hS : Sl u A l c) (hk : k < l.length) : ∃ b off, A = some ⟨b, off, none⟩ ∧ ∀ W, Below u.heap.size u W → W.cell? ⟨b, off + k, none⟩ = some (bv (l.getD k 0)) := by
  obtain ⟨b, off, e, hlt, hc⟩ := hS.1 (by omega)
  exact ⟨b, off, e, fun W hb => (hb.cell (p := ⟨b, off + k, none⟩) hlt).trans (hc k _ (getD_cell hk))⟩

set_option maxHeartbeats 1000000 in
set_option maxRecDepth 100000 in
theorem uniq_big (A0 A1 A2 : Option Addr) (n m q c0 c1 c2 : Nat) (at_ : UInt8) (w : World) (hK : KT w) (hn : n ≤ maxLen) (hm : m ≤ maxLen) (hq : q ≤ maxLen) (h : 12 < n ∨ 20 < m ∨ 20 < q) :
    Calls Tryd.prog 6 #[.slice A0 n c0, .slice A1 m c1, .slice A2 q c2, bv at_] w fun e w' => e = .returned (.bool true) ∧ Below w.heap.size w w' := by
  have HS := Lib.hid (sane_any w hK)
  unfold maxLen at hn hm hq
  by_cases h1 : 12 < n
  · go_enter Tryd.func6, Tryd.ntmps6
    go_wp2_with fail
    refine HS.out.mono ?_
    rintro e w1 ⟨rfl, hb1⟩
    go_wp2_with fail
    go_ret
    exact ⟨rfl, hb1⟩
  by_cases h2 : 20 < m
  · go_enter Tryd.func6, Tryd.ntmps6
    go_wp2_with fail
    refine HS.out.mono ?_
    rintro e w1 ⟨rfl, hb1⟩
    go_wp2_with fail
    go_ret
    exact ⟨rfl, hb1⟩
  have h3 : 20 < q := by omega
  go_enter Tryd.func6, Tryd.ntmps6
  go_wp2_with fail
  refine HS.out.mono ?_
  rintro e w1 ⟨rfl, hb1⟩
  go_wp2_with fail
  go_ret
  exact ⟨rfl, hb1⟩

set_option maxHeartbeats 4000000 in
set_option maxRecDepth 100000 in
theorem uniq_small (A0 A1 A2 : Option Addr) (xs ys mo : List UInt8) (n m q c0 c1 c2 : Nat) (at_ : UInt8) (w : World) (hK : KT w) (hX : Sl w A0 xs c0) (hY : Sl w A1 ys c1) (hO : Sl w A2 mo c2) (hn : xs.length = n) (hm : ys.length = m) (hq : mo.length = q) (h1 : n ≤ 12) (h2 : m ≤ 20) (h3 : q ≤ 20) :
    Calls Tryd.prog 6 #[.slice A0 n c0, .slice A1 m c1, .slice A2 q c2, bv at_] w fun e w' => e = .returned (.bool true) ∧ Below w.heap.size w w' := by
  have HS := Lib.hid (sane_any w hK)
  have HX := Lib.hid (And.intro hK (And.intro hX (And.intro hY hO)))
  have HN := Lib.hid (And.intro hn (And.intro hm hq))
  clear hK hX hY hO
  by_cases hp : isP xs ys
  · have hmn : m = n := by rw [← hm, ← hn]; exact hp.1.symm
    have hlen := co_len hp
    rw [hn] at hlen
    have hce := (co_ok hp).2
    obtain ⟨l, hl⟩ : ∃ l, co xs ys = l := ⟨_, rfl⟩
    rw [hl] at hlen
    have HP := Lib.hid hp
    have HL := Lib.hid (And.intro hl (And.intro hlen hce))
    obtain ⟨V, hV⟩ : ∃ V, hv l at_ = V := ⟨_, rfl⟩
    have HV := Lib.hid hV
    clear hn hm hq hp hlen hce hl hV
    subst hmn
    have d1 : decide ((12 : Int) < (m : Int)) = false := decide_eq_false (by omega)
    have d2 : decide ((20 : Int) < (m : Int)) = false := decide_eq_false (by omega)
    have d3 : decide ((20 : Int) < (q : Int)) = false := decide_eq_false (by omega)
    go_enter Tryd.func6, Tryd.ntmps6
    go_wp2_with fail
    refine HS.out.mono ?_
    rintro e w1 ⟨rfl, hb1⟩
    go_wp2_with fail
    refine (co_at_call (HX.out.1.below hb1) (HX.out.2.1.up hb1) (HX.out.2.2.1.up hb1) HN.out.1 HN.out.2.1 (by omega) (by omega) 0 HL.out.1 HL.out.2.1 HL.out.2.2).mono ?_
    rintro e w2 ⟨A3, c3, rfl, hl3, hb2⟩
    have hb12 := hb1.trans (hb2.mono hb1.size)
    have hu2 : UF xs ys mo l A0 A1 A2 A3 c0 c1 c2 c3 w2 := ⟨HX.out.1.below hb12, HX.out.2.1.up hb12, HX.out.2.2.1.up hb12, HX.out.2.2.2.up hb12, hl3⟩
    have HU2 := Lib.hid (And.intro hu2 hb12)
    clear hu2 hb1 hb2 hb12 hl3 HX HS
    go_wp2_with fail
    refine (th_at HU2.out.1.K HU2.out.1.X HU2.out.1.Y HN.out.1 HN.out.2.1 (by omega) (by omega) at_ V 0 (by rw [HL.out.1]; exact HV.out) HL.out.2.2).mono ?_
    rintro e w3 ⟨rfl, hb3⟩
    have HU3 := Lib.hid (And.intro (HU2.out.1.up hb3) (HU2.out.2.trans (hb3.mono HU2.out.2.size)))
    clear HU2 hb3
    go_wp2_with fail
    refine (ev_at HU3.out.1.K HU3.out.1.L HL.out.2.1 (by omega) at_ V HV.out).mono ?_
    rintro e u ⟨rfl, hb4⟩
    have HU := Lib.hid (And.intro (HU3.out.1.up hb4) (HU3.out.2.trans (hb4.mono HU3.out.2.size)))
    clear HU3 hb4
    go_wp2_with fail
    go_loopw [13, 14] (fun s i wr => ∃ k : Nat, k ≤ m ∧ i = .int .i64 k ∧ s = .bool (smk xs ys mo k) ∧ Below u.heap.size u wr) (fun _ i _ => m - (intOf i).toNat)
    case atStart =>
      refine ⟨0, Nat.zero_le _, rfl, ?_, Below.refl _ _⟩
      unfold smk
      rw [HN.out.1, HN.out.2.2]
    case round =>
      obtain ⟨k, hk, rfl, rfl, hbw⟩ := hrel
      by_cases hlt : k < m
      · obtain ⟨b, off, rfl, hcx⟩ := sl_cell HU.out.1.X (k := k) (by rw [HN.out.1]; exact hlt)
        obtain ⟨b2, off2, rfl, hcy⟩ := sl_cell HU.out.1.Y (k := k) (by rw [HN.out.2.1]; exact hlt)
        have hval := co_at HP.out k (by rw [HN.out.1]; exact hlt)
        have hsm : smk xs ys mo (k + 1) = (smk xs ys mo k && decide (hv mo (xs.getD k 0) = ys.getD k 0)) := rfl
        generalize xs.getD k 0 = x at *
        generalize ys.getD k 0 = y at *
        obtain ⟨V2, hV2⟩ : ∃ V2, hv mo x = V2 := ⟨_, rfl⟩
        rw [hV2] at hsm
        have hdv : decide (V2 = y) = ((V2.toNat : Int) == (y.toNat : Int)) := by
          by_cases e : V2 = y
          · subst e; simp
          · rw [decide_eq_false e]
            symm
            rw [beq_eq_false_iff_ne]
            exact fun e2 => e (bv_inj.1 e2)
        rw [hdv] at hsm
        have HSM := Lib.hid hsm
        have HCX := Lib.hid hcx
        have HCY : Hid (∀ W, Below u.heap.size u W → W.cell? ⟨b2, off2 + k, none⟩ = some (.int .u8 (y.toNat : Int))) := Lib.hid hcy
        have hxw := hcx wr hbw
        have HVV := Lib.hid (And.intro hval hV2)
        have HTH := Lib.hid (th_at (HU.out.1.up hbw).K (HU.out.1.up hbw).X (HU.out.1.up hbw).Y HN.out.1 HN.out.2.1 (by omega) (by omega) x y 0 hval HL.out.2.2)
        have HE1 := Lib.hid (fun W (hb : Below u.heap.size u W) => ev_at (HU.out.1.up hb).K (HU.out.1.up hb).L HL.out.2.1 (by omega) x y (by rw [← HL.out.1]; exact hval))
        have HE2 := Lib.hid (fun W (hb : Below u.heap.size u W) => ev_at (HU.out.1.up hb).K (HU.out.1.up hb).M HN.out.2.2 (by omega) x V2 hV2)
        clear hcx hcy hval hV2 hsm hdv
        generalize smk xs ys mo k = SM at *
        obtain ⟨SM1, hSM1⟩ : ∃ SM1, SM1 = smk xs ys mo (k + 1) := ⟨_, rfl⟩
        rw [← hSM1] at HSM
        have HSM0 := Lib.hid hSM1
        clear hSM1
        go_wp2_with fail
        refine HTH.out.mono ?_
        rintro e w5 ⟨rfl, hb5⟩
        have hb6 := (hbw.trans (hb5.mono hbw.size)).drew
        have hS5 : w5.drew.cell? ⟨b, off + k, none⟩ = some (bv x) ∧ w5.drew.cell? ⟨b2, off2 + k, none⟩ = some (.int .u8 (y.toNat : Int)) ∧ Below u.heap.size u w5.drew := ⟨HCX.out _ hb6, HCY.out _ hb6, hb6⟩
        have H5 := Lib.hid hS5
        have hbv0 : ∃ X, X = bv x := ⟨_, rfl⟩
        clear hb5 hb6 hS5 hbw hxw HTH hbv0
        go_wp2_with fail
        go_region_held3 (fun w' => w'.cell? ⟨b, off + k, none⟩ = some (bv x) ∧ w'.cell? ⟨b2, off2 + k, none⟩ = some (.int .u8 (y.toNat : Int)) ∧ Below u.heap.size u w')
          (first | exact H5.out | exact H6.out | go_keep)
          (first
            | (go_at_call 15; (with_reducible refine (HE1.out _ H5.out.2.2).mono ?_); rintro e w6 ⟨rfl, hb7⟩; have H6 := Lib.hid (And.intro (HCX.out _ (H5.out.2.2.trans (hb7.mono H5.out.2.2.size))) (And.intro (HCY.out _ (H5.out.2.2.trans (hb7.mono H5.out.2.2.size))) (H5.out.2.2.trans (hb7.mono H5.out.2.2.size)))))
            | fail)
        all_goals
          have hb8 := H6.out.2.2.drew
          have hS6 : w6.drew.cell? ⟨b, off + k, none⟩ = some (bv x) ∧ w6.drew.cell? ⟨b2, off2 + k, none⟩ = some (.int .u8 (y.toNat : Int)) ∧ Below u.heap.size u w6.drew := ⟨HCX.out _ hb8, HCY.out _ hb8, hb8⟩
          have H7 := Lib.hid hS6
          have HB6 := Lib.hid H6.out.2.2
          clear hS6 hb8 hb7 H5 H6 HE1
          cases SM
          · go_wp2_with fail
            go_quiet (fail)
            go_wp2_with fail
            go_roundw
            case rel => exact ⟨k + 1, by omega, by go_num, by rw [← HSM0.out, HSM.out]; rfl, HB6.out.trans ((below_drewN w6 _).mono HB6.out.size)⟩
            case measure => simp [intOf]; omega
          · go_wp2_with fail
            go_region_held3 (fun w' => w'.cell? ⟨b, off + k, none⟩ = some (bv x) ∧ w'.cell? ⟨b2, off2 + k, none⟩ = some (.int .u8 (y.toNat : Int)) ∧ Below u.heap.size u w')
              (first | exact H7.out | exact H8.out | go_keep)
              (first
                | (go_at_call 15; (with_reducible refine (HE2.out _ H7.out.2.2).mono ?_); rintro e w7 ⟨rfl, hb7⟩; have H8 := Lib.hid (And.intro (HCX.out _ (H7.out.2.2.trans (hb7.mono H7.out.2.2.size))) (And.intro (HCY.out _ (H7.out.2.2.trans (hb7.mono H7.out.2.2.size))) (H7.out.2.2.trans (hb7.mono H7.out.2.2.size)))))
                | fail)
            all_goals
              go_wp2_with fail
              go_roundw
              case rel => exact ⟨k + 1, by omega, by go_num, by rw [← HSM0.out, HSM.out, Bool.true_and], H8.out.2.2⟩
              case measure => simp [intOf]; omega
      · obtain rfl : k = m := by omega
        obtain ⟨SM, hSM⟩ : ∃ SM, smk xs ys mo k = SM := ⟨_, rfl⟩
        rw [hSM]
        have hbw2 := Lib.hid (And.intro hbw (HU.out.2.trans (hbw.mono HU.out.2.size)))
        clear hbw
        cases SM
        · go_wp2_with fail
          go_ret
          exact ⟨rfl, hbw2.out.2⟩
        · have hall := smk_all hSM
          have hon : ∀ i, i < k → l.getD i 0 = mo.getD i 0 := fun i hi => by
            rw [← HL.out.1]
            exact co_only HP.out hall.1 (fun j hj => hall.2 j (by rw [← HN.out.1]; exact hj)) i (by rw [HN.out.1]; exact hi)
          have HON := Lib.hid hon
          clear hSM hall hon
          go_wp2_with fail
          go_loop [17] (fun i => ∃ j : Nat, j ≤ k ∧ i = .int .i64 j) (fun i => k - (intOf i).toNat)
          case atStart => exact ⟨0, Nat.zero_le _, rfl⟩
          case round =>
            obtain ⟨j, hj, rfl⟩ := hrel
            by_cases hlt2 : j < k
            · obtain ⟨b, off, rfl, hcl⟩ := sl_cell HU.out.1.L (k := j) (by rw [HL.out.2.1]; exact hlt2)
              have hlw : wr.cell? ⟨b, off + j, none⟩ = some (.int .u8 ((l.getD j 0).toNat : Int)) := hcl wr hbw2.out.1
              have hjo := HON.out j hlt2
              clear hcl
              by_cases hq : j < q
              · obtain ⟨b2, off2, rfl, hcm⟩ := sl_cell HU.out.1.M (k := j) (by rw [HN.out.2.2]; exact hq)
                have hmw : wr.cell? ⟨b2, off2 + j, none⟩ = some (.int .u8 ((l.getD j 0).toNat : Int)) := by
                  rw [hjo]
                  exact hcm wr hbw2.out.1
                clear hcm hjo
                generalize l.getD j 0 = v at *
                go_wp2_with fail
                go_round
                case rel => exact ⟨j + 1, by omega, by go_num⟩
                case measure => simp [intOf]; omega
              · have hz : mo.getD j 0 = 0 := by
                  rw [List.getD_eq_getElem?_getD, List.getElem?_eq_none (by rw [HN.out.2.2]; omega)]
                  rfl
                rw [hjo, hz] at hlw
                have hlw2 : wr.cell? ⟨b, off + j, none⟩ = some (.int .u8 0) := hlw
                clear hjo hz hlw
                go_wp2_with fail
                go_round
                case rel => exact ⟨j + 1, by omega, by go_num⟩
                case measure => simp [intOf]; omega
            · obtain rfl : j = k := by omega
              go_wp2_with fail
              go_ret
              exact ⟨rfl, hbw2.out.2⟩
  · have hce := (co_no hp).2
    have hcl := (co_no hp).1
    have HL := Lib.hid (And.intro hcl hce)
    have HN2 := HN
    clear hn hm hq hp hce hcl
    go_enter Tryd.func6, Tryd.ntmps6
    go_wp2_with fail
    refine HS.out.mono ?_
    rintro e w1 ⟨rfl, hb1⟩
    go_wp2_with fail
    refine (co_at_call (k := 0) (HX.out.1.below hb1) (HX.out.2.1.up hb1) (HX.out.2.2.1.up hb1) HN.out.1 HN.out.2.1 (by omega) (by omega) 1 HL.out.1 rfl HL.out.2).mono ?_
    rintro e w2 ⟨A3, c3, rfl, hl3, hb2⟩
    have hb12 := hb1.trans (hb2.mono hb1.size)
    go_wp2_with fail
    refine (th_at (HX.out.1.below hb12) (HX.out.2.1.up hb12) (HX.out.2.2.1.up hb12) HN.out.1 HN.out.2.1 (by omega) (by omega) at_ 0 1 (by rw [HL.out.1]; rfl) HL.out.2).mono ?_
    rintro e w3 ⟨rfl, hb3⟩
    have hb13 := hb12.trans (hb3.mono hb12.size)
    clear hb1 hb2 hb12 hb3
    go_wp2_with fail
    go_ret
    exact ⟨rfl, hb13⟩

theorem uniq_any (A0 : Option Addr) (c0 : Nat) (xs : List UInt8) (A1 : Option Addr) (c1 : Nat) (ys : List UInt8) (A2 : Option Addr) (c2 : Nat) (mo : List UInt8) (at_ : UInt8) (w : World) (hK : KT w) (hX : Sl w A0 xs c0) (hY : Sl w A1 ys c1) (hO : Sl w A2 mo c2) :
    Calls Tryd.prog 6 #[.slice A0 xs.length c0, .slice A1 ys.length c1, .slice A2 mo.length c2, bv at_] w fun e w' => e = .returned (.bool true) ∧ Below w.heap.size w w' := by
  by_cases h : 12 < xs.length ∨ 20 < ys.length ∨ 20 < mo.length
  · exact uniq_big A0 A1 A2 _ _ _ c0 c1 c2 at_ w hK (Nat.le_trans hX.2.1 hX.2.2.1) (Nat.le_trans hY.2.1 hY.2.2.1) (Nat.le_trans hO.2.1 hO.2.2.1) h
  · exact uniq_small A0 A1 A2 xs ys mo _ _ _ c0 c1 c2 at_ w hK hX hY hO rfl rfl rfl (by omega) (by omega) (by omega)
end Go.Proofs.YthfnimmfgmpdfaaDoor
