/- PermsClosed: the helper. -/
import Derived.Test.YtobchecnfkocdaaFi
import Derived.Test.YtobchecnfkocdaaLawOrb
import Derived.Test.YtobchecnfkocdaaPgL
import Derived.Deep.RegionHeld3
import Derived.Lib.QuietBelow
namespace Go.Proofs.Ytobchecnfkocdaa
open Go.RowKit
set_option linter.unusedVariables false
set_option linter.unusedSimpArgs false

/-- An operation is taken first; its slot is told. -/
theorem takeD {P : Program} {md : Region.Mode} {ops : Array Oper} {Q : Exit → Act → World → Prop} {S : World → Prop} {d : Option Tmp} {i : Nat} {oi : Oper} {v : Value} {fuel : Nat} {listed : Array Bool} {a : Act} {w : World} (hi : ops[i]? = some oi) (hd : oi.dst = d)
    (hs : Region.noSelect ops = true) (hf : Region.free md ops listed i = true) (hr : (Region.ready md ops listed).contains i = true)
    (hQ : ∀ c a w, Q (.panic c) (a.put oi.dst v) w → Q (.panic c) a w) (hy : YieldsIf P ops S oi v a) (hS : S w)
    (h : wpAnyH P md ops Q S fuel (listed.setIfInBounds i true) (a.put d v) w) : wpAnyH P md ops Q S (fuel + 1) listed a w :=
  wpAnyH_take hi hs hf hr hQ hy hS (hd ▸ h)
/-- One operation alone may come up. -/
theorem oneH {P : Program} {md : Region.Mode} {ops : Array Oper} {Q : Exit → Act → World → Prop} {S : World → Prop} {i : Nat} {o : Oper} {fuel : Nat} {listed : Array Bool} {a : Act} {w : World} (hr : Region.ready md ops listed = [i]) (ho : ops[i]? = some o)
    (h : ∀ K' : Act → World → Prop, Shut (∀ a w, S w → (S w → wpAnyH P md ops Q S fuel (listed.setIfInBounds i true) a w) → K' a w) → if Region.wanted o (yielded ops a.tmps) = true then Oper.wp P o a w K' Q else K' (a.put o.dst undef) w) :
    wpAnyH P md ops Q S (fuel + 1) listed a w :=
  wpAnyH_ready hr (by simp) (AllReadyH.cons ho h AllReadyH.nil)
/-- Find of an element. -/
theorem find_in {ls : List (List Nat)} {p : List Nat} {N m c1 c' : Nat} {A1 A' : Option Addr} {V : World} (hs : Srt (ls.map ints)) (hp : p ∈ ls) (hpl : p.length = N) (hm : ls.length = m) (hl : m ≤ 4096) (hL : RI V A1 (ls.map ints) c1) (hP : Si V A' (ints p) c') :
    Calls Try.prog 27 #[.slice A1 m c1, .slice A' N c'] V (fun e w' => ∃ k : Nat, e = .returned (.tuple #[.int .i64 (k : Int), .bool true]) ∧ Below V.heap.size V w') := by
  have h := find_any A1 c1 (ls.map ints) A' c' (ints p) V hL hP hs (by rw [List.length_map]; omega)
  rw [List.length_map, hm, ints_length, hpl] at h
  refine h.mono ?_
  rintro e w' ⟨k, rfl, _, hb⟩
  exact ⟨k, by rw [decide_eq_true (List.mem_map.2 ⟨p, hp, rfl⟩)], hb⟩
theorem is_pm {p : List Nat} {N c' : Nat} {A' : Option Addr} {V : World} (hp : Pm N p) (hN : N ≤ 256) (hP : Si V A' (ints p) c') :
    Calls Try.prog 24 #[.slice A' N c', .int .i64 (N : Int)] V (fun e w' => e = .returned (.bool true) ∧ Below V.heap.size V w') := by
  have h := isr_any A' c' (ints p) (N : Int) V hP (by rw [ints_length, hp.1]; omega)
  rw [isr_pm hp, ints_length, hp.1] at h
  exact h
theorem product_pm {a b : List Nat} {N c d : Nat} {A B : Option Addr} {V : World} (ha : Pm N a) (hb : Pm N b) (hN : N ≤ 256) (hA : Si V A (ints a) c) (hB : Si V B (ints b) d) :
    Calls Try.prog 28 #[.slice A N c, .slice B N d] V (fun e w' => ∃ C k, e = .returned (.slice C N k) ∧ Si w' C (ints (mu a b)) k ∧ Below V.heap.size V w') := by
  have h := product_any A c (ints a) B d (ints b) V hA hB (fun x hx => by
    obtain ⟨y, hy, rfl⟩ := List.mem_map.1 hx
    have := hb.2.1 y hy
    rw [ints_length, ha.1]
    omega) (by rw [ints_length, hb.1]; omega)
  rw [cmi_ints, ints_length, ints_length, ha.1, hb.1] at h
  refine h.mono ?_
  rintro e w' ⟨C, k, rfl, h1, h2⟩
  exact ⟨C, k, by rw [ints_length, mu_length, hb.1], h1, h2⟩

set_option maxHeartbeats 8000000 in
set_option maxRecDepth 100000 in
theorem closed_any (N : Nat) (gs ls : List (List Nat)) (A : Option Addr) (c : Nat) (A1 : Option Addr) (c1 : Nat) (w : World) (hN : N ≤ 16) (hpm : ∀ g ∈ gs, Pm N g) (hsr : Srt (ls.map ints)) (hmem : ∀ p, p ∈ ls ↔ Gen N gs p) (hll : ls.length ≤ 4096) (hgl : gs.length ≤ 1024) (hA : RI w A (gs.map ints) c) (hL : RI w A1 (ls.map ints) c1) :
    Calls Try.prog 26 #[.int .i64 (N : Int), .slice A gs.length c, .slice A1 ls.length c1] w (QB true w) := by
  have HM := Lib.hid (OrbM.mk (N := N) (gs := gs) (ls := ls) (n := N) rfl hN hpm hsr hmem hll)
  have HS := Lib.hid (And.intro hA hL)
  have HLP := Lib.hid (fun p (hp : p ∈ ls) => ((hmem p).1 hp).pm hpm)
  obtain ⟨m, hm⟩ : ∃ m, ls.length = m := ⟨_, rfl⟩
  obtain ⟨G, hG⟩ : ∃ G, gs.length = G := ⟨_, rfl⟩
  have HL := Lib.hid (And.intro hm hG)
  rw [hm] at hll ⊢
  rw [hG] at hgl ⊢
  unfold QB
  clear hA hL hpm hsr hmem hm hG
  go_enter Try.func26, Try.ntmps26
  go_wp2_with fail
  go_loopw [20] (fun v wr => ∃ i : Nat, i ≤ m ∧ v = .int .i64 (i : Int) ∧ Below w.heap.size w wr) (fun v _ => m - (intOf v).toNat)
  case atStart => exact ⟨0, Nat.zero_le _, rfl, Below.refl _ _⟩
  case round =>
    obtain ⟨i, hi, rfl, hb⟩ := hrel
    have KR := Lib.hid hb
    clear hb
    by_cases hlt : i < m
    case pos =>
      have hdj : decide ((i : Int) < (m : Int)) = true := decide_eq_true (by omega)
      obtain ⟨p, hp⟩ : ∃ p, ls[i]? = some p := ⟨_, List.getElem?_eq_getElem (by rw [HL.out.1]; exact hlt)⟩
      have hpp := HLP.out p (List.mem_of_getElem? hp)
      obtain ⟨b1, o1, Ap, cp, hA1, hbl, hc, hsi⟩ := HS.out.2.at_ (i := i) (l := ints p) (by rw [List.getElem?_map, hp]; rfl)
      subst hA1
      rw [ints_length, hpp.1] at hc
      have HC := Lib.hid (fun V (hV : Below w.heap.size w V) => (hV.cell (p := ⟨b1, o1 + i, none⟩) hbl).trans hc)
      have HIS := Lib.hid (fun V (hV : Below w.heap.size w V) => is_pm hpp (by omega) (hsi.up hV))
      have HSI := Lib.hid hsi
      have i0 : (0 : Int) ≤ (i : Int) := by omega
      have i1 : (i : Int) < (m : Int) := by omega
      have HP := Lib.hid (And.intro hp hpp)
      have hBD : Below w.heap.size w wr.drew := KR.out.drew
      have HBD := Lib.hid hBD
      clear hp hpp hbl hc hsi hBD
      go_upto_region 4 with fail
      go_cut [20, 46] from 20 to 47 (fun v t wx => v = .int .i64 (i : Int) ∧ t = .bool false ∧ Below w.heap.size w wx)
      case first =>
        by_cases hi0 : i = 0
        · subst hi0
          have HC0 := Lib.hid (fun V (hV : Below w.heap.size w V) => show V.cell? ⟨b1, o1, none⟩ = some (.slice Ap N cp) from HC.out V hV)
          have HSa := Lib.hid (HC0.out _ HBD.out)
          refine wp_region_held_drew (S := (fun w' => w'.cell? ⟨b1, o1, none⟩ = some (.slice Ap N cp))) (by kernel_rfl) HSa.out (fun _ => ?_)
          refine takeD (d := some 23) (i := 0) (v := ?v0) rfl rfl (by kernel_rfl) (by kernel_rfl) (by kernel_rfl) (fun _ _ _ h => h) (Or.inl ⟨by rfl, ?y0⟩) HSa.out ?r0
          case y0 =>
            intro w hSw
            try dsimp only at hSw
            go_simp
            all_goals with_reducible rfl
          try simp only [Act.put, List.setIfInBounds_toArray, List.set_cons_zero, List.set_cons_succ]
          refine takeD (d := some 24) (i := 1) (v := ?v1) rfl rfl (by kernel_rfl) (by kernel_rfl) (by kernel_rfl) (fun _ _ _ h => h) (Or.inl ⟨by rfl, ?y1⟩) HSa.out ?r1
          case y1 =>
            intro w hSw
            try dsimp only at hSw
            go_simp
            all_goals with_reducible rfl
          try simp only [Act.put, List.setIfInBounds_toArray, List.set_cons_zero, List.set_cons_succ]
          refine takeD (d := some 25) (i := 2) (v := ?v2) rfl rfl (by kernel_rfl) (by kernel_rfl) (by kernel_rfl) (fun _ _ _ h => h) (Or.inl ⟨by rfl, ?y2⟩) HSa.out ?r2
          case y2 =>
            intro w hSw
            try dsimp only at hSw
            go_simp
            all_goals with_reducible rfl
          try simp only [Act.put, List.setIfInBounds_toArray, List.set_cons_zero, List.set_cons_succ]
          refine takeD (d := some 26) (i := 3) (v := ?v3) rfl rfl (by kernel_rfl) (by kernel_rfl) (by kernel_rfl) (fun _ _ _ h => h) (Or.inl ⟨by rfl, ?y3⟩) HSa.out ?r3
          case y3 =>
            intro w hSw
            try dsimp only at hSw
            go_simp
            all_goals with_reducible rfl
          try simp only [Act.put, List.setIfInBounds_toArray, List.set_cons_zero, List.set_cons_succ]
          refine takeD (d := some 27) (i := 4) (v := ?v4) rfl rfl (by kernel_rfl) (by kernel_rfl) (by kernel_rfl) (fun _ _ _ h => h) (Or.inl ⟨by rfl, ?y4⟩) HSa.out ?r4
          case y4 =>
            intro w hSw
            try dsimp only at hSw
            go_simp
            all_goals with_reducible rfl
          try simp only [Act.put, List.setIfInBounds_toArray, List.set_cons_zero, List.set_cons_succ]
          refine oneH (i := 5) (by kernel_rfl) rfl (fun K' hK => ?_)
          rw [if_pos (by rfl)]
          go_simp
          refine (HIS.out _ HBD.out).mono ?_
          rintro e w5 ⟨rfl, hb5⟩
          have B5 := Lib.hid (HBD.out.trans (hb5.mono HBD.out.size))
          have HSb := Lib.hid (HC0.out _ B5.out)
          refine hK.out _ _ HSb.out (fun _ => ?_)
          clear hK hb5
          refine takeD (d := some 29) (i := 6) (v := ?v6) rfl rfl (by kernel_rfl) (by kernel_rfl) (by kernel_rfl) (fun _ _ _ h => h) (Or.inl ⟨by rfl, ?y6⟩) HSb.out ?r6
          case y6 =>
            intro w hSw
            try dsimp only at hSw
            go_simp
            all_goals with_reducible rfl
          try simp only [Act.put, List.setIfInBounds_toArray, List.set_cons_zero, List.set_cons_succ]
          refine takeD (d := some 30) (i := 7) (v := ?v7) rfl rfl (by kernel_rfl) (by kernel_rfl) (by kernel_rfl) (fun _ _ _ h => h) (Or.inl ⟨by rfl, ?y7⟩) HSb.out ?r7
          case y7 =>
            intro w hSw
            try dsimp only at hSw
            go_simp
            all_goals with_reducible rfl
          try simp only [Act.put, List.setIfInBounds_toArray, List.set_cons_zero, List.set_cons_succ]
          refine takeD (d := some 31) (i := 8) (v := ?v8) rfl rfl (by kernel_rfl) (by kernel_rfl) (by kernel_rfl) (fun _ _ _ h => h) (Or.inl ⟨by rfl, ?y8⟩) HSb.out ?r8
          case y8 =>
            intro w hSw
            try dsimp only at hSw
            go_simp
            all_goals with_reducible rfl
          try simp only [Act.put, List.setIfInBounds_toArray, List.set_cons_zero, List.set_cons_succ]
          refine takeD (d := some 32) (i := 9) (v := ?v9) rfl rfl (by kernel_rfl) (by kernel_rfl) (by kernel_rfl) (fun _ _ _ h => h) (Or.inl ⟨by rfl, ?y9⟩) HSb.out ?r9
          case y9 =>
            intro w hSw
            try dsimp only at hSw
            go_simp
            all_goals with_reducible rfl
          try simp only [Act.put, List.setIfInBounds_toArray, List.set_cons_zero, List.set_cons_succ]
          refine takeD (d := some 33) (i := 10) (v := ?v10) rfl rfl (by kernel_rfl) (by kernel_rfl) (by kernel_rfl) (fun _ _ _ h => h) (Or.inl ⟨by rfl, ?y10⟩) HSb.out ?r10
          case y10 =>
            intro w hSw
            try dsimp only at hSw
            go_simp
            all_goals with_reducible rfl
          try simp only [Act.put, List.setIfInBounds_toArray, List.set_cons_zero, List.set_cons_succ]
          refine takeD (d := some 34) (i := 11) (v := undef) rfl rfl (by kernel_rfl) (by kernel_rfl) (by kernel_rfl) (fun _ _ _ h => h) (Or.inr ⟨by rfl, rfl⟩) HSb.out ?_
          try simp only [Act.put, List.setIfInBounds_toArray, List.set_cons_zero, List.set_cons_succ]
          refine takeD (d := some 35) (i := 12) (v := undef) rfl rfl (by kernel_rfl) (by kernel_rfl) (by kernel_rfl) (fun _ _ _ h => h) (Or.inr ⟨by rfl, rfl⟩) HSb.out ?_
          try simp only [Act.put, List.setIfInBounds_toArray, List.set_cons_zero, List.set_cons_succ]
          refine takeD (d := some 36) (i := 13) (v := undef) rfl rfl (by kernel_rfl) (by kernel_rfl) (by kernel_rfl) (fun _ _ _ h => h) (Or.inr ⟨by rfl, rfl⟩) HSb.out ?_
          try simp only [Act.put, List.setIfInBounds_toArray, List.set_cons_zero, List.set_cons_succ]
          refine takeD (d := some 37) (i := 14) (v := undef) rfl rfl (by kernel_rfl) (by kernel_rfl) (by kernel_rfl) (fun _ _ _ h => h) (Or.inr ⟨by rfl, rfl⟩) HSb.out ?_
          try simp only [Act.put, List.setIfInBounds_toArray, List.set_cons_zero, List.set_cons_succ]
          refine takeD (d := some 38) (i := 15) (v := undef) rfl rfl (by kernel_rfl) (by kernel_rfl) (by kernel_rfl) (fun _ _ _ h => h) (Or.inr ⟨by rfl, rfl⟩) HSb.out ?_
          try simp only [Act.put, List.setIfInBounds_toArray, List.set_cons_zero, List.set_cons_succ]
          refine takeD (d := some 39) (i := 16) (v := undef) rfl rfl (by kernel_rfl) (by kernel_rfl) (by kernel_rfl) (fun _ _ _ h => h) (Or.inr ⟨by rfl, rfl⟩) HSb.out ?_
          try simp only [Act.put, List.setIfInBounds_toArray, List.set_cons_zero, List.set_cons_succ]
          refine takeD (d := some 40) (i := 17) (v := undef) rfl rfl (by kernel_rfl) (by kernel_rfl) (by kernel_rfl) (fun _ _ _ h => h) (Or.inr ⟨by rfl, rfl⟩) HSb.out ?_
          try simp only [Act.put, List.setIfInBounds_toArray, List.set_cons_zero, List.set_cons_succ]
          refine takeD (d := some 41) (i := 18) (v := undef) rfl rfl (by kernel_rfl) (by kernel_rfl) (by kernel_rfl) (fun _ _ _ h => h) (Or.inr ⟨by rfl, rfl⟩) HSb.out ?_
          try simp only [Act.put, List.setIfInBounds_toArray, List.set_cons_zero, List.set_cons_succ]
          refine takeD (d := some 42) (i := 19) (v := undef) rfl rfl (by kernel_rfl) (by kernel_rfl) (by kernel_rfl) (fun _ _ _ h => h) (Or.inr ⟨by rfl, rfl⟩) HSb.out ?_
          try simp only [Act.put, List.setIfInBounds_toArray, List.set_cons_zero, List.set_cons_succ]
          refine takeD (d := some 43) (i := 20) (v := undef) rfl rfl (by kernel_rfl) (by kernel_rfl) (by kernel_rfl) (fun _ _ _ h => h) (Or.inr ⟨by rfl, rfl⟩) HSb.out ?_
          try simp only [Act.put, List.setIfInBounds_toArray, List.set_cons_zero, List.set_cons_succ]
          refine takeD (d := some 44) (i := 21) (v := undef) rfl rfl (by kernel_rfl) (by kernel_rfl) (by kernel_rfl) (fun _ _ _ h => h) (Or.inr ⟨by rfl, rfl⟩) HSb.out ?_
          try simp only [Act.put, List.setIfInBounds_toArray, List.set_cons_zero, List.set_cons_succ]
          refine takeD (d := some 45) (i := 22) (v := ?v22) rfl rfl (by kernel_rfl) (by kernel_rfl) (by kernel_rfl) (fun _ _ _ h => h) (Or.inl ⟨by rfl, ?y22⟩) HSb.out ?r22
          case y22 =>
            intro w hSw
            try dsimp only at hSw
            go_simp
            all_goals with_reducible rfl
          try simp only [Act.put, List.setIfInBounds_toArray, List.set_cons_zero, List.set_cons_succ]
          refine takeD (d := some 46) (i := 23) (v := ?v23) rfl rfl (by kernel_rfl) (by kernel_rfl) (by kernel_rfl) (fun _ _ _ h => h) (Or.inl ⟨by rfl, ?y23⟩) HSb.out ?r23
          case y23 =>
            intro w hSw
            try dsimp only at hSw
            go_simp
            all_goals with_reducible rfl
          try simp only [Act.put, List.setIfInBounds_toArray, List.set_cons_zero, List.set_cons_succ]
          refine wpAnyH_done (by kernel_rfl) ?_ _
          go_wp2_with fail
          go_meet
          case rel => exact ⟨rfl, rfl, B5.out⟩
        · obtain ⟨i', hi'⟩ : ∃ i', i - 1 = i' := ⟨_, rfl⟩
          have hsub : (i : Int) - 1 = (i' : Int) := by omega
          have hw2 : IntKind.i64.wrap (i' : Int) = (i' : Int) := by rw [IntKind.wrap_i64]; omega
          have dgt : decide ((0 : Int) < (i : Int)) = true := decide_eq_true (by omega)
          have dgt2 : decide (0 < i) = true := decide_eq_true (by omega)
          have dgt3 : (0 : Int) < (i : Int) := by omega
          have dgt4 : 0 < i := by omega
          have j0 : (0 : Int) ≤ (i' : Int) := by omega
          have j1 : (i' : Int) < (m : Int) := by omega
          obtain ⟨p2, hp2⟩ : ∃ p, ls[i']? = some p := ⟨_, List.getElem?_eq_getElem (by rw [HL.out.1]; omega)⟩
          have hpp2 := HLP.out p2 (List.mem_of_getElem? hp2)
          obtain ⟨Aq, cq, hbl2, hc2, hsi2⟩ := HS.out.2.same rfl (i := i') (l := ints p2) (by rw [List.getElem?_map, hp2]; rfl)
          rw [ints_length, hpp2.1] at hc2
          have ho : ord (ints p2) (ints p) = -1 := srt_lt HM.out.srt (show i' < i by omega) (by rw [List.getElem?_map, hp2]; rfl) (by rw [List.getElem?_map, HP.out.1]; rfl)
          have HO := Lib.hid (fun V (hV : Below w.heap.size w V) => order_any Aq cq (ints p2) Ap cp (ints p) V (hsi2.up hV) (HSI.out.up hV))
          rw [ints_length, ints_length, hpp2.1, HP.out.2.1, ho] at HO
          have HC2 := Lib.hid (fun V (hV : Below w.heap.size w V) => And.intro (HC.out V hV) ((hV.cell (p := ⟨b1, o1 + i', none⟩) hbl2).trans hc2))
          unfold QI at HO
          clear hp2 hpp2 hbl2 hc2 hsi2 ho hi'
          go_region_held3 (fun w' => w'.cell? ⟨b1, o1 + i, none⟩ = some (.slice Ap N cp) ∧ w'.cell? ⟨b1, o1 + i', none⟩ = some (.slice Aq N cq))
            (with_reducible first | exact HC2.out _ HBD.out | exact HC2.out _ B5.out | exact HC2.out _ B6.out)
            (first
              | (go_at_call 24; ((with_reducible refine (HIS.out _ HBD.out).mono ?_); rintro e w5 ⟨rfl, hb5⟩; have B5 := Lib.hid (HBD.out.trans (hb5.mono HBD.out.size)); clear hb5))
              | (go_at_call 31; ((with_reducible refine (HO.out _ B5.out).mono ?_); rintro e w6 ⟨rfl, q6, hq6⟩; have B6 := Lib.hid (show Below w.heap.size w w6 from by rw [hq6]; exact B5.out.trans ((below_drewN w5 q6).mono B5.out.size)); clear hq6))
              | fail)
          go_wp2_with fail
          go_meet
          case rel => exact ⟨rfl, rfl, B6.out⟩
      case rest =>
        obtain ⟨rfl, rfl, hb⟩ := hcut
        have HB := Lib.hid hb
        clear hb
        go_wp2_with fail
        go_roundw
        case rel => exact ⟨i + 1, by omega, by go_num, HB.out⟩
        case measure => simp [intOf]; omega
    case neg =>
      have hdj : decide ((i : Int) < (m : Int)) = false := decide_eq_false (by omega)
      obtain rfl : i = m := by omega
      have HFI := Lib.hid (fun p (hp : p ∈ ls) V (hV : Below w.heap.size w V) A' c' (hP : Si V A' (ints p) c') => find_in HM.out.srt hp (HLP.out p hp).1 HL.out.1 hll (HS.out.2.up hV) hP)
      have HID := Lib.hid (identity_pm N (by omega) wr)
      go_wp2_with fail
      refine HID.out.mono ?_
      rintro e w3 ⟨A3, c3, rfl, hs3, hb3⟩
      have HB3 := Lib.hid (KR.out.trans (hb3.mono KR.out.size))
      have HF3 := Lib.hid (HFI.out _ ((HM.out.mem _).2 Gen.id) w3 HB3.out A3 c3 hs3)
      clear hs3 hb3 HID
      go_wp2_with fail
      refine HF3.out.mono ?_
      rintro e w4 ⟨k3, rfl, hb4⟩
      have HB4 := Lib.hid (HB3.out.trans (hb4.mono HB3.out.size))
      clear hb4 HF3 HB3 KR
      go_wp2_with fail
      go_loopw [9, 57] (fun a v wr => ∃ i : Nat, i ≤ G ∧ a = .bool true ∧ v = .int .i64 (i : Int) ∧ Below w.heap.size w wr) (fun _ v _ => G - (intOf v).toNat)
      case atStart => exact ⟨0, Nat.zero_le _, rfl, rfl, HB4.out⟩
      case round =>
        obtain ⟨k, hk, rfl, rfl, hb⟩ := hrel
        have KR := Lib.hid hb
        clear hb HB4
        by_cases hlk : k < G
        case neg =>
          have hdk : decide ((k : Int) < (G : Int)) = false := decide_eq_false (by omega)
          go_wp2_with fail
          go_ret
          exact ⟨rfl, KR.out⟩
        have hdk : decide ((k : Int) < (G : Int)) = true := decide_eq_true (by omega)
        obtain ⟨g, hg⟩ : ∃ g, gs[k]? = some g := ⟨_, List.getElem?_eq_getElem (by rw [HL.out.2]; exact hlk)⟩
        have hgm := List.mem_of_getElem? hg
        have hgp := HM.out.pm g hgm
        obtain ⟨b1, o1, Ag, cg, hA1, hbl, hc, hsi⟩ := HS.out.1.at_ (i := k) (l := ints g) (by rw [List.getElem?_map, hg]; rfl)
        subst hA1
        rw [ints_length, hgp.1] at hc
        have z0 := (KR.out.cell (p := ⟨b1, o1 + k, none⟩) hbl).trans hc
        have HI5 := Lib.hid (is_pm hgp (by omega) (hsi.up KR.out))
        have HSG := Lib.hid hsi
        have HGP := Lib.hid (And.intro hgp ((HM.out.mem g).2 (Gen.one HM.out.pm hgm)))
        have HGM := Lib.hid (fun p (hp : p ∈ ls) => (HM.out.mem _).2 (Gen.prod HM.out.pm (Gen.one HM.out.pm hgm) ((HM.out.mem p).1 hp)))
        have i0 : (0 : Int) ≤ (k : Int) := by omega
        have i1 : (k : Int) < (G : Int) := by omega
        clear hg hgm hgp hbl hc hsi
        go_wp2_with fail
        refine HI5.out.mono ?_
        rintro e w5 ⟨rfl, hb5⟩
        have HB5 := Lib.hid (KR.out.trans (hb5.mono KR.out.size))
        have HF5 := Lib.hid (HFI.out _ HGP.out.2 w5 HB5.out Ag cg (HSG.out.up HB5.out))
        clear hb5 HI5 z0 KR
        go_wp2_with fail
        refine HF5.out.mono ?_
        rintro e w6 ⟨k6, rfl, hb6⟩
        have HB6 := Lib.hid (HB5.out.trans (hb6.mono HB5.out.size))
        clear hb6 HF5 HB5
        go_wp2_with fail
        go_loopw [9, 77] (fun a v wr => ∃ j : Nat, j ≤ i ∧ a = .bool true ∧ v = .int .i64 (j : Int) ∧ Below w.heap.size w wr) (fun _ v _ => i - (intOf v).toNat)
        case atStart => exact ⟨0, Nat.zero_le _, rfl, rfl, HB6.out⟩
        case round =>
          obtain ⟨j, hj, rfl, rfl, hb⟩ := hrel
          have KS := Lib.hid hb
          clear hb HB6
          by_cases hlj : j < i
          case neg =>
            have hdl : decide ((j : Int) < (i : Int)) = false := decide_eq_false (by omega)
            go_wp2_with fail
            go_roundw
            case rel => exact ⟨k + 1, by omega, rfl, by go_num, KS.out⟩
            case measure => simp [intOf]; omega
          have hdl : decide ((j : Int) < (i : Int)) = true := decide_eq_true (by omega)
          obtain ⟨p, hp⟩ : ∃ p, ls[j]? = some p := ⟨_, List.getElem?_eq_getElem (by rw [HL.out.1]; exact hlj)⟩
          have hpm := List.mem_of_getElem? hp
          have hpp := HLP.out p hpm
          obtain ⟨b2, o2, Ap, cp, hA2, hbl, hc, hsi⟩ := HS.out.2.at_ (i := j) (l := ints p) (by rw [List.getElem?_map, hp]; rfl)
          subst hA2
          rw [ints_length, hpp.1] at hc
          have z0 := (KS.out.cell (p := ⟨b2, o2 + j, none⟩) hbl).trans hc
          have HPR := Lib.hid (product_pm HGP.out.1 hpp (by omega) (HSG.out.up KS.out) (hsi.up KS.out))
          have HMP := Lib.hid (HGM.out p hpm)
          have j0 : (0 : Int) ≤ (j : Int) := by omega
          have j1 : (j : Int) < (i : Int) := by omega
          clear hp hpm hpp hbl hc hsi
          go_wp2_with fail
          refine HPR.out.mono ?_
          rintro e w7 ⟨A7, c7, rfl, hs7, hb7⟩
          have HB7 := Lib.hid (KS.out.trans (hb7.mono KS.out.size))
          have HF7 := Lib.hid (HFI.out _ HMP.out w7 HB7.out A7 c7 hs7)
          clear hs7 hb7 HPR z0 KS
          go_wp2_with fail
          refine HF7.out.mono ?_
          rintro e w8 ⟨k8, rfl, hb8⟩
          have HB8 := Lib.hid (HB7.out.trans (hb8.mono HB7.out.size))
          clear hb8 HF7 HB7
          go_wp2_with fail
          go_roundw
          case rel => exact ⟨j + 1, by omega, rfl, by go_num, HB8.out⟩
          case measure => simp [intOf]; omega
end Go.Proofs.Ytobchecnfkocdaa
