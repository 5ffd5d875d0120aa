/- polynomialsOf. -/
import Derived.Test.YtjkojjimlebmjaaDoorSp1
import Derived.Deep.QuietTactic
import Derived.BigQuiet
namespace Go.Proofs.YtjkojjimlebmjaaDoor
open Go.RowKit
set_option linter.unusedVariables false

/-- The polynomial of a byte. -/
def pcf (s coins : List UInt8) (each i : Nat) : List UInt8 := s.getD i 0 :: (coins.drop (i * each)).take each
theorem pcf_length {s coins : List UInt8} {each i : Nat} (h : coins.length = s.length * each) (hi : i < s.length) : (pcf s coins each i).length = 1 + each := by
  have := Nat.mul_le_mul_right each (show i + 1 ≤ s.length by omega)
  rw [Nat.add_mul] at this
  simp [pcf]
  omega

/-- l[f:t:t]. -/
theorem Sl.cut3 {w : World} {A : Option Addr} {l : List UInt8} {c : Nat} (h : Sl w A l c) (f t : Nat) (hft : f ≤ t) (htl : t ≤ l.length) : Sl w (if t = f then A else A.map (fun x => x.add f)) ((l.drop f).take (t - f)) (t - f) := by
  have hm := h.2.1
  have hm2 := h.2.2.1
  by_cases e : t = f
  · rw [if_pos e]
    subst e
    rw [Nat.sub_self, List.take_zero]
    exact ⟨Bs.none_, Nat.le_refl _, Nat.zero_le _, fun _ => ⟨rfl, rfl⟩⟩
  · rw [if_neg e]
    refine ⟨h.1.drop.take, by simp; omega, by omega, fun hA => ?_⟩
    cases A with
    | none =>
      have := (h.2.2.2 rfl).1
      rw [this] at htl
      simp at htl
      omega
    | some a => cases hA

set_option maxHeartbeats 1000000 in
set_option maxRecDepth 100000 in
theorem pol1_any (i each Be Bs Bc : Nat) (A1 A2 : Option Addr) (c1 c2 : Nat) (s coins : List UInt8) (W : World) (he : W.cell? ⟨Be, 0, none⟩ = some (.int .i64 (each : Int))) (hs : W.cell? ⟨Bs, 0, none⟩ = some (.slice A1 s.length c1))
    (hc : W.cell? ⟨Bc, 0, none⟩ = some (.slice A2 coins.length c2)) (hS : Sl W A1 s c1) (hC : Sl W A2 coins c2) (hi : i < s.length) (hl : coins.length = s.length * each) (h1 : s.length ≤ 100) (h2 : each ≤ 100) :
    Calls Tryd.prog 60 #[.int .i64 (i : Int), .pointer (some ⟨Be, 0, none⟩), .pointer (some ⟨Bs, 0, none⟩), .pointer (some ⟨Bc, 0, none⟩)] W
      fun e w' => ∃ A c, e = .returned (.slice A (1 + each) c) ∧ Sl w' A (pcf s coins each i) c ∧ (∀ b off, A = some ⟨b, off, none⟩ → W.heap.size ≤ b) ∧ Below W.heap.size W w' := by
  obtain ⟨b, off, rfl, hb, hcell⟩ := hS.1 (by omega)
  have hx : W.cell? ⟨b, off + i, none⟩ = some (bv (s.getD i 0)) := hcell i _ (getD_cell hi)
  have hle := Nat.mul_le_mul_right each (show i + 1 ≤ s.length by omega)
  have hle2 := Nat.mul_le_mul h1 h2
  have hpl := pcf_length hl hi
  rw [← hl] at hle
  obtain ⟨j, hj⟩ : ∃ j, i + 1 = j := ⟨_, rfl⟩
  obtain ⟨f, hf⟩ : ∃ f, i * each = f := ⟨_, rfl⟩
  obtain ⟨t, ht⟩ : ∃ t, j * each = t := ⟨_, rfl⟩
  have hft : f + each = t := by rw [← ht, ← hj, Nat.add_mul, hf]; omega
  rw [hj, ht] at hle
  have w1 : IntKind.i64.wrap ((i : Int) + 1) = (j : Int) := by rw [IntKind.wrap_i64]; omega
  have w2 : IntKind.i64.wrap ((i : Int) * (each : Int)) = (f : Int) := by rw [← Int.natCast_mul, hf, IntKind.wrap_i64]; omega
  have w3 : IntKind.i64.wrap ((j : Int) * (each : Int)) = (t : Int) := by rw [← Int.natCast_mul, ht, IntKind.wrap_i64]; omega
  have HH := Lib.hid (And.intro hS (And.intro hC hpl))
  unfold bv at hx
  unfold pcf at HH ⊢
  rw [hf] at *
  have HE := Lib.hid (And.intro hj (And.intro hft hle))
  clear ht hf
  generalize s.getD i 0 = x at *
  have HP := Lib.hid hl
  have i1 : (0 : Int) ≤ (i : Int) := by omega
  have i2 : (i : Int) < (s.length : Int) := by omega
  clear hS hC hcell hpl hl hj hft hle hle2
  generalize s.length = n at *
  go_enter Tryd.func60, Tryd.ntmps60
  go_wp2_with fail
  go_quiet (fail)
  go_wp2_with fail
  have hs2 : (W.drewN nq).cell? ⟨Bs, 0, none⟩ = some (.slice (some ⟨b, off, none⟩) n c1) := hs
  have hc2 : (W.drewN nq).cell? ⟨Bc, 0, none⟩ = some (.slice A2 coins.length c2) := hc
  have hx2 : (W.drewN nq).cell? ⟨b, off + i, none⟩ = some (.int .u8 (x.toNat : Int)) := hx
  have HB := Lib.hid (below_drewN W nq)
  have hsz : (W.drewN nq).heap.size = W.heap.size := rfl
  have HC2 : Hid (Sl (W.drewN nq) A2 coins c2) := HH.out.2.1
  have hcc := HH.out.2.1.2.1
  have l1 : (0 : Int) ≤ (f : Int) := by omega
  have l2 : (f : Int) ≤ (t : Int) := by have := HE.out.2.1; omega
  have l3 : (t : Int) ≤ (c2 : Int) := by have := HE.out.2.2; omega
  have HS0 := Lib.hid (fun w9 (h9 : Below W.heap.size W w9) => And.intro ((h9.cell (p := ⟨Bs, 0, none⟩) (World.block_lt_of_cell? W _ hs)).trans hs) (And.intro ((h9.cell (p := ⟨Bc, 0, none⟩) (World.block_lt_of_cell? W _ hc)).trans hc) ((h9.cell (p := ⟨b, off + i, none⟩) hb).trans hx)))
  clear hcc w1 w2 w3 he hs hc hx
  generalize W.drewN nq = V at *
  have hown : ((V.alloc (.cells #[.int .u8 (x.toNat : Int)] 5)).drew).ownsRow W.heap.size 5 1 (.slice (some ⟨W.heap.size, 0, none⟩) 1 1) 1 [.int .u8 (x.toNat : Int)] := by
    have := World.ownsRow_lit (base := W.heap.size) (e := 5) (size := 1) V #[.int .u8 (x.toNat : Int)] 1 (by omega) (by unfold maxLen; omega) rfl
    rw [hsz] at this
    exact this
  have hb3 : Below W.heap.size W ((V.alloc (.cells #[.int .u8 (x.toNat : Int)] 5)).drew) := ((HB.out.trans (((Below.refl V.heap.size V).alloc (Nat.le_refl _) _).mono HB.out.size))).drew
  have hsl : Sl ((V.alloc (.cells #[.int .u8 (x.toNat : Int)] 5)).drew) (if t = f then A2 else A2.map (fun x => x.add f)) ((coins.drop f).take (t - f)) (t - f) :=
    (HC2.out.up (((Below.refl V.heap.size V).alloc (Nat.le_refl _) _).drew)).cut3 f t (by omega) HE.out.2.2
  have htf : t - f = each := by have := HE.out.2.1; omega
  have hll : ((coins.drop f).take (t - f)).length = t - f := by
    have := HE.out.2.2
    simp
    omega
  have HW := Lib.hid (And.intro hown (And.intro hb3 (And.intro hsl (And.intro htf hll))))
  clear hown hb3 hsl htf hll
  go_region_held3 (fun w' => w'.cell? ⟨Bs, 0, none⟩ = some (.slice (some ⟨b, off, none⟩) n c1) ∧ w'.cell? ⟨Bc, 0, none⟩ = some (.slice A2 coins.length c2) ∧ w'.cell? ⟨b, off + i, none⟩ = some (.int .u8 (x.toNat : Int)))
    (first | exact ⟨hs2, hc2, hx2⟩ | exact S9.out | go_keep)
    (first
      | (refine step_append_sl (by rfl) (.tmp 19) (.tmp 24) (by rfl) _ 1 _ (by rfl) HW.out.1 _ _ (t - f) (t - f) HW.out.2.2.2.2 (by rfl) HW.out.2.2.1 (1 + each) (by rw [HW.out.2.2.2.1]) (by omega) HW.out.2.1.size ?_; intro A9 c9 w9 ho9 hg9; have hb9 := HW.out.2.1.grown hg9 HW.out.2.1.size (fun i hi => (HW.out.1.lt i hi).1); have S9 := Lib.hid (HS0.out _ hb9); have H9 := Lib.hid (And.intro ho9 hb9); clear ho9 hg9 hb9)
      | fail)
  all_goals
    go_wp2_with fail
    all_goals
      go_ret
      refine ⟨A9, c9, rfl, ?_, fun b off e => ?_, H9.out.2⟩
      · have h := H9.out.1
        rw [HW.out.2.2.2.1] at h
        exact Sl.of_own' (l := x :: (coins.drop f).take each) h HH.out.2.2.symm
      · subst e
        exact (World.ownsRow.lt H9.out.1 b rfl).1

set_option maxHeartbeats 1000000 in
set_option maxRecDepth 100000 in
theorem pol_any (each : Nat) (A1 A2 : Option Addr) (c1 c2 : Nat) (s coins : List UInt8) (W : World) (hS : Sl W A1 s c1) (hC : Sl W A2 coins c2) (hl : coins.length = s.length * each) (h1 : s.length ≤ 100) (h2 : each ≤ 100) :
    Calls Tryd.prog 33 #[.slice A1 s.length c1, .slice A2 coins.length c2, .int .i64 (each : Int)] W (RowL ((List.range s.length).map (pcf s coins each)) W) := by
  have hb0 : Below W.heap.size W (((W.alloc (.cells #[.slice A1 s.length c1] 23)).alloc (.cells #[.slice A2 coins.length c2] 23)).alloc (.cells #[.int .i64 (each : Int)] 3)) :=
    (((Below.refl _ W).alloc (Nat.le_refl _) _).alloc (by simp) _).alloc (by simp; omega) _
  have b1 := ((Box.new W #[.slice A1 s.length c1] 23).alloc (.cells #[.slice A2 coins.length c2] 23)).alloc (.cells #[.int .i64 (each : Int)] 3)
  have b2 := (Box.new (W.alloc (.cells #[.slice A1 s.length c1] 23)) #[.slice A2 coins.length c2] 23).alloc (.cells #[.int .i64 (each : Int)] 3)
  have b3 := Box.new ((W.alloc (.cells #[.slice A1 s.length c1] 23)).alloc (.cells #[.slice A2 coins.length c2] 23)) #[.int .i64 (each : Int)] 3
  simp only [World.size_alloc] at b2 b3
  have hC : ∀ W1, W1 = (((W.alloc (.cells #[.slice A1 s.length c1] 23)).alloc (.cells #[.slice A2 coins.length c2] 23)).alloc (.cells #[.int .i64 (each : Int)] 3)) →
      Calls Tryd.prog 43 #[.int .i64 (s.length : Int), .func (.func 60) #[] #[.pointer (some ⟨W.heap.size + 1 + 1, 0, none⟩), .pointer (some ⟨W.heap.size, 0, none⟩), .pointer (some ⟨W.heap.size + 1, 0, none⟩)]] W1
        (RowL ((List.range s.length).map (pcf s coins each)) W1) := by
    rintro W1 rfl
    refine collL s.length (by omega) _ _ _ _ (enters_of Tryd.func60 (by kernel_rfl) rfl) ?_
    intro j W2 hj hlt hb2
    have hbB := hb0.trans (hb2.mono hb0.size)
    refine (pol1_any j each _ _ _ A1 A2 c1 c2 s coins W2 ((b3.below hb2).cell 0) ((b1.below hb2).cell 0) ((b2.below hb2).cell 0) (hS.up hbB) (hC.up hbB) hj hl h1 h2).mono ?_
    rintro e w3 ⟨A, c, rfl, hs, ha, hb⟩
    exact ⟨A, c, by rw [pcf_length hl hj], hs, fun b off e => by have := ha b off e; omega, hb⟩
  have HC := Lib.hid (And.intro hC hb0)
  clear hC hb0 b1 b2 b3 hS hl
  generalize s.length = n at *
  generalize coins.length = m at *
  go_enter Tryd.func33, Tryd.ntmps33
  go_wp2_with fail
  refine (HC.out.1 _ rfl).mono ?_
  rintro e w3 ⟨g, c3, hg, rfl, hO, hb3⟩
  go_wp2_with fail
  go_ret
  simp only [World.size_alloc] at hg
  exact ⟨g, c3, by omega, by rw [List.length_map, List.length_range]; rfl, hO, HC.out.2.trans (hb3.mono HC.out.2.size)⟩
end Go.Proofs.YtjkojjimlebmjaaDoor
