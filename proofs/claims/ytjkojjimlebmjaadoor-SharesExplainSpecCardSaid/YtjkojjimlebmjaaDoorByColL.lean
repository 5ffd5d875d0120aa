/- byColumn: rows. -/
import Derived.Test.YtjkojjimlebmjaaDoorByCol
import Derived.Deep.RegionHeld3
namespace Go.Proofs.YtjkojjimlebmjaaDoor
open Go.RowKit
set_option linter.unusedVariables false

set_option maxHeartbeats 1000000 in
set_option maxRecDepth 100000 in
theorem bcl11_any (i place Bl Bp : Nat) (A : Option Addr) (c : Nat) (l : List Shr) (W : World) (hl : W.cell? ⟨Bl, 0, none⟩ = some (.slice A l.length c)) (hpl : W.cell? ⟨Bp, 0, none⟩ = some (.int .i64 (place : Int))) (hS : SS W A l c) (hi : i < l.length) (h8 : ∀ s ∈ l, place < s.data.length) (hn : l.length ≤ 1000000) :
    Calls Tryd.prog 45 #[.int .i64 (i : Int), .pointer (some ⟨Bl, 0, none⟩), .pointer (some ⟨Bp, 0, none⟩)] W fun e w' => e = .returned (bv (((l[i]?.map (·.data)).getD []).getD place 0)) ∧ Below W.heap.size W w' := by
  obtain ⟨b, off, rfl, hb, hat⟩ := hS.1 (by omega)
  have hs : l[i]? = some l[i] := List.getElem?_eq_getElem hi
  obtain ⟨A1, c1, k0, k1, k2, k3, k4, hs1⟩ := hat i _ hs
  have h9 := h8 _ (List.getElem_mem hi)
  rw [hs]
  show Calls _ _ _ _ fun e w' => e = .returned (bv (l[i].data.getD place 0)) ∧ _
  generalize l[i] = s at *
  obtain ⟨b2, off2, rfl, hb2, hc2⟩ := hs1.1 (by omega)
  have hx := hc2 place _ (getD_cell h9)
  generalize s.data.getD place 0 = x at *
  unfold bv at hx ⊢
  generalize l.length = n at *
  generalize s.data.length = m at *
  have i1 : (0 : Int) ≤ (i : Int) := by omega
  have i2 : (i : Int) < (n : Int) := by omega
  have i3 : (0 : Int) ≤ (place : Int) := by omega
  have i4 : (place : Int) < (m : Int) := by omega
  clear hS hat hs hs1 k0 k1 k2 k3 hc2 h8
  go_enter Tryd.func45, Tryd.ntmps45
  go_wp2_with fail
  go_quiet (fail)
  go_wp2_with fail
  go_ret
  exact ⟨rfl, below_drewN _ _⟩
set_option maxHeartbeats 1000000 in
set_option maxRecDepth 100000 in
theorem bcl1_any (place Bt Bl : Nat) (A : Option Addr) (c : Nat) (l : List Shr) (gt : FuncId) (capsT : Array Value) (v : List UInt8) (h0 : Nat) (W : World) (eg : ∀ args w, (callFunc gt args).run Tryd.prog w = .ok (.enter gt args) w)
    (ht : W.cell? ⟨Bt, 0, none⟩ = some (.func (.func gt) #[] capsT)) (hl : W.cell? ⟨Bl, 0, none⟩ = some (.slice A l.length c)) (hS : SS W A l c) (h8 : ∀ s ∈ l, place < s.data.length) (hn : l.length ≤ 1000000)
    (hg : ∀ A2 c2 W2, W.heap.size < W2.heap.size → Below W.heap.size W W2 → Sl W2 A2 (colm l place) c2 → Calls Tryd.prog gt (#[.int .i64 (place : Int), .slice A2 l.length c2] ++ capsT) W2 fun e w' => ∃ A c, e = .returned (.slice A v.length c) ∧ Sl w' A v c ∧ (∀ b off, A = some ⟨b, off, none⟩ → h0 < b) ∧ Below W2.heap.size W2 w') :
    Calls Tryd.prog 44 #[.int .i64 (place : Int), .pointer (some ⟨Bt, 0, none⟩), .pointer (some ⟨Bl, 0, none⟩)] W fun e w' => ∃ A c, e = .returned (.slice A v.length c) ∧ Sl w' A v c ∧ (∀ b off, A = some ⟨b, off, none⟩ → h0 < b) ∧ Below W.heap.size W w' := by
  have hbl := World.block_lt_of_cell? W _ hl
  have hb0 : Below W.heap.size W (W.alloc (.cells #[.int .i64 (place : Int)] 3)).drew := ((Below.refl _ W).alloc (Nat.le_refl _) _).drew
  have hbx := (Box.new W #[.int .i64 (place : Int)] 3).drew
  have hC : ∀ W1, W1 = (W.alloc (.cells #[.int .i64 (place : Int)] 3)).drew →
      Calls Tryd.prog 35 #[.int .i64 (l.length : Int), .func (.func 45) #[] #[.pointer (some ⟨Bl, 0, none⟩), .pointer (some ⟨W.heap.size, 0, none⟩)]] W1 (Row8 (colm l place) W1) := by
    rintro W1 rfl
    refine coll8 l.length hn _ _ _ _ (enters_of Tryd.func45 (by kernel_rfl) rfl) ?_
    intro j W2 hj hlt hb2
    have hb3 := hb0.trans (hb2.mono hb0.size)
    exact bcl11_any j place Bl W.heap.size A c l W2 ((hb3.cell (p := ⟨Bl, 0, none⟩) hbl).trans hl) ((hbx.below hb2).cell 0) (hS.up hb3) hj h8 hn
  have HC := Lib.hid (And.intro hC (And.intro hb0 hg))
  have HL := Lib.hid (colm_length l place)
  have ht1 := (((Below.refl W.heap.size W).alloc (Nat.le_refl _) (.cells #[.int .i64 (place : Int)] 3)).cell (p := ⟨Bt, 0, none⟩) (World.block_lt_of_cell? W _ ht)).trans ht
  have hl1 := (((Below.refl W.heap.size W).alloc (Nat.le_refl _) (.cells #[.int .i64 (place : Int)] 3)).cell (p := ⟨Bl, 0, none⟩) hbl).trans hl
  clear hC hb0 hbx hS h8 hg
  generalize colm l place = L at *
  generalize l.length = n at *
  go_enter Tryd.func44, Tryd.ntmps44
  go_wp2_with fail
  have HC0 := Lib.hid (HC.out.1 _ rfl)
  have hz0 : (W.alloc (.cells #[.int .i64 (place : Int)] 3)).heap.size = W.heap.size + 1 := by simp
  have hp1 : (W.alloc (.cells #[.int .i64 (place : Int)] 3)).cell? ⟨W.heap.size, 0, none⟩ = some (.int .i64 (place : Int)) := (Box.new W #[.int .i64 (place : Int)] 3).cell 0
  have HC' := Lib.hid (And.intro HC.out.2.1 HC.out.2.2)
  clear HC
  generalize W.alloc (.cells #[.int .i64 (place : Int)] 3) = W0 at *
  have hs0 : W0.drew.cell? ⟨Bt, 0, none⟩ = some (.func (.func gt) #[] capsT) ∧ W0.drew.cell? ⟨W.heap.size, 0, none⟩ = some (.int .i64 (place : Int)) ∧ W0.drew.cell? ⟨Bl, 0, none⟩ = some (.slice A n c) := ⟨ht1, hp1, hl1⟩
  have hz : W0.drew.heap.size = W.heap.size + 1 := hz0
  have hkeep : ∀ w3, Below W0.drew.heap.size W0.drew w3 → w3.cell? ⟨Bt, 0, none⟩ = some (.func (.func gt) #[] capsT) ∧ w3.cell? ⟨W.heap.size, 0, none⟩ = some (.int .i64 (place : Int)) ∧ w3.cell? ⟨Bl, 0, none⟩ = some (.slice A n c) := fun w3 hb =>
    ⟨(hb.cell (p := ⟨Bt, 0, none⟩) (World.block_lt_of_cell? _ _ hs0.1)).trans hs0.1, (hb.cell (p := ⟨W.heap.size, 0, none⟩) (World.block_lt_of_cell? _ _ hs0.2.1)).trans hs0.2.1, (hb.cell (p := ⟨Bl, 0, none⟩) (World.block_lt_of_cell? _ _ hs0.2.2)).trans hs0.2.2⟩
  have HK := Lib.hid (And.intro hkeep (And.intro hs0 hz))
  clear hkeep hs0 hz hz0
  go_region_held3 (fun w' => w'.cell? ⟨Bt, 0, none⟩ = some (.func (.func gt) #[] capsT) ∧ w'.cell? ⟨W.heap.size, 0, none⟩ = some (.int .i64 (place : Int)) ∧ w'.cell? ⟨Bl, 0, none⟩ = some (.slice A n c))
    (first | exact HK.out.2.1 | exact S3.out | exact S4.out | go_keep)
    (first
      | (go_at_call 35; (with_reducible refine HC0.out.mono ?_); rintro e w3 ⟨g, c3, hg, rfl, hO, hb3⟩; rw [HL.out]; have S3 := Lib.hid (HK.out.1 _ hb3); have hb4 := HC'.out.1.trans (hb3.mono HC'.out.1.size); have HG := Lib.hid (And.intro (HC'.out.2 (some ⟨g, 0, none⟩) c3 w3 (by have := hb3.size; have := HK.out.2.2; omega) hb4 hO.sl) (And.intro hb4 hb3)); clear hO hb3 hb4 hg)
      | ((with_reducible refine HG.out.1.mono ?_); rintro e w4 ⟨A4, c4, rfl, hs4, ha4, hb5⟩; have B4 := Lib.hid (And.intro hs4 (And.intro ha4 (HG.out.2.1.trans (hb5.mono HG.out.2.1.size)))); clear hs4 ha4; have S4 := Lib.hid (HK.out.1 _ (HG.out.2.2.trans (hb5.mono HG.out.2.2.size))); clear hb5)
      | fail)
  all_goals
    go_wp2_with fail
    go_ret
    exact ⟨A4, c4, rfl, B4.out.1, B4.out.2.1, B4.out.2.2⟩

set_option maxHeartbeats 1000000 in
set_option maxRecDepth 100000 in
theorem bcoll_any (A : Option Addr) (c m : Nat) (l : List Shr) (gt : FuncId) (capsT : Array Value) (f : Nat → List UInt8) (w : World) (eg : ∀ args w, (callFunc gt args).run Tryd.prog w = .ok (.enter gt args) w)
    (hS : SS w A l c) (hp : 0 < l.length) (hm : ∀ s ∈ l, s.data.length = m) (hn : l.length ≤ 1000000) (hm2 : m ≤ 1000000)
    (hg : ∀ place A2 c2 W2, place < m → w.heap.size < W2.heap.size → Below w.heap.size w W2 → Sl W2 A2 (colm l place) c2 → Calls Tryd.prog gt (#[.int .i64 (place : Int), .slice A2 l.length c2] ++ capsT) W2 fun e w' => ∃ A c, e = .returned (.slice A (f place).length c) ∧ Sl w' A (f place) c ∧ (∀ b off, A = some ⟨b, off, none⟩ → W2.heap.size ≤ b) ∧ Below W2.heap.size W2 w') :
    Calls Tryd.prog 17 #[.slice A l.length c, .func (.func gt) #[] capsT] w (RowL ((List.range m).map f) w) := by
  have hb0 : Below w.heap.size w ((w.alloc (.cells #[.slice A l.length c] 22)).alloc (.cells #[.func (.func gt) #[] capsT] 44)) := ((Below.refl _ w).alloc (Nat.le_refl _) _).alloc (by simp) _
  have hbl := (Box.new w #[.slice A l.length c] 22).alloc (.cells #[.func (.func gt) #[] capsT] 44)
  have hbt := Box.new (w.alloc (.cells #[.slice A l.length c] 22)) #[.func (.func gt) #[] capsT] 44
  rw [World.size_alloc] at hbt
  have hC : ∀ W1, W1 = ((w.alloc (.cells #[.slice A l.length c] 22)).alloc (.cells #[.func (.func gt) #[] capsT] 44)) →
      Calls Tryd.prog 43 #[.int .i64 (m : Int), .func (.func 44) #[] #[.pointer (some ⟨w.heap.size + 1, 0, none⟩), .pointer (some ⟨w.heap.size, 0, none⟩)]] W1 (RowL ((List.range m).map f) W1) := by
    rintro W1 rfl
    refine collL m hm2 _ _ _ _ (enters_of Tryd.func44 (by kernel_rfl) rfl) ?_
    intro j W2 hj hlt hb2
    have hb3 := hb0.trans (hb2.mono hb0.size)
    refine bcl1_any j (w.heap.size + 1) w.heap.size A c l gt capsT (f j) (((w.alloc (.cells #[.slice A l.length c] 22)).alloc (.cells #[.func (.func gt) #[] capsT] 44)).heap.size) W2 eg ((hbt.below hb2).cell 0) ((hbl.below hb2).cell 0) (hS.up hb3) (fun s hs => by rw [hm s hs]; exact hj) hn ?_
    intro A2 c2 W3 hlt3 hb4 hsl
    refine (hg j A2 c2 W3 hj (by have := hb3.size; omega) (hb3.trans (hb4.mono hb3.size)) hsl).mono ?_
    rintro e w5 ⟨A5, c5, rfl, hs5, ha5, hb5⟩
    exact ⟨A5, c5, rfl, hs5, fun b off e => by have := ha5 b off e; omega, hb5⟩
  obtain ⟨b, off, rfl, hb, hat⟩ := hS.1 hp
  have hs : l[0]? = some l[0] := List.getElem?_eq_getElem hp
  obtain ⟨A1, c1, k0, k1, k2, k3, k4, hs1⟩ := (hat 0 _ hs).up hb hb0
  rw [hm _ (List.getElem_mem hp)] at k4
  simp only [Nat.zero_mul, Nat.add_zero] at k4
  have HC := Lib.hid (And.intro hC hb0)
  have HL : Hid (((List.range m).map f).length = m) := by simp [Hid]
  clear hC hb0 hbl hbt hS hg hat hs hs1 k0 k1 k2 k3 hm
  generalize (List.range m).map f = L at *
  generalize l.length = n at *
  have i1 : (0 : Int) < (n : Int) := by omega
  go_enter Tryd.func17, Tryd.ntmps17
  go_wp2_with fail
  refine (HC.out.1 _ rfl).mono ?_
  rintro e w3 ⟨g, c3, hg, rfl, hO, hb3⟩
  go_wp2_with fail
  go_ret
  simp only [World.size_alloc] at hg
  exact ⟨g, c3, by omega, by rw [HL.out]; rfl, hO, HC.out.2.trans (hb3.mono HC.out.2.size)⟩
end Go.Proofs.YtjkojjimlebmjaaDoor
