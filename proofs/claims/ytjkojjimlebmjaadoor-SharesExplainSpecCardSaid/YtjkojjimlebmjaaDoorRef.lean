/- Refresh. -/
import Derived.Test.YtjkojjimlebmjaaDoorSum
import Derived.Test.YtjkojjimlebmjaaDoorSplit
import Derived.Test.YtjkojjimlebmjaaDoorJoin
import Derived.Test.YtjkojjimlebmjaaDoorGrow
namespace Go.Proofs.YtjkojjimlebmjaaDoor
open Go.RowKit
set_option linter.unusedVariables false

/-- The zeros of as many bytes as shares have. -/
def zer (l : List Shr) : List UInt8 := List.replicate ((l[0]?.map (fun s => s.data.length)).getD 0) 0
/-- Refresh's error and shares. -/
def rfe (l : List Shr) (coins : List UInt8) : Int := match l with
  | [] => 60
  | s :: _ => if chk l ≠ 0 then chk l else if (l.length : Int) ≠ s.mn then 60 else spe (zer l) (s.ep + 1) s.th s.mn coins
def rfl' (l : List Shr) (coins : List UInt8) : List Shr := match l with
  | [] => []
  | s :: _ => if rfe l coins = 0 then (List.range l.length).map fun i => rsh (((spl (zer l) (s.ep + 1) s.th s.mn coins)[i]?).getD s) ((l[i]?).getD s) else []
def RfPost (l : List Shr) (coins : List UInt8) (w : World) (e : Ending) (w' : World) : Prop :=
  ∃ A c, e = .returned (.tuple #[.slice A (rfl' l coins).length c, .int .i64 (rfe l coins)]) ∧ SS w' A (rfl' l coins) c ∧ Below w.heap.size w w'

theorem make_u8 (n : Nat) (w : World) (hn : n ≤ 1000000) : (Instr.makeSlice 23 (.int .i64 n) (.int .i64 n)).run Tryd.prog w = .ok (.slice (some ⟨w.heap.size, 0, none⟩) n n) (w.alloc (.cells (zrow n) 5)) := by
  obtain ⟨i0, hi0, hz0, hz1, hz2⟩ := info_parts u8_info
  have := run_make w 23 5 i0 (.int .u8 0) Tryd.underlying23 hi0 hz0 .i64 .i64 (n : Int) (n : Int) (by omega) (by omega) (by rw [hz2]; omega) (by omega)
  rw [hz1, Int.toNat_natCast, Nat.mul_one, made_u8] at this
  exact this
theorem sl_zrow (w : World) (n : Nat) (hn : n ≤ 1000000) : Sl (w.alloc (.cells (zrow n) 5)) (some ⟨w.heap.size, 0, none⟩) (List.replicate n 0) n := by
  have h : Box (w.alloc (.cells (zrow n) 5)) w.heap.size ((List.replicate n (0 : UInt8)).map bv).toArray 5 := Box.new w _ _
  exact ⟨Bs.of_box h, by simp, le_maxLen (by omega), fun h => by cases h⟩

/-- A variable that holds nil is no memory of bytes, nor of shares. -/
theorem sl_setnil {w : World} {A : Option Addr} {l : List UInt8} {c g : Nat} {v : Value} (h : Sl w A l c) (hg : w.cell? ⟨g, 0, none⟩ = some (.slice none 0 0)) : Sl (w.setCell ⟨g, 0, none⟩ v) A l c := by
  refine ⟨fun hp => ?_, h.2⟩
  obtain ⟨b, off, e, hb, hc⟩ := h.1 hp
  refine ⟨b, off, e, by simpa [World.setCell] using hb, fun j u hu => ?_⟩
  have h1 := hc j u hu
  rw [World.cell?_setCell_other w _ _ v (fun e2 => ?_)]
  · exact h1
  · rw [← e2, hg] at h1
    injection h1 with h1
    cases h1
theorem sh_setnil {w : World} {b off g : Nat} {s : Shr} {v : Value} (h : ShAt w b off s) (hg : w.cell? ⟨g, 0, none⟩ = some (.slice none 0 0)) : ShAt (w.setCell ⟨g, 0, none⟩ v) b off s := by
  obtain ⟨A, c, h0, h1, h2, h3, h4, hs⟩ := h
  have hk : ∀ o n, w.cell? ⟨b, o, none⟩ = some (.int .i64 n) → (w.setCell ⟨g, 0, none⟩ v).cell? ⟨b, o, none⟩ = some (.int .i64 n) := fun o n h => by
    rw [World.cell?_setCell_other w _ _ v (fun e2 => ?_)]
    · exact h
    · rw [← e2, hg] at h
      injection h with h
      cases h
  refine ⟨A, c, hk _ _ h0, hk _ _ h1, hk _ _ h2, hk _ _ h3, ?_, sl_setnil hs hg⟩
  rw [World.cell?_setCell_other w _ _ v (fun e2 => ?_)]
  · exact h4
  · injection e2 with e3 e4
    omega
theorem SS.setnil {w : World} {A : Option Addr} {l : List Shr} {c g : Nat} {v : Value} (h : SS w A l c) (hg : w.cell? ⟨g, 0, none⟩ = some (.slice none 0 0)) : SS (w.setCell ⟨g, 0, none⟩ v) A l c := by
  refine ⟨fun hp => ?_, h.2⟩
  obtain ⟨b, off, e, hb, hs⟩ := h.1 hp
  exact ⟨b, off, e, by simpa [World.setCell] using hb, fun i s hi => sh_setnil (hs i s hi) hg⟩

theorem upd_id {vs : Nat → Value} {i : Nat} {x : Value} (h : vs i = x) : upd vs i x = vs := by
  funext j
  unfold upd
  split
  · rename_i e
    rw [e, h]
  · rfl

/-- What each operation of the region leaves. -/
def valF (g m cD nc cC : Nat) (ep th mn E : Int) (D C : Option Addr) : Nat → Value
  | 0 => .pointer (some ⟨g, 4, none⟩)
  | 1 => .slice D m cD
  | 2 => .int .i64 (m : Int)
  | 4 => .pointer (some ⟨g, 0, none⟩)
  | 5 => .int .i64 ep
  | 6 => .int .i64 (ep + 1)
  | 7 => .pointer (some ⟨g, 2, none⟩)
  | 8 => .int .i64 th
  | 9 => .pointer (some ⟨g, 3, none⟩)
  | 10 => .int .i64 mn
  | 11 => .slice C nc cC
  | 15 => .int .i64 E
  | _ => undef
def phF (h m : Nat) (zs : List Shr) (E : Int) (val : Nat → Value) : Nat → Value → World → Prop
  | 3, v, w => ∃ g, v = .slice (some ⟨g, 0, none⟩) m m ∧ Sl w (some ⟨g, 0, none⟩) (List.replicate m 0) m
  | 12, v, w => ∃ A c, v = .tuple #[.slice A zs.length c, .int .i64 E] ∧ SS w A zs c
  | 13, v, w => ∃ A c, v = .tuple #[.slice A zs.length c, .int .i64 E] ∧ SS w A zs c
  | 14, v, w => ∃ A c, v = .slice A zs.length c ∧ SS w A zs c
  | 16, v, w => ∃ g, v = .pointer (some ⟨g, 0, none⟩) ∧ h ≤ g ∧ Box w g #[.slice none 0 0] 22
  | i, v, _ => v = val i
theorem phF_lasts (h m : Nat) (zs : List Shr) (E : Int) (val : Nat → Value) : ∀ i v w w', phF h m zs E val i v w → Below w.heap.size w w' → phF h m zs E val i v w' := by
  intro i v w w' hp hb
  unfold phF at hp ⊢
  split at hp
  · obtain ⟨g, h1, h2⟩ := hp
    exact ⟨g, h1, h2.up hb⟩
  · obtain ⟨A, c, h1, h2⟩ := hp
    exact ⟨A, c, h1, h2.up hb⟩
  · obtain ⟨A, c, h1, h2⟩ := hp
    exact ⟨A, c, h1, h2.up hb⟩
  · obtain ⟨A, c, h1, h2⟩ := hp
    exact ⟨A, c, h1, h2.up hb⟩
  · obtain ⟨g, h1, h2, h3⟩ := hp
    exact ⟨g, h1, h2, h3.below hb⟩
  · exact hp
theorem rf_cons {l : List Shr} {s0 : Shr} (h0 : l[0]? = some s0) (coins : List UInt8) : rfe l coins = (if chk l ≠ 0 then chk l else if (l.length : Int) ≠ s0.mn then 60 else spe (zer l) (s0.ep + 1) s0.th s0.mn coins) ∧
    rfl' l coins = (if rfe l coins = 0 then (List.range l.length).map fun i => rsh (((spl (zer l) (s0.ep + 1) s0.th s0.mn coins)[i]?).getD s0) ((l[i]?).getD s0) else []) ∧ zer l = List.replicate s0.data.length 0 := by
  cases l with
  | nil => cases h0
  | cons a l =>
    simp at h0
    subst h0
    exact ⟨rfl, rfl, rfl⟩
theorem rf_fail {l : List Shr} {coins : List UInt8} {w w' : World} {e : Int} (he : rfe l coins = e) (hne : e ≠ 0) (hb : Below w.heap.size w w') : RfPost l coins w (.returned (.tuple #[.slice none 0 0, .int .i64 e])) w' := by
  have hx : rfl' l coins = [] := by
    cases l with
    | nil => rfl
    | cons a l =>
      show (if rfe (a :: l) coins = 0 then _ else _) = _
      rw [he, if_neg hne]
  exact ⟨none, 0, by rw [he, hx]; rfl, by rw [hx]; exact SS.nil w', hb⟩

theorem rf_coll (Bz Bl n m : Nat) (A1 A2 : Option Addr) (c1 c2 : Nat) (zs l : List Shr) (s0 : Shr) (V : World) (hz : V.cell? ⟨Bz, 0, none⟩ = some (.slice A1 zs.length c1)) (hl : V.cell? ⟨Bl, 0, none⟩ = some (.slice A2 n c2)) (hS1 : SS V A1 zs c1) (hS2 : SS V A2 l c2)
    (hln : l.length = n) (hzn : zs.length = n) (hm : ∀ u ∈ l, u.data.length = m) (hmz : ∀ u ∈ zs, u.data.length = m) (hm2 : m ≤ 64) (hn : n ≤ 1000000) :
    Calls Tryd.prog 23 #[.int .i64 (n : Int), .func (.func 24) #[] #[.pointer (some ⟨Bz, 0, none⟩), .pointer (some ⟨Bl, 0, none⟩)]] V (RowS ((List.range n).map fun i => rsh ((zs[i]?).getD s0) ((l[i]?).getD s0)) V) := by
  refine collS n hn _ _ _ _ (enters_of Tryd.func24 (by kernel_rfl) rfl) ?_
  intro i W hi hlt hb
  have h1 : zs[i]? = some (zs[i]'(by omega)) := List.getElem?_eq_getElem _
  have h2 : l[i]? = some (l[i]'(by omega)) := List.getElem?_eq_getElem _
  rw [h1, h2]
  have hd1 := hmz _ (List.mem_of_getElem? h1)
  have hd2 := hm _ (List.mem_of_getElem? h2)
  refine (rf1_any i Bz Bl A1 A2 c1 c2 zs l _ _ W ((hb.cell (p := ⟨Bz, 0, none⟩) (World.block_lt_of_cell? _ _ hz)).trans hz) (by rw [hln]; exact (hb.cell (p := ⟨Bl, 0, none⟩) (World.block_lt_of_cell? _ _ hl)).trans hl) (hS1.up hb) (hS2.up hb) h1 h2 (by rw [hd1, hd2]) (by omega)).mono ?_
  rintro e w' ⟨A, c, rfl, hs, ha, hb'⟩
  exact ⟨A, c, rfl, hs, fun b off e => by have := ha b off e; omega, hb'⟩
theorem spl_facts {s coins : List UInt8} {ep th mn : Int} (h : spe s ep th mn coins = 0) : (spl s ep th mn coins).length = mn.toNat ∧ ∀ u ∈ spl s ep th mn coins, u.data.length = s.length := by
  unfold spl
  rw [if_pos h]
  refine ⟨by simp, fun u hu => ?_⟩
  obtain ⟨i, _, rfl⟩ := List.mem_map.1 hu
  simp [psh, pols]
end Go.Proofs.YtjkojjimlebmjaaDoor
