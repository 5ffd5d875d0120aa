/- Variables of links and of packets in the laws; the contracts in their words. -/
import Derived.Test.YtojijebmipgeeaaDl
import Derived.Test.YtojijebmipgeeaaCt
import Derived.Test.YtojijebmipgeeaaRt
namespace Go.Proofs.Ytojijebmipgeeaa
open Go.RowKit Go.Sort
set_option linter.unusedVariables false

/-- A variable of links: its box, and what its slices hold. -/
structure NV (w : World) (b : Nat) (n : Nt) (A : Option Addr) (c : Nat) (B : Option Addr) (k lq la : Nat) : Prop where
  box : Box w b #[.slice A lq c, .slice B la k] 25
  inn : NtIn w n A c B k
  hq : n.q.length = lq
  ha : n.ap.length = la
theorem NV.up {w w' : World} {b : Nat} {n : Nt} {A : Option Addr} {c : Nat} {B : Option Addr} {k lq la : Nat} (h : NV w b n A c B k lq la) (hb : Below w.heap.size w w') : NV w' b n A c B k lq la := ⟨h.box.below hb, h.inn.up hb, h.hq, h.ha⟩
theorem NV.new {w : World} {n : Nt} {A : Option Addr} {c : Nat} {B : Option Addr} {k lq la : Nat} (h : NtIn w n A c B k) (hq : n.q.length = lq) (ha : n.ap.length = la) : NV (w.alloc (.cells #[.slice A lq c, .slice B la k] 25)) w.heap.size n A c B k lq la :=
  ⟨Box.new w _ _, h.up ((Below.refl _ w).alloc (Nat.le_refl _) _), hq, ha⟩
theorem NV.val {w : World} {b : Nat} {n : Nt} {A : Option Addr} {c : Nat} {B : Option Addr} {k lq la : Nat} (h : NV w b n A c B k lq la) : ntv n A c B k = .agg #[.slice A lq c, .slice B la k] := by
  unfold ntv ntc
  rw [h.hq, h.ha]
theorem NV.cells {w : World} {b : Nat} {n : Nt} {A : Option Addr} {c : Nat} {B : Option Addr} {k lq la : Nat} (h : NV w b n A c B k lq la) : w.cell? ⟨b, 0, none⟩ = some (.slice A lq c) ∧ w.cell? ⟨b, 1, none⟩ = some (.slice B la k) := ⟨h.box.cell 0, h.box.cell 1⟩
theorem NV.frozen {w : World} {b : Nat} {n : Nt} {A : Option Addr} {c : Nat} {B : Option Addr} {k lq la : Nat} (h : NV w b n A c B k lq la) : w.frozen? ⟨b, 0, none⟩ = false ∧ w.frozen? ⟨b, 1, none⟩ = false := ⟨h.box.frozen 0, h.box.frozen 1⟩
/-- A variable of a packet. -/
structure PV (w : World) (b : Nat) (p : Pk) (D : Option Addr) (d m : Nat) : Prop where
  box : Box w b #[.int .i64 p.fr, .int .i64 p.to, .slice D m d] 28
  sl : Sl w D p.da d
  hm : p.da.length = m
theorem PV.up {w w' : World} {b : Nat} {p : Pk} {D : Option Addr} {d m : Nat} (h : PV w b p D d m) (hb : Below w.heap.size w w') : PV w' b p D d m := ⟨h.box.below hb, h.sl.up hb, h.hm⟩
theorem PV.new {w : World} {p : Pk} {D : Option Addr} {d m : Nat} (h : Sl w D p.da d) (hm : p.da.length = m) : PV (w.alloc (.cells #[.int .i64 p.fr, .int .i64 p.to, .slice D m d] 28)) w.heap.size p D d m :=
  ⟨Box.new w _ _, h.up ((Below.refl _ w).alloc (Nat.le_refl _) _), hm⟩
theorem PV.val {w : World} {b : Nat} {p : Pk} {D : Option Addr} {d m : Nat} (h : PV w b p D d m) : pkv p D d = .agg #[.int .i64 p.fr, .int .i64 p.to, .slice D m d] := by
  unfold pkv pkc
  rw [h.hm]
theorem PV.cells {w : World} {b : Nat} {p : Pk} {D : Option Addr} {d m : Nat} (h : PV w b p D d m) : w.cell? ⟨b, 0, none⟩ = some (.int .i64 p.fr) ∧ w.cell? ⟨b, 1, none⟩ = some (.int .i64 p.to) ∧ w.cell? ⟨b, 2, none⟩ = some (.slice D m d) := ⟨h.box.cell 0, h.box.cell 1, h.box.cell 2⟩

/-- Links and an error, with their lengths told. -/
def NtP (n : Nt) (er : Int) (w : World) (e : Ending) (w' : World) : Prop := ∃ A c B k lq la, e = .returned (.tuple #[.agg #[.slice A lq c, .slice B la k], .int .i64 er]) ∧ (n.q.length = lq ∧ n.ap.length = la) ∧ NtIn w' n A c B k ∧ Below w.heap.size w w'
theorem NtPost.ex {n : Nt} {er : Int} {w : World} {e : Ending} {w' : World} (h : NtPost n er w e w') : NtP n er w e w' := by
  obtain ⟨A, c, B, k, h1, h2, h3⟩ := h
  exact ⟨A, c, B, k, _, _, h1, ⟨rfl, rfl⟩, h2, h3⟩
def NtO (n : Nt) (w : World) (e : Ending) (w' : World) : Prop := ∃ A c B k lq la, e = .returned (.agg #[.slice A lq c, .slice B la k]) ∧ (n.q.length = lq ∧ n.ap.length = la) ∧ NtIn w' n A c B k ∧ Below w.heap.size w w'
theorem NtOnly.ex {n : Nt} {w : World} {e : Ending} {w' : World} (h : NtOnly n w e w') : NtO n w e w' := by
  obtain ⟨A, c, B, k, h1, h2, h3⟩ := h
  exact ⟨A, c, B, k, _, _, h1, ⟨rfl, rfl⟩, h2, h3⟩
def DlP (p : Pk) (n : Nt) (er : Int) (w : World) (e : Ending) (w' : World) : Prop := ∃ D d m A c B k lq la, e = .returned (.tuple #[.agg #[.int .i64 p.fr, .int .i64 p.to, .slice D m d], .agg #[.slice A lq c, .slice B la k], .int .i64 er]) ∧ (p.da.length = m ∧ Sl w' D p.da d) ∧ (n.q.length = lq ∧ n.ap.length = la) ∧ NtIn w' n A c B k ∧ Below w.heap.size w w'
theorem DlPost.ex {p : Pk} {n : Nt} {er : Int} {w : World} {e : Ending} {w' : World} (h : DlPost p n er w e w') : DlP p n er w e w' := by
  obtain ⟨D, d, A, c, B, k, h1, h2, h3, h4⟩ := h
  exact ⟨D, d, _, A, c, B, k, _, _, h1, ⟨rfl, h2⟩, ⟨rfl, rfl⟩, h3, h4⟩

theorem new_v (w : World) : Calls Try.prog 16 #[] w (NtO nt0 w) := (new_any w).mono fun e w' h => h.ex
section
variable {w W : World} {b bp : Nat} {n : Nt} {A : Option Addr} {c : Nat} {B : Option Addr} {k lq la : Nat} {p : Pk} {D : Option Addr} {d m : Nat}
theorem check_v (h : NV W b n A c B k lq la) : Calls Try.prog 13 #[.agg #[.slice A lq c, .slice B la k]] W (IntPost (chk n) W) := h.val ▸ check_any n A B c k W h.inn
theorem send_v (h : NV W b n A c B k lq la) (hp : PV W bp p D d m) : Calls Try.prog 11 #[.agg #[.slice A lq c, .slice B la k], .agg #[.int .i64 p.fr, .int .i64 p.to, .slice D m d]] W (NtP (sn n p) (sne n p) W) := by
  have := send_any n A B D c k d p W h.inn hp.sl
  rw [h.val, hp.val] at this
  exact this.mono fun e w' h => h.ex
theorem send_s (h : NV W b n A c B k lq la) (hs : Sl W D p.da d) (hm : p.da.length = m) : Calls Try.prog 11 #[.agg #[.slice A lq c, .slice B la k], .agg #[.int .i64 p.fr, .int .i64 p.to, .slice D m d]] W (NtP (sn n p) (sne n p) W) := by
  have := send_any n A B D c k d p W h.inn hs
  have e : pkv p D d = .agg #[.int .i64 p.fr, .int .i64 p.to, .slice D m d] := by unfold pkv pkc; rw [hm]
  rw [h.val, e] at this
  exact this.mono fun e w' h => h.ex
theorem deliver_v (h : NV W b n A c B k lq la) (i : Int) : Calls Try.prog 20 #[.agg #[.slice A lq c, .slice B la k], .int .i64 i] W (DlP (dlp n i) (los n i) (hle n i) W) := by
  have := deliver_any n A B c k i W h.inn
  rw [h.val] at this
  exact this.mono fun e w' h => h.ex
theorem lose_v (h : NV W b n A c B k lq la) (i : Int) : Calls Try.prog 23 #[.agg #[.slice A lq c, .slice B la k], .int .i64 i] W (NtP (los n i) (hle n i) W) := by
  have := lose_any n A B c k i W h.inn
  rw [h.val] at this
  exact this.mono fun e w' h => h.ex
theorem repeat_v (h : NV W b n A c B k lq la) (i : Int) : Calls Try.prog 25 #[.agg #[.slice A lq c, .slice B la k], .int .i64 i] W (NtP (rp n i) (rpe n i) W) := by
  have := repeat_any n A B c k i W h.inn
  rw [h.val] at this
  exact this.mono fun e w' h => h.ex
theorem cut_v (h : NV W b n A c B k lq la) (x y : Int) (on : Bool) : Calls Try.prog 18 #[.agg #[.slice A lq c, .slice B la k], .int .i64 x, .int .i64 y, .bool on] W (NtP (ct n x y on) (cte n x y) W) := by
  have := cut_any n A B c k x y on W h.inn
  rw [h.val] at this
  exact this.mono fun e w' h => h.ex
theorem few_v (h : NV W b n A c B k lq la) : Calls Try.prog 10 #[.agg #[.slice A lq c, .slice B la k]] W (BoolPost (few n) W) := h.val ▸ few_any n A B c k W
theorem same_v {b2 : Nat} {n2 : Nt} {A2 B2 : Option Addr} {c2 k2 lq2 la2 : Nat} (h : NV W b n A c B k lq la) (h2 : NV W b2 n2 A2 c2 B2 k2 lq2 la2) : Calls Try.prog 15 #[.agg #[.slice A lq c, .slice B la k], .agg #[.slice A2 lq2 c2, .slice B2 la2 k2]] W (BoolPost (smn n n2) W) := by
  have := same_any n n2 A B A2 B2 c k c2 k2 W h.inn h2.inn
  rw [h.val, h2.val] at this
  exact this
theorem samep_v {b2 : Nat} {p2 : Pk} {D2 : Option Addr} {d2 m2 : Nat} (h : PV W b p D d m) (h2 : PV W b2 p2 D2 d2 m2) : Calls Try.prog 22 #[.agg #[.int .i64 p.fr, .int .i64 p.to, .slice D m d], .agg #[.int .i64 p2.fr, .int .i64 p2.to, .slice D2 m2 d2]] W (BoolPost (spk p p2) W) := by
  have := samePacket_any p p2 D D2 d d2 W h.sl h2.sl
  rw [h.val, h2.val] at this
  exact this
theorem samep_0 (h : PV W b p D d m) : Calls Try.prog 22 #[.agg #[.int .i64 p.fr, .int .i64 p.to, .slice D m d], .agg #[.int .i64 0, .int .i64 0, .slice none 0 0]] W (BoolPost (spk p pk0) W) := by
  have := samePacket_any p pk0 D none d 0 W h.sl (sl_none W)
  rw [h.val] at this
  exact this
end
theorem alloc_lt (w : World) (o : Obj) : Below w.heap.size w (w.alloc o) := (Below.refl _ w).alloc (Nat.le_refl _) o
end Go.Proofs.Ytojijebmipgeeaa
