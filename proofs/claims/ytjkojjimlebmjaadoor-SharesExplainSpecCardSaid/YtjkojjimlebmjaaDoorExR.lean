/- Explain: the last two calls. -/
import Derived.Test.YtjkojjimlebmjaaDoorExP
import Derived.Test.YtjkojjimlebmjaaDoorByColL
import Derived.Test.YtjkojjimlebmjaaDoorCat
namespace Go.Proofs.YtjkojjimlebmjaaDoor
open Go.RowKit
set_option linter.unusedVariables false

theorem Bl.a {w W : World} (h : Below w.heap.size w W) (o : Obj) : Below w.heap.size w (W.alloc o) := h.alloc h.size o
theorem Bl.d {w W : World} (h : Below w.heap.size w W) : Below w.heap.size w W.drew := h.drew

theorem ex_rest (A As A9 : Option Addr) (c cs c9 sl n q t Bm Bs Bx Bn : Nat) (l : List Shr) (s : List UInt8) (W : World) (hK : KT W) (hS : SS W A l c) (hs : Sl W As s cs) (hx9 : Sl W A9 (idxs l ++ oths q) c9)
    (hm : W.cell? ⟨Bm, 0, none⟩ = some (.int .i64 (q : Int))) (hsb : W.cell? ⟨Bs, 0, none⟩ = some (.slice As sl cs)) (hx : W.cell? ⟨Bx, 0, none⟩ = some (.slice A9 t c9)) (hn : W.cell? ⟨Bn, 0, none⟩ = some (.int .i64 (n : Int)))
    (hln : l.length = n) (hsl : s.length = sl) (hq : n + q = t) (hn0 : 0 < n) (hq0 : 0 < q) (ht8 : t ≤ 8) (hd : sl ≤ 64) (ha : alk l = true) (hall : ∀ u ∈ l, u.data.length = sl) :
    Calls Tryd.prog 17 #[.slice A n c, .func (.func 18) #[] #[.pointer (some ⟨Bm, 0, none⟩), .pointer (some ⟨Bs, 0, none⟩), .pointer (some ⟨Bx, 0, none⟩), .pointer (some ⟨Bn, 0, none⟩)]] W (RowL ((List.range sl).map (exc l s q)) W) := by
  have hB := bcoll_any A c sl l 18 #[.pointer (some ⟨Bm, 0, none⟩), .pointer (some ⟨Bs, 0, none⟩), .pointer (some ⟨Bx, 0, none⟩), .pointer (some ⟨Bn, 0, none⟩)] (exc l s q) W
    (enters_of Tryd.func18 (by kernel_rfl) rfl) hS (by omega) hall (by omega) (by omega)
  rw [hln] at hB
  refine hB fun place A2 c2 W2 hp hlt hb2 hsy => ?_
  refine (ex1_any place q n Bm Bs Bx Bn As A9 A2 cs c9 c2 s (idxs l ++ oths q) (colm l place) W2 (hK.below hb2)
    ((hb2.cell (p := ⟨Bm, 0, none⟩) (World.block_lt_of_cell? _ _ hm)).trans hm) (by rw [hsl]; exact (hb2.cell (p := ⟨Bs, 0, none⟩) (World.block_lt_of_cell? _ _ hsb)).trans hsb)
    (by rw [List.length_append, idxs_length, oths_length, hln, hq]; exact (hb2.cell (p := ⟨Bx, 0, none⟩) (World.block_lt_of_cell? _ _ hx)).trans hx) ((hb2.cell (p := ⟨Bn, 0, none⟩) (World.block_lt_of_cell? _ _ hn)).trans hn)
    (hs.up hb2) (hx9.up hb2) hsy (by rw [hsl]; exact hp) hn0 hq0 (by omega) (by omega) (by rw [colm_length, hln]) (by rw [List.length_append, idxs_length, oths_length, hln]) (places_nodup ha q (by omega))).mono ?_
  rintro e w5 ⟨A5, c5, rfl, h5, h6, h7⟩
  exact ⟨A5, c5, by rw [exc_length ha hq0 (by omega), hln], h5, h6, h7⟩

theorem ex_flat (l : List Shr) (s : List UInt8) (sl q : Nat) (ha : alk l = true) (hq0 : 0 < q) (hq8 : q ≤ 8) (hd : sl ≤ 64) (hl : l.length ≤ 8) : ((List.range sl).map (exc l s q)).length = sl ∧ ((List.range sl).map (exc l s q)).flatten.length ≤ 1000000 := by
  refine ⟨by simp, Nat.le_trans (flat_le 100 _ (fun r hr => ?_)) (by simp; omega)⟩
  obtain ⟨place, _, rfl⟩ := List.mem_map.1 hr
  rw [exc_length ha hq0 (by omega)]
  omega
end Go.Proofs.YtjkojjimlebmjaaDoor
