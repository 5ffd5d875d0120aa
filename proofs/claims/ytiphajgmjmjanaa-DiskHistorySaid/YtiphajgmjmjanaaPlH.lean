/- A history of acts, in plain words. -/
import Derived.Test.YtiphajgmjmjanaaPlT
namespace Go.Proofs.Ytiphajgmjmjanaa
set_option linter.unusedVariables false

/-- Four sectors whose halves begin with these bytes. -/
def mk (F S : List UInt8) : List (List UInt8) := List.zipWith dbl F S
/-- Writes: sector and byte. -/
def wl (ws : List (Nat × UInt8)) : List (Int × List UInt8) := ws.map fun a => ((a.1 : Int), dbl a.2 a.2)
def lup (F : List UInt8) (ws : List (Nat × UInt8)) : List UInt8 := ws.foldl (fun F a => F.set a.1 a.2) F
theorem lup_snoc (F : List UInt8) (ws : List (Nat × UInt8)) (a : Nat × UInt8) : lup F (ws ++ [a]) = (lup F ws).set a.1 a.2 := by
  unfold lup
  rw [List.foldl_append]
  rfl
theorem lup_length (ws : List (Nat × UInt8)) : ∀ F, (lup F ws).length = F.length := by
  induction ws with
  | nil => intro F; rfl
  | cons a l ih => intro F; show (lup (F.set a.1 a.2) l).length = _; rw [ih, List.length_set]
theorem mk_set (x y : UInt8) : ∀ (F S : List UInt8) (i : Nat), (mk F S).set i (dbl x y) = mk (F.set i x) (S.set i y)
  | [], S, i => by simp [mk]
  | a :: F, [], i => by simp [mk]
  | a :: F, b :: S, 0 => rfl
  | a :: F, b :: S, i + 1 => by
    show dbl a b :: (mk F S).set i (dbl x y) = dbl a b :: mk (F.set i x) (S.set i y)
    rw [mk_set x y F S i]
theorem mk_perf (ws : List (Nat × UInt8)) : ∀ F S, perf (mk F S) (wl ws) = mk (lup F ws) (lup S ws) := by
  induction ws with
  | nil => intro F S; rfl
  | cons a l ih =>
    intro F S
    show perf ((mk F S).set ((a.1 : Int)).toNat (dbl a.2 a.2)) (wl l) = mk (lup (F.set a.1 a.2) l) (lup (S.set a.1 a.2) l)
    rw [show ((a.1 : Int)).toNat = a.1 by omega, mk_set, ih]
theorem mk_length {F S : List UInt8} (h : F.length = S.length) : (mk F S).length = F.length := by
  unfold mk
  rw [List.length_zipWith]
  omega
theorem mk_get {F S : List UInt8} {i : Nat} (hF : i < F.length) (hS : i < S.length) : (mk F S).getD i [] = dbl (F.getD i 0) (S.getD i 0) := by
  unfold mk
  simp only [List.getD_eq_getElem?_getD]
  rw [List.getElem?_zipWith, List.getElem?_eq_getElem hF, List.getElem?_eq_getElem hS]
  rfl
theorem mk_whole {F S : List UInt8} : ∀ s ∈ mk F S, s.length = 128 := by
  intro s hs
  unfold mk at hs
  obtain ⟨i, hi, e⟩ := List.mem_iff_getElem.1 hs
  rw [List.getElem_zipWith] at e
  rw [← e]
  exact dbl_length _ _
/-- The disk of a history: what is performed, what waits, what is left. -/
def hd (F S : List UInt8) (ws : List (Nat × UInt8)) (left : Int) : Dk := ⟨mk F S, wl ws, left, false⟩
theorem wl_length (ws : List (Nat × UInt8)) : (wl ws).length = ws.length := by simp [wl]
theorem hd_rng {F S : List UInt8} {ws : List (Nat × UInt8)} {left : Int} (hF : F.length = 4) (hS : S.length = 4) (hw : ws.length ≤ 4096) (h4 : ∀ a ∈ ws, a.1 < 4) (h1 : -1 ≤ left) (h2 : left ≤ 65536) : rng (hd F S ws left) = true := by
  unfold rng hd
  simp only [Bool.and_eq_true, Bool.not_eq_true', and_true]
  refine vld_facts.2 ⟨?_, by show (wl ws).length ≤ _; rw [wl_length]; exact hw, ⟨h1, h2⟩, mk_whole, fun a ha => ?_⟩
  · show 1 ≤ (mk F S).length ∧ _
    rw [mk_length (by omega)]
    omega
  · obtain ⟨b, hb, e⟩ := List.mem_map.1 ha
    subst e
    have := h4 b hb
    refine ⟨?_, dbl_length _ _⟩
    show 0 ≤ (b.1 : Int) ∧ (b.1 : Int) < ((mk F S).length : Int)
    rw [mk_length (by omega)]
    omega
/-- What is read of it. -/
theorem hd_rd {F S : List UInt8} {ws : List (Nat × UInt8)} {left : Int} (hF : F.length = 4) (hS : S.length = 4) (hw : ws.length ≤ 4096) (h4 : ∀ a ∈ ws, a.1 < 4) (h1 : -1 ≤ left) (h2 : left ≤ 65536) (k : Nat) (hk : k < 4) :
    rde (hd F S ws left) k = 0 ∧ rd (hd F S ws left) k = dbl ((lup F ws).getD k 0) ((lup S ws).getD k 0) := by
  have hr := hd_rng hF hS hw h4 h1 h2
  have hlen : (mk F S).length = 4 := by rw [mk_length (by omega), hF]
  have h0 : rde (hd F S ws left) k = 0 := rde_zero.2 ⟨hr, by unfold has hd; simp only [hlen]; simp; omega⟩
  refine ⟨h0, ?_⟩
  rw [rd_eq h0]
  show (lastw (k : Int) (wl ws)).getD ((mk F S).getD ((k : Int)).toNat []) = _
  rw [show ((k : Int)).toNat = k by omega]
  have := perf_get (mk F S) k (by omega) _ (wl ws) rfl (fun a ha => by
    obtain ⟨b, hb, e⟩ := List.mem_map.1 ha
    subst e
    show 0 ≤ (b.1 : Int)
    omega)
  rw [← this, mk_perf, mk_get (by rw [lup_length]; omega) (by rw [lup_length]; omega)]
/-- A write. -/
theorem hd_wr {F S : List UInt8} {ws : List (Nat × UInt8)} {left : Int} (hF : F.length = 4) (hS : S.length = 4) (hw : ws.length < 4096) (h4 : ∀ a ∈ ws, a.1 < 4) (h1 : -1 ≤ left) (h2 : left ≤ 65536) (k : Nat) (hk : k < 4) (c : UInt8) :
    wre (hd F S ws left) k (dbl c c) = 0 ∧ wr (hd F S ws left) k (dbl c c) = hd F S (ws ++ [(k, c)]) left := by
  have hlen : (mk F S).length = 4 := by rw [mk_length (by omega), hF]
  have h0 := wre_zero (d := hd F S ws left) (k := k) (b := dbl c c) (hd_rng hF hS (by omega) h4 h1 h2) (by unfold has hd; simp only [hlen]; simp; omega) (by rw [dbl_length]; omega) (by show (wl ws).length < _; rw [wl_length]; omega)
  refine ⟨h0, ?_⟩
  rw [(wr_ok h0).2.2.2.2, sec_whole (dbl_length _ _)]
  unfold hd wl
  simp
/-- A sync that does not stop. -/
theorem hd_sy {F : List UInt8} {ws : List (Nat × UInt8)} {room : Nat} (hF : F.length = 4) (hw : ws.length ≤ 4096) (h4 : ∀ a ∈ ws, a.1 < 4) (h2 : room ≤ 65536) (h : ws.length ≤ room) :
    sye (hd F F ws room) = 0 ∧ sy (hd F F ws room) = hd (lup F ws) (lup F ws) [] ((room - ws.length : Nat) : Int) := by
  have hr := hd_rng (left := (room : Int)) hF hF hw h4 (by omega) (by omega)
  have hst : stops (hd F F ws room) = false := by
    unfold stops hd
    simp only [wl_length]
    apply decide_eq_false
    omega
  have h0 : sye (hd F F ws room) = 0 := by unfold sye; rw [hr, hst]; rfl
  refine ⟨h0, ?_⟩
  rw [(sy_ok h0).2.2]
  unfold hd
  simp only [mk_perf, wl_length]
  congr 1
  rw [if_neg (by omega)]
  omega
/-- A sync that stops. -/
theorem hd_stop {F : List UInt8} {ws : List (Nat × UInt8)} {room : Nat} (hF : F.length = 4) (hw : ws.length ≤ 4096) (h4 : ∀ a ∈ ws, a.1 < 4) (h2 : room ≤ 65536) (h : room < ws.length) :
    sye (hd F F ws room) = 70 ∧ (sy (hd F F ws room)).stop = true ∧ rs (sy (hd F F ws room)) = hd (lup F (ws.take (room + 1))) (lup F (ws.take room)) [] (-1) := by
  have hr := hd_rng (left := (room : Int)) hF hF hw h4 (by omega) (by omega)
  have hst : stops (hd F F ws room) = true := by
    unfold stops hd
    simp only [wl_length]
    apply decide_eq_true
    omega
  refine ⟨by unfold sye; rw [hst]; simp, ?_, ?_⟩
  · unfold sy
    rw [if_neg (by rw [hr]; decide), if_pos hst]
  · unfold sy
    rw [if_neg (by rw [hr]; decide), if_pos hst]
    unfold rs hd
    simp only
    congr 1
    obtain ⟨a, ha⟩ : ∃ a, ws[room]? = some a := ⟨ws[room], List.getElem?_eq_getElem h⟩
    have e1 : (wl ws).getD ((room : Int)).toNat (0, []) = ((a.1 : Int), dbl a.2 a.2) := by
      rw [show ((room : Int)).toNat = room by omega, List.getD_eq_getElem?_getD]
      unfold wl
      rw [List.getElem?_map, ha]
      rfl
    have e2 : (wl ws).take ((room : Int)).toNat = wl (ws.take room) := by
      rw [show ((room : Int)).toNat = room by omega]
      unfold wl
      rw [List.map_take]
    have ha4 := h4 a (List.mem_of_getElem? ha)
    rw [e1, e2, mk_perf]
    show (mk (lup F (ws.take room)) (lup F (ws.take room))).set ((a.1 : Int)).toNat (torn ((mk (lup F (ws.take room)) (lup F (ws.take room))).getD ((a.1 : Int)).toNat []) (dbl a.2 a.2)) = _
    rw [show ((a.1 : Int)).toNat = a.1 by omega, mk_get (by rw [lup_length]; omega) (by rw [lup_length]; omega), torn_dbl, mk_set, take_snoc ha, lup_snoc]
    have e3 : (lup F (ws.take room)).set a.1 ((lup F (ws.take room)).getD a.1 0) = lup F (ws.take room) := by
      rw [List.getD_eq_getElem?_getD, List.getElem?_eq_getElem (by rw [lup_length]; omega)]
      exact List.set_getElem_self _
    rw [e3]
/-- A new disk of four sectors, with so many writes left. -/
theorem hd_new (left : Nat) (h : left ≤ 255) : nwe 4 = 0 ∧ ste (nw 4) left = 0 ∧ st (nw 4) left = hd [0, 0, 0, 0] [0, 0, 0, 0] [] left := by
  have h1 : nwe 4 = 0 := by decide
  have h2 : nw 4 = hd [0, 0, 0, 0] [0, 0, 0, 0] [] (-1) := by
    unfold nw
    rw [if_pos h1]
    rfl
  have hr : rng (nw 4) = true := by
    rw [h2]
    exact hd_rng rfl rfl (by decide) (fun a ha => by cases ha) (by omega) (by omega)
  have h3 : ste (nw 4) left = 0 := by
    unfold ste
    rw [if_neg (by rw [hr]; decide), if_pos (by omega)]
  refine ⟨h1, h3, ?_⟩
  unfold st
  rw [if_pos h3, h2]
  rfl
end Go.Proofs.Ytiphajgmjmjanaa
