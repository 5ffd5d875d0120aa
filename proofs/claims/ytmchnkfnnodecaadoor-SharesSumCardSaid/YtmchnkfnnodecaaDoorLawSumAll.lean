/- SharesSum, with the law of drawn regions, the plain facts and the rows that it wants. -/
import Derived.Test.YtmchnkfnnodecaaDoorMem
import Derived.OrdersHeld
import Derived.Deep.RegionHeld
import Derived.Test.YtmchnkfnnodecaaDoorAnyP
import Derived.Test.YtmchnkfnnodecaaDoorSum
import Derived.Test.YtmchnkfnnodecaaDoorSane
import Derived.Deep.RegionHeld3
import Derived.Deep.Cut
import Derived.Deep.CutRange
import Derived.LoopTactic
namespace Go.Proofs.YtmchnkfnnodecaaDoor
set_option linter.unusedVariables false
section
variable {P : Program} {md : Region.Mode} {ops : Array Oper} {Q : Exit → Act → World → Prop} {st : Nat} {D : World → Prop}

/-- D holds as long as operation st has not come up. -/
def Lt (st : Nat) (D : World → Prop) (listed : Array Bool) (w : World) : Prop := listed.getD st true = false → D w
def wpAnyL (P : Program) (md : Region.Mode) (ops : Array Oper) (Q : Exit → Act → World → Prop) (st : Nat) (D : World → Prop) : Nat → Array Bool → Act → World → Prop
  | 0, listed, a, w => Region.ready md ops listed = [] ∧ Q .normal a w
  | fuel + 1, listed, a, w =>
    (Region.ready md ops listed = [] → Q .normal a w) ∧
    ∀ i ∈ Region.ready md ops listed, wpOp P ops Q i (fun a' w' => Lt st D (listed.setIfInBounds i true) w' ∧ wpAnyL P md ops Q st D fuel (listed.setIfInBounds i true) a' w') a w
theorem wpAny_of_later : ∀ (fuel : Nat) (listed : Array Bool) (a : Act) (w : World), wpAnyL P md ops Q st D fuel listed a w → wpAny P md ops Q fuel listed a w
  | 0, _, _, _, h => h
  | fuel + 1, _, _, _, h => ⟨h.1, fun i hi => wpOp_mono (fun a' w' h' => wpAny_of_later fuel _ a' w' h'.2) (h.2 i hi)⟩
theorem wpAnyL_first {i : Nat} {oi : Oper} {v : Value} (hi : ops[i]? = some oi) (hsel : ∀ (j : Nat) (o : Oper) cs b, ops[j]? = some o → o.op ≠ .select cs b)
    (hQ : ∀ c a w, Q (.panic c) (a.put oi.dst v) w → Q (.panic c) a w) (hne : i ≠ st) {os : Oper} (hos : ops[st]? = some os) (hst : ∃ e ∈ os.after, Region.binds md e = true ∧ e.on = i) :
    ∀ (fuel : Nat) (listed : Array Bool) (a : Act) (w : World),
      (∀ j oj, ops[j]? = some oj → j ≠ i → listed.getD j true = false → (∀ e ∈ oj.after, Region.binds md e = true → e.on ≠ i) → oi.apart ops oj = true) →
      i ∈ Region.ready md ops listed → listed.getD st true = false → YieldsIf P ops D oi v a → D w →
      wpAnyL P md ops Q st D fuel (listed.setIfInBounds i true) (a.put oi.dst v) w → wpAnyL P md ops Q st D (fuel + 1) listed a w := by
  intro fuel
  induction fuel with
  | zero =>
    intro listed a w _ hr hs hy hS H
    refine ⟨fun h => (by rw [h] at hr; cases hr), fun j hj => ?_⟩
    by_cases hji : j = i
    · subst hji; exact hy.wpOp hi hS ⟨fun _ => hS, H⟩
    · have := ready_mono hj hji
      rw [H.1] at this
      cases this
  | succ fuel ih =>
    intro listed a w hfree hr hs hy hS H
    refine ⟨fun h => (by rw [h] at hr; cases hr), fun j hj => ?_⟩
    by_cases hji : j = i
    · subst hji; exact hy.wpOp hi hS ⟨fun _ => hS, H⟩
    · have h1 := H.2 j (ready_mono hj hji)
      obtain ⟨hjun, oj, hoj, hall⟩ := mem_ready.1 hj
      have hnot : ∀ e ∈ oj.after, Region.binds md e = true → e.on ≠ i := fun e he hb heq => by
        have h1 := hall e he hb
        have h0 := (mem_ready.1 hr).1
        rw [heq] at h1
        rcases Nat.lt_or_ge i listed.size with h' | h'
        · simp [h'] at h0 h1; rw [h0] at h1; cases h1
        · simp [Array.getElem?_eq_none h'] at h1
      have hjst : j ≠ st := fun e => by
        subst e
        rw [hoj] at hos
        cases hos
        obtain ⟨e, he, hb, ho⟩ := hst
        exact hnot e he hb ho
      have h2 := wpOp_putIf hoj (hfree j oj hoj hji hjun hnot) (fun cs b => hsel i oi cs b hi) (fun cs b => hsel j oj cs b hoj) hQ hy h1
      have hfree' : ∀ k ok, ops[k]? = some ok → k ≠ i → (listed.setIfInBounds j true).getD k true = false →
          (∀ e ∈ ok.after, Region.binds md e = true → e.on ≠ i) → oi.apart ops ok = true := fun k ok hk hki hun hno => by
        refine hfree k ok hk hki ?_ hno
        by_cases hjk : j = k
        · subst hjk; exact hjun
        · rw [getD_set_ne true hjk] at hun; exact hun
      have hs2 : (listed.setIfInBounds j true).getD st true = false := by rw [getD_set_ne true hjst]; exact hs
      have hD : ∀ w', Lt st D ((listed.setIfInBounds i true).setIfInBounds j true) w' → D w' := fun w' h => h (by rw [getD_set_ne true hjst, getD_set_ne true hne]; exact hs)
      refine wpOp_mono (fun a' w' h3 => ⟨fun _ => hD w' h3.2.1, ih (listed.setIfInBounds j true) a' w' hfree' (ready_mono hr (Ne.symm hji)) hs2 h3.1 (hD w' h3.2.1) ?_⟩) h2
      rw [Array.setIfInBounds_comm _ _ hji]
      exact h3.2.2
/-- An operation is taken first; its slot is told. -/
theorem takeL {i : Nat} {oi os : Oper} {d : Option Tmp} {v : Value} {fuel : Nat} {listed : Array Bool} {a : Act} {w : World} (hi : ops[i]? = some oi) (hd : oi.dst = d) (hs : Region.noSelect ops = true) (hf : Region.free md ops listed i = true)
    (hr : (Region.ready md ops listed).contains i = true) (hQ : ∀ c a w, Q (.panic c) (a.put oi.dst v) w → Q (.panic c) a w) (hos : ops[st]? = some os) (hst : (i != st && !(listed.getD st true) && os.after.any (fun e => Region.binds md e && e.on == i)) = true)
    (hy : YieldsIf P ops D oi v a) (hD : D w) (h : wpAnyL P md ops Q st D fuel (listed.setIfInBounds i true) (a.put d v) w) : wpAnyL P md ops Q st D (fuel + 1) listed a w := by
  simp only [Bool.and_eq_true, bne_iff_ne, ne_eq, Bool.not_eq_true'] at hst
  refine wpAnyL_first hi (Region.noSelect_spec hs) hQ hst.1.1 hos ?_ fuel listed a w (Region.free_spec hi hf) (by simpa using hr) hst.1.2 hy hD (hd ▸ h)
  obtain ⟨k, hk, he⟩ := Array.any_eq_true.1 hst.2
  simp only [Bool.and_eq_true, beq_iff_eq] at he
  exact ⟨_, Array.getElem_mem hk, he⟩
/-- The only operation that may come up. -/
theorem oneL {i : Nat} {o : Oper} {fuel : Nat} {listed : Array Bool} {a : Act} {w : World} (hr : Region.ready md ops listed = [i]) (ho : ops[i]? = some o)
    (h : ∀ K' : Act → World → Prop, Shut (∀ a w, Lt st D (listed.setIfInBounds i true) w → wpAnyL P md ops Q st D fuel (listed.setIfInBounds i true) a w → K' a w) → if Region.wanted o (yielded ops a.tmps) = true then Oper.wp P o a w K' Q else K' (a.put o.dst undef) w) :
    wpAnyL P md ops Q st D (fuel + 1) listed a w := by
  refine ⟨fun h0 => absurd (hr ▸ h0) (by simp), fun j hj => ?_⟩
  rw [hr] at hj
  rw [List.mem_singleton.1 hj]
  exact wpOp_step ho (fun K' hK => h K' (fun a w hS hW => hK a w ⟨hS, hW⟩))
theorem doneL {listed : Array Bool} {a : Act} {w : World} (hr : Region.ready md ops listed = []) (h : Q .normal a w) : ∀ fuel, wpAnyL P md ops Q st D fuel listed a w
  | 0 => ⟨hr, h⟩
  | _ + 1 => ⟨fun _ => h, by rw [hr]; simp⟩
theorem wp_region_later {id : Nat} {a : Act} {w : World} (st : Nat) (D : World → Prop) (hm : P.follows .mixedOrders = true)
    (h : wpAnyL P .any ops Q st D ops.size (Array.replicate ops.size false) a w.drew) : (Code.region id ops true).wp P Q a w := wp_region_any hm (wpAny_of_later _ _ _ _ h)
end
end Go.Proofs.YtmchnkfnnodecaaDoor

namespace Go.Proofs.YtmchnkfnnodecaaDoor
set_option linter.unusedVariables false

theorem hv_xor (x : UInt8) : ∀ (l v : List UInt8), l.length = v.length → hv (List.zipWith (· ^^^ ·) l v) x = hv l x ^^^ hv v x
  | [], [], _ => by simp [hv]
  | a :: l, b :: v, h => by
    show (a ^^^ b) ^^^ gm x (hv (List.zipWith (· ^^^ ·) l v) x) = (a ^^^ gm x (hv l x)) ^^^ (b ^^^ gm x (hv v x))
    rw [hv_xor x l v (by simpa using h), gm_right]
    exact x4 _ _ _ _
theorem sumb_zip {a b : List UInt8} (h : a.length = b.length) : sumb a b = List.zipWith (· ^^^ ·) a b := by
  apply List.ext_getElem
  · rw [sumb_length, List.length_zipWith]; omega
  · intro i h1 h2
    rw [sumb_length] at h1
    simp only [sumb, List.getElem_map, List.getElem_range, List.getElem_zipWith]
    rw [List.getD_eq_getElem?_getD, List.getD_eq_getElem?_getD, List.getElem?_eq_getElem h1, List.getElem?_eq_getElem (by omega : i < b.length)]
    rfl
theorem sumb_getD {a b : List UInt8} (h : a.length = b.length) (i : Nat) : (sumb a b).getD i 0 = a.getD i 0 ^^^ b.getD i 0 := by
  rw [sumb_zip h]
  simp only [List.getD_eq_getElem?_getD]
  by_cases hi : i < a.length
  · rw [List.getElem?_zipWith, List.getElem?_eq_getElem hi, List.getElem?_eq_getElem (by omega : i < b.length)]
    rfl
  · rw [List.getElem?_eq_none (by rw [List.length_zipWith]; omega), List.getElem?_eq_none (by omega), List.getElem?_eq_none (by omega)]
    rfl
theorem pcf_sum {a b p q : List UInt8} (each i : Nat) (h : a.length = b.length) (hp : p.length = q.length) : pcf (sumb a b) (sumb p q) each i = List.zipWith (· ^^^ ·) (pcf a p each i) (pcf b q each i) := by
  unfold pcf
  rw [sumb_getD h, sumb_zip hp, List.drop_zipWith, List.take_zipWith]
  rfl
theorem pols_getD {s coins : List UInt8} {each k : Nat} (h : k < s.length) : (pols s coins each).getD k [] = pcf s coins each k := by
  unfold pols
  rw [List.getD_eq_getElem?_getD, List.getElem?_map, List.getElem?_range h]
  rfl
theorem psh_data {s coins : List UInt8} {each i k : Nat} {ep th mn : Int} (h : k < s.length) : (psh ep th mn (pols s coins each) i).data.getD k 0 = hv (pcf s coins each k) (UInt8.ofNat (i + 1)) := by
  show (((List.range (pols s coins each).length).map fun k => hv ((pols s coins each).getD k []) (UInt8.ofNat (i + 1))).getD k 0) = _
  rw [pols_length, List.getD_eq_getElem?_getD, List.getElem?_map, List.getElem?_range h]
  show hv ((pols s coins each).getD k []) _ = _
  rw [pols_getD h]
theorem psh_len {s coins : List UInt8} {each i : Nat} {ep th mn : Int} : (psh ep th mn (pols s coins each) i).data.length = s.length := by simp [psh, pols]
/-- A share of the sum. -/
theorem psh_sum {a b p q : List UInt8} {each i : Nat} {ep ep2 th mn : Int} (h : a.length = b.length) (hp : p.length = a.length * each) (hq : q.length = b.length * each) :
    psh ep th mn (pols (sumb a b) (sumb p q) each) i = rsh (psh ep th mn (pols a p each) i) (psh ep2 th mn (pols b q each) i) := by
  have hd : (psh ep th mn (pols (sumb a b) (sumb p q) each) i).data = sumb (psh ep th mn (pols a p each) i).data (psh ep2 th mn (pols b q each) i).data := by
    apply List.ext_getElem
    · rw [psh_len, sumb_length, sumb_length, psh_len]
    · intro k h1 h2
      rw [psh_len, sumb_length] at h1
      have e1 : (psh ep th mn (pols (sumb a b) (sumb p q) each) i).data.getD k 0 = hv (pcf (sumb a b) (sumb p q) each k) (UInt8.ofNat (i + 1)) := psh_data (by rw [sumb_length]; exact h1)
      have e2 : (sumb (psh ep th mn (pols a p each) i).data (psh ep2 th mn (pols b q each) i).data).getD k 0 = hv (pcf a p each k) (UInt8.ofNat (i + 1)) ^^^ hv (pcf b q each k) (UInt8.ofNat (i + 1)) := by
        rw [sumb_getD (by rw [psh_len, psh_len]; exact h), psh_data h1, psh_data (by omega)]
      rw [pcf_sum each k h (by rw [hp, hq, h]), hv_xor _ _ _ (by rw [pcf_length hp h1, pcf_length hq (by omega)]), ← e2] at e1
      rw [List.getD_eq_getElem?_getD, List.getD_eq_getElem?_getD, List.getElem?_eq_getElem (by rw [psh_len, sumb_length]; exact h1), List.getElem?_eq_getElem h2] at e1
      exact e1
  unfold rsh
  rw [← hd]
  rfl
theorem spe_of {s coins : List UInt8} {ep th mn : Int} (h1 : s.length ≤ 64) (h2 : 1 ≤ th ∧ th ≤ mn ∧ mn ≤ 8) (h3 : 0 ≤ ep ∧ ep ≤ 1048576) (h4 : coins.length = s.length * (th.toNat - 1)) : spe s ep th mn coins = 0 := by
  unfold spe
  rw [if_neg (by omega), if_neg (fun h => h h2), if_neg (fun h => h h3), if_neg (fun h => h h4)]
theorem spl_length {s coins : List UInt8} {ep th mn : Int} (h : spe s ep th mn coins = 0) : (spl s ep th mn coins).length = mn.toNat := by
  rw [spl_eq h]; simp
theorem spl_get {s coins : List UInt8} {ep th mn : Int} (h : spe s ep th mn coins = 0) {i : Nat} (hi : i < mn.toNat) : (spl s ep th mn coins)[i]? = some (psh ep th mn (pols s coins (th.toNat - 1)) i) := by
  rw [spl_eq h, List.getElem?_map, List.getElem?_range hi]
  rfl
/-- Sums of shares are the shares of the sum. -/
theorem spl_sum {a b p q : List UInt8} {ep ep2 th mn : Int} (ha : spe a ep th mn p = 0) (hb : spe b ep2 th mn q = 0) (h : a.length = b.length) :
    spe (sumb a b) ep th mn (sumb p q) = 0 ∧ ∀ (i : Nat) (u v : Shr), (spl a ep th mn p)[i]? = some u → (spl b ep2 th mn q)[i]? = some v → (spl (sumb a b) ep th mn (sumb p q))[i]? = some (rsh u v) := by
  obtain ⟨h1, h2, h3, h4⟩ := spe_zero ha
  obtain ⟨_, _, _, h5⟩ := spe_zero hb
  have h0 : spe (sumb a b) ep th mn (sumb p q) = 0 := spe_of (by rw [sumb_length]; exact h1) h2 h3 (by rw [sumb_length, sumb_length]; exact h4)
  refine ⟨h0, fun i u v hu hv' => ?_⟩
  have hi : i < mn.toNat := by
    have := (List.getElem?_eq_some_iff.1 hu).1
    rw [spl_length ha] at this
    exact this
  rw [spl_get ha hi] at hu
  rw [spl_get hb hi] at hv'
  cases hu
  cases hv'
  rw [spl_get h0 hi, psh_sum h h4 h5]
end Go.Proofs.YtmchnkfnnodecaaDoor

namespace Go.Proofs.YtmchnkfnnodecaaDoor
open Go.RowKit
set_option linter.unusedVariables false
set_option linter.unusedSimpArgs false

/-- Two rows of two types lie in two blocks. -/
theorem own_types {w : World} {B1 B2 s1 s2 n1 n2 : Nat} {e1 e2 : TypeId} {v1 v2 : Value} {xs1 xs2 : List Value} (h1 : w.ownsRow B1 e1 s1 v1 n1 xs1) (h2 : w.ownsRow B2 e2 s2 v2 n2 xs2) (hne : e1 ≠ e2) : v1.ownBlock = none ∨ v1.ownBlock ≠ v2.ownBlock := by
  rcases h1.2 with ⟨hv, _⟩ | ⟨g, cap, cur, hv, _, hg, _⟩
  · subst hv
    exact .inl rfl
  · subst hv
    refine .inr (fun e => ?_)
    rcases h2.2 with ⟨hv2, _⟩ | ⟨g2, cap2, cur2, hv2, _, hg2, _⟩
    · subst hv2
      cases e
    · subst hv2
      injection e with e
      simp only at e
      subst e
      rw [hg] at hg2
      injection hg2 with hg2
      injection hg2 with _ hg2
      exact hne hg2
theorem box_own {w : World} {b B s n : Nat} {cs : Array Value} {t e : TypeId} {v : Value} {xs : List Value} (hb : Box w b cs t) (h : w.ownsRow B e s v n xs) (hne : t ≠ e) : v.ownBlock ≠ some b := by
  intro e1
  rcases h.2 with ⟨hv, _⟩ | ⟨g, cap, cur, hv, _, hg, _⟩
  · subst hv
    cases e1
  · subst hv
    injection e1 with e1
    simp only at e1
    subst e1
    unfold Box at hb
    rw [hb] at hg
    injection hg with hg
    injection hg with _ hg
    exact hne hg
theorem Sl.of_own {w : World} {B d : Nat} {D : Option Addr} {l : List UInt8} (h : w.ownsRow B 5 1 (.slice D l.length d) l.length (l.map bv)) : Sl w D l d := by
  have h1 := Bs.of_own h
  refine ⟨h1.1, h1.2.1, h1.2.2, fun hA => ?_⟩
  subst hA
  rcases h.2 with ⟨hv, hn⟩ | ⟨g, cap, cur, hv, _⟩
  · injection hv with _ _ hc
    exact ⟨List.length_eq_zero_iff.1 hn, hc⟩
  · injection hv with hv
    cases hv
def OB (w0 w : World) (A : Option Addr) (c : Nat) (l : List Shr) : Prop := ∃ bs : List (List Value), bs.length = l.length ∧ (∀ b ∈ bs, b.length = 5) ∧ w.ownsRow w0.heap.size 41 5 (.slice A l.length c) l.length bs.flatten ∧
  ∀ (i : Nat) (s : Shr), l[i]? = some s → ∃ D d, bs[i]? = some (shc s D d) ∧ w.ownsRow w0.heap.size 5 1 (.slice D s.data.length d) s.data.length (s.data.map bv)
theorem OB.nil (w0 w : World) : OB w0 w none 0 [] := ⟨[], rfl, by simp, World.ownsRow_nil _ _ _ _, fun i s hi => by cases hi⟩
theorem OB.up {w0 w w' : World} {A : Option Addr} {c : Nat} {l : List Shr} (h : OB w0 w A c l) (hb : Below w.heap.size w w') : OB w0 w' A c l := by
  obtain ⟨bs, hl, h5, ho, hs⟩ := h
  refine ⟨bs, hl, h5, own_below ho hb, fun i s hi => ?_⟩
  obtain ⟨D, d, h1, h2⟩ := hs i s hi
  exact ⟨D, d, h1, own_below h2 hb⟩
theorem OB.ss {w0 w : World} {A : Option Addr} {c : Nat} {l : List Shr} (h : OB w0 w A c l) : SS w A l c := by
  obtain ⟨bs, hl, h5, ho, hs⟩ := h
  exact OwnS.ss (B := w0.heap.size) (w := w) ⟨bs, hl, h5, ho, fun i s hi => by
    obtain ⟨D, d, h1, h2⟩ := hs i s hi
    exact ⟨D, d, h1, Sl.of_own h2⟩⟩ (Below.refl _ _)
/-- append of one share whose bytes are the call's own. -/
theorem wpList_append_ob {w0 w : World} {ops : Array Oper} {rest : List Oper} {o : Oper} {a : Act} {Q : Exit → Act → World → Prop} (hgd : o.guard = none) (s x : Operand)
    (ho : o.op = .call { callee := .builtin .append, args := #[s, x], argTypes := #[22, 22] })
    (A : Option Addr) (l : List Shr) (n c : Nat) (hn : l.length = n) (hs : a.eval s = .slice A n c) (hO : OB w0 w A c l) (q : Nat) (u : Shr) (D : Option Addr) (d : Nat) (hx : a.eval x = .slice (some ⟨q, 0, none⟩) 1 1)
    (hq : Box w q #[.int .i64 u.ep, .int .i64 u.ix, .int .i64 u.th, .int .i64 u.mn, .slice D u.data.length d] 41) (hD : w.ownsRow w0.heap.size 5 1 (.slice D u.data.length d) u.data.length (u.data.map bv)) (hb : n ≤ 100000) (hb0 : Below w0.heap.size w0 w)
    (h : ∀ A' c' w', OB w0 w' A' c' (l ++ [u]) → Below w0.heap.size w0 w' → wpList Tryd.prog ops Q rest (a.put o.dst (.slice A' (n + 1) c')) w') : wpList Tryd.prog ops Q (o :: rest) a w := by
  subst hn
  obtain ⟨i0, hi0, hz0, hz1, hz2⟩ := info_parts sh_info
  obtain ⟨bs, hl, h5, hown, hss⟩ := hO
  have hnews : ∀ j v, (shc u D d)[j]? = some v → w.cell? ((⟨q, 0, none⟩ : Addr).add j) = some v := World.news_of_block hq
  refine wpList_append_own w hgd s x 22 ho w0.heap.size 41 i0 (.agg #[.int .i64 0, .int .i64 0, .int .i64 0, .int .i64 0, .slice none 0 0]) 5 56 Tryd.underlying22 hi0 hz0 hz1 hz2 rfl (by decide) _ l.length bs.flatten hs hown ⟨q, 0, none⟩ 1 1 (shc u D d) hx rfl hnews (shc_one u D d) (le_maxLen (by omega)) (by omega) hb0.size ?_
  intro v' w' ho' hg' _
  obtain ⟨A1, c1, rfl⟩ := own_form ho'
  have hkeep : ∀ {D2 : Option Addr} {n2 d2 : Nat} {xs : List Value}, w.ownsRow w0.heap.size 5 1 (.slice D2 n2 d2) n2 xs → w'.ownsRow w0.heap.size 5 1 (.slice D2 n2 d2) n2 xs := fun h2 => h2.kept hg' (own_types h2 hown (by decide))
  refine h A1 c1 w' ⟨bs ++ [shc u D d], by simp [hl], fun b hb => ?_, ?_, fun i t hi => ?_⟩ (hb0.grown hg' hb0.size (fun i hi => (hown.lt i hi).1))
  · rcases List.mem_append.1 hb with h | h
    · exact h5 b h
    · rw [List.mem_singleton.1 h]
      rfl
  · rw [List.length_append, List.flatten_append]
    simpa using ho'
  · by_cases e : i < l.length
    · rw [List.getElem?_append_left e] at hi
      obtain ⟨D2, d2, h1, h2⟩ := hss i t hi
      exact ⟨D2, d2, by rw [List.getElem?_append_left (by omega)]; exact h1, hkeep h2⟩
    · have hil := (List.getElem?_eq_some_iff.1 hi).1
      rw [List.length_append, List.length_singleton] at hil
      obtain rfl : i = l.length := by omega
      rw [List.getElem?_append_right (Nat.le_refl _)] at hi
      simp at hi
      subst hi
      exact ⟨D, d, by rw [List.getElem?_append_right (by omega), hl]; simp, hkeep hD⟩
end Go.Proofs.YtmchnkfnnodecaaDoor

namespace Go.Proofs.YtmchnkfnnodecaaDoor
open Go.RowKit
set_option linter.unusedVariables false
set_option linter.unusedSimpArgs false

theorem bthen' {a b c : World} (h : Below a.heap.size a b) (k : Below b.heap.size b c) : Below a.heap.size a c := h.trans (k.mono h.size)

set_option maxHeartbeats 8000000 in
set_option maxRecDepth 100000 in
theorem lawSum_any (A0 : Option Addr) (c0 : Nat) (a : List UInt8) (A1 : Option Addr) (c1 : Nat) (b : List UInt8) (th mn : Int) (A4 : Option Addr) (c4 : Nat) (p : List UInt8) (A5 : Option Addr) (c5 : Nat) (q : List UInt8) (w : World) (hK : KT w) (hS0 : Sl w A0 a c0) (hS1 : Sl w A1 b c1) (hS4 : Sl w A4 p c4) (hS5 : Sl w A5 q c5) :
    Calls Tryd.prog 9 #[.slice A0 a.length c0, .slice A1 b.length c1, .int .i64 th, .int .i64 mn, .slice A4 p.length c4, .slice A5 q.length c5] w fun e w' => e = .returned (.bool true) ∧ Below w.heap.size w w' := by
  have HS := Lib.hid (sane_any w hK)
  have b0 := Nat.le_trans hS0.2.1 hS0.2.2.1
  have b1 := Nat.le_trans hS1.2.1 hS1.2.2.1
  have b4 := Nat.le_trans hS4.2.1 hS4.2.2.1
  have b5 := Nat.le_trans hS5.2.1 hS5.2.2.1
  unfold maxLen at b0 b1 b4 b5
  by_cases g1 : 20 < a.length
  · have d1 : decide ((20 : Int) < (a.length : Int)) = true := decide_eq_true (by omega)
    have d2 : (20 : Int) < (a.length : Int) := by omega
    generalize a.length = n at *
    generalize b.length = nb at *
    generalize p.length = mp at *
    generalize q.length = mq at *
    go_enter Tryd.func9, Tryd.ntmps9
    go_wp2_with fail
    refine HS.out.mono ?_
    rintro e w1 ⟨rfl, hb1⟩
    go_wp2_with fail
    go_ret
    exact ⟨rfl, hb1⟩

  · have d1 : decide ((20 : Int) < (a.length : Int)) = false := decide_eq_false (by omega)
    have d2 : ¬ (20 : Int) < (a.length : Int) := by omega
    by_cases g2 : a.length = b.length
    · have HG := Lib.hid g2
      have HP1 := Lib.hid (fun w1 (hb : Below w.heap.size w w1) (h2 : p.length ≤ 1000000) => split_any A0 A4 c0 c4 a p 0 th mn w1 (hK.below hb) (hS0.up hb) (hS4.up hb) (by omega) h2)
      have HP2 := Lib.hid (fun w1 (hb : Below w.heap.size w w1) (h2 : q.length ≤ 1000000) => split_any A1 A5 c1 c5 b q 0 th mn w1 (hK.below hb) (hS1.up hb) (hS5.up hb) (by omega) h2)
      unfold SplitPost at HP1 HP2
      have HA := Lib.hid (And.intro hK (And.intro hS0 hS1))
      rw [← g2] at HP2 b1 ⊢
      clear hK hS0 hS1 hS4 hS5 g2
      by_cases g3 : 200 < p.length
      · have d3 : decide ((200 : Int) < (p.length : Int)) = true := decide_eq_true (by omega)
        have d4 : (200 : Int) < (p.length : Int) := by omega
        clear HP1 HP2
        generalize p.length = mp at *
        generalize q.length = mq at *
        generalize a.length = n at *
        go_enter Tryd.func9, Tryd.ntmps9
        go_wp2_with fail
        refine HS.out.mono ?_
        rintro e w1 ⟨rfl, hb1⟩
        go_wp2_with fail
        go_ret
        exact ⟨rfl, hb1⟩

      · have d3 : decide ((200 : Int) < (p.length : Int)) = false := decide_eq_false (by omega)
        have d4 : ¬ (200 : Int) < (p.length : Int) := by omega
        by_cases g4 : 200 < q.length
        · have d5 : decide ((200 : Int) < (q.length : Int)) = true := decide_eq_true (by omega)
          have d6 : (200 : Int) < (q.length : Int) := by omega
          clear HP1 HP2
          generalize p.length = mp at *
          generalize q.length = mq at *
          generalize a.length = n at *
          go_enter Tryd.func9, Tryd.ntmps9
          go_wp2_with fail
          refine HS.out.mono ?_
          rintro e w1 ⟨rfl, hb1⟩
          go_wp2_with fail
          go_ret
          exact ⟨rfl, hb1⟩

        · have d5 : decide ((200 : Int) < (q.length : Int)) = false := decide_eq_false (by omega)
          have d6 : ¬ (200 : Int) < (q.length : Int) := by omega
          have HP1 := Lib.hid (fun w1 hb => HP1.out w1 hb (by omega))
          have HP2 := Lib.hid (fun w1 hb => HP2.out w1 hb (by omega))
          obtain ⟨E, hE⟩ : ∃ E, spe a 0 th mn p = E := ⟨_, rfl⟩
          obtain ⟨Lx, hLx⟩ : ∃ Lx, spl a 0 th mn p = Lx := ⟨_, rfl⟩
          obtain ⟨E2, hE2⟩ : ∃ E2, spe b 0 th mn q = E2 := ⟨_, rfl⟩
          obtain ⟨Mx, hMx⟩ : ∃ Mx, spl b 0 th mn q = Mx := ⟨_, rfl⟩
          rw [hE, hLx] at HP1
          rw [hE2, hMx] at HP2
          by_cases g5 : E = 0
          · subst g5
            by_cases g6 : E2 = 0
            · subst g6
              obtain ⟨Z, hZ⟩ : ∃ Z, spl (sumb a b) 0 th mn (sumb p q) = Z := ⟨_, rfl⟩
              obtain ⟨hz0, hzz⟩ := spl_sum hE hE2 HG.out
              have hl1 := spl_length hE
              have hl2 := spl_length hE2
              have hl3 := spl_length hz0
              have hd1 : ∀ u ∈ Lx, u.data.length = a.length := fun u hu => by
                rw [← hLx] at hu
                obtain ⟨i, _, rfl⟩ := spl_mem hE hu
                exact psh_len
              have hd2 : ∀ u ∈ Mx, u.data.length = a.length := fun u hu => by
                rw [← hMx] at hu
                obtain ⟨i, _, rfl⟩ := spl_mem hE2 hu
                rw [psh_len, HG.out]
              obtain ⟨f1, f2, f3, f4⟩ := spe_zero hE
              obtain ⟨ln, hln⟩ : ∃ ln, mn.toNat = ln := ⟨_, rfl⟩
              have hl8 : ln ≤ 8 := by omega
              rw [hln, hLx] at hl1
              rw [hln, hMx] at hl2
              rw [hln, hZ] at hl3
              rw [hLx, hMx, hZ] at hzz
              have HJ := Lib.hid (fun A c w1 hK hs => join_sub hz0 (Z := Z) (by rw [hZ]; exact List.Sublist.refl _) (by rw [hl3]; omega) (by omega) A c a.length ln (by rw [sumb_length]) hl3 w1 hK hs)
              rw [hl1] at HP1
              rw [hl2] at HP2
              have HL := Lib.hid (And.intro hl1 (And.intro hl2 (And.intro hl3 (And.intro hzz (And.intro hd1 hd2)))))
              clear hE hLx hE2 hMx hZ hzz hl1 hl2 hl3 hd1 hd2 hln f1 f2 f3 f4 hz0 g3 g4 b4 b5 b1
              obtain ⟨n, hn⟩ : ∃ n, a.length = n := ⟨_, rfl⟩
              rw [hn] at HP1 HP2 HJ HL HG d1 d2 b0 g1 ⊢
              have HNN := Lib.hid hn
              clear hn
              generalize p.length = mp at *
              generalize q.length = mq at *
              go_enter Tryd.func9, Tryd.ntmps9
              go_wp2_with fail
              refine HS.out.mono ?_
              rintro e w1 ⟨rfl, hb1⟩
              go_wp2_with fail
              refine (HP1.out w1 hb1).mono ?_
              rintro e w2 ⟨A2, c2, rfl, hs2, hb2⟩
              have H2 := Lib.hid (And.intro hs2 (bthen' hb1 hb2))
              clear hs2 hb1 hb2
              go_wp2_with fail
              refine (HP2.out w2 H2.out.2).mono ?_
              rintro e w3 ⟨A3, c3, rfl, hs3, hb3⟩
              have H3 := Lib.hid (And.intro (H2.out.1.up hb3) (And.intro hs3 (bthen' H2.out.2 hb3)))
              clear hs3 hb3 H2
              go_upto_region 10 with fail
              go_wp2_with fail
              go_loopw [17, 83] (fun v i wr => ∃ (k : Nat) (A' : Option Addr) (c' : Nat), k ≤ ln ∧ i = .int .i64 k ∧ v = .slice A' k c' ∧ OB w3 wr A' c' (Z.take k) ∧ Below w3.heap.size w3 wr) (fun _ i _ => ln - (intOf i).toNat)
              case atStart => exact ⟨0, none, 0, Nat.zero_le _, rfl, rfl, OB.nil _ _, Below.refl _ _⟩
              case round =>
                obtain ⟨k, A', c', hk, rfl, rfl, hO, hbw⟩ := hrel
                have KR := Lib.hid (And.intro hO hbw)
                clear hO hbw
                by_cases hlt : k < ln
                · obtain ⟨u, hu⟩ : ∃ u, Lx[k]? = some u := ⟨_, List.getElem?_eq_getElem (by rw [HL.out.1]; exact hlt)⟩
                  obtain ⟨v, hv⟩ : ∃ v, Mx[k]? = some v := ⟨_, List.getElem?_eq_getElem (by rw [HL.out.2.1]; exact hlt)⟩
                  have hz := HL.out.2.2.2.1 k u v hu hv
                  have hun := HL.out.2.2.2.2.1 u (List.mem_of_getElem? hu)
                  have hvn := HL.out.2.2.2.2.2 v (List.mem_of_getElem? hv)
                  obtain ⟨bl, ofl, rfl, hbl, hatl⟩ := H3.out.1.1 (by rw [HL.out.1]; omega)
                  obtain ⟨bm, ofm, rfl, hbm, hatm⟩ := H3.out.2.1.1 (by rw [HL.out.2.1]; omega)
                  obtain ⟨Du, du, k0, k1, k2, k3, k4, hDu⟩ := (hatl k u hu).up hbl KR.out.2
                  obtain ⟨Dv, dv, m0, m1, m2, m3, m4, hDv⟩ := (hatm k v hv).up hbm KR.out.2
                  rw [hun] at k4
                  rw [hvn] at m4
                  have i1 : (0 : Int) ≤ (k : Int) := by omega
                  have i2 : (k : Int) < (ln : Int) := by omega
                  have hbl2 := Nat.lt_of_lt_of_le hbl KR.out.2.size
                  have hbm2 := Nat.lt_of_lt_of_le hbm KR.out.2.size
                  have HU := Lib.hid (And.intro hu (And.intro hv (And.intro hz (And.intro hun (And.intro hvn (And.intro hDu hDv))))))
                  clear hu hv hz hun hvn hDu hDv hatl hatm
                  go_upto_region 15 with fail
                  have hba := (Below.refl wr.heap.size wr).alloc (Nat.le_refl _) (.cells #[.int .i64 u.ep, .int .i64 u.ix, .int .i64 u.th, .int .i64 u.mn, .slice none 0 0] 41)
                  have x19 := Box.new wr #[.int .i64 u.ep, .int .i64 u.ix, .int .i64 u.th, .int .i64 u.mn, .slice none 0 0] 41
                  have k4b := (hba.cell (p := ⟨bl, ofl + k * 5 + 4, none⟩) hbl2).trans k4
                  have m4b := (hba.cell (p := ⟨bm, ofm + k * 5 + 4, none⟩) hbm2).trans m4
                  have KV := Lib.hid (And.intro x19 (And.intro hba (And.intro KR.out.1 KR.out.2)))
                  have hzz := KR.out.2.size
                  clear x19 hba k0 k1 k2 k3 k4 m0 m1 m2 m3 m4 KR
                  generalize World.alloc wr _ = V at *
                  generalize wr = W1 at *
                  obtain ⟨b19, hb19⟩ : ∃ b19, W1.heap.size = b19 := ⟨_, rfl⟩
                  rw [hb19] at KV hbl2 hbm2 hzz ⊢
                  have HB19 := Lib.hid hb19
                  go_upto_region 17 with fail
                  have HC := Lib.hid (And.intro k4b m4b)
                  clear k4b m4b hb19
                  go_wp2_with fail
                  go_loopw [113] (fun i wr => ∃ (kk : Nat) (A9 : Option Addr) (c9 : Nat), kk ≤ n ∧ i = .int .i64 kk ∧ Box wr b19 #[.int .i64 u.ep, .int .i64 u.ix, .int .i64 u.th, .int .i64 u.mn, .slice A9 kk c9] 41 ∧ wr.ownsRow b19 5 1 (.slice A9 kk c9) kk (((sumb u.data v.data).take kk).map bv) ∧ Below b19 W1 wr) (fun i _ => n - (intOf i).toNat)
                  case atStart => exact ⟨0, none, 0, Nat.zero_le _, rfl, KV.out.1, World.ownsRow_nil _ _ _ _, KV.out.2.1⟩
                  case round =>
                    obtain ⟨kk, A9, c9, hkk, rfl, y19, ho9, hbv⟩ := hrel
                    have KS := Lib.hid (And.intro y19 (And.intro ho9 hbv))
                    clear y19 ho9 hbv
                    by_cases hlt2 : kk < n
                    · obtain ⟨bD, oD, rfl, hbD, hcD⟩ := HU.out.2.2.2.2.2.1.1 (by rw [HU.out.2.2.2.1]; omega)
                      obtain ⟨bE, oE, rfl, hbE, hcE⟩ := HU.out.2.2.2.2.2.2.1 (by rw [HU.out.2.2.2.2.1]; omega)
                      obtain ⟨x, hx⟩ : ∃ x, u.data[kk]? = some x := ⟨_, List.getElem?_eq_getElem (by rw [HU.out.2.2.2.1]; exact hlt2)⟩
                      obtain ⟨y, hy⟩ : ∃ y, v.data[kk]? = some y := ⟨_, List.getElem?_eq_getElem (by rw [HU.out.2.2.2.2.1]; exact hlt2)⟩
                      have p1 := hcD kk x hx
                      have p2 := hcE kk y hy
                      have hsz := HB19.out
                      rw [hsz] at hbD hbE
                      have hxor := xor_u8' x y
                      have hz9 : (sumb u.data v.data)[kk]? = some (x ^^^ y) := by
                        have h1 := sumb_getD (a := u.data) (b := v.data) (by rw [HU.out.2.2.2.1, HU.out.2.2.2.2.1]) kk
                        rw [List.getD_eq_getElem?_getD, List.getD_eq_getElem?_getD, List.getD_eq_getElem?_getD, hx, hy, List.getElem?_eq_getElem (by rw [sumb_length, HU.out.2.2.2.1]; exact hlt2)] at h1
                        rw [List.getElem?_eq_getElem (by rw [sumb_length, HU.out.2.2.2.1]; exact hlt2)]
                        exact congrArg some h1
                      have htk : (sumb u.data v.data).take (kk + 1) = (sumb u.data v.data).take kk ++ [x ^^^ y] := by rw [List.take_add_one, hz9]; rfl
                      have hlit : (([x ^^^ y].map bv).toArray : Array Value) = #[.int .u8 ((x ^^^ y).toNat : Int)] := rfl
                      obtain ⟨z, hz⟩ : ∃ z, x ^^^ y = z := ⟨_, rfl⟩
                      rw [hz] at hxor htk hlit
                      have hp1 : bv x = .int .u8 (x.toNat : Int) := rfl
                      have hp2 : bv y = .int .u8 (y.toNat : Int) := rfl
                      rw [hp1] at p1
                      rw [hp2] at p2
                      obtain ⟨xn, hxn⟩ : ∃ xn, x.toNat = xn := ⟨_, rfl⟩
                      obtain ⟨yn, hyn⟩ : ∃ yn, y.toNat = yn := ⟨_, rfl⟩
                      obtain ⟨zn, hzn⟩ : ∃ zn, z.toNat = zn := ⟨_, rfl⟩
                      rw [hxn] at p1 hxor
                      rw [hyn] at p2 hxor
                      rw [hzn] at hxor hlit
                      have HTK := Lib.hid (And.intro htk hlit)
                      have h4 := HC.out
                      have hW : ∀ W, Below b19 W1 W → W.cell? ⟨bl, ofl + k * 5 + 4, none⟩ = some (.slice (some ⟨bD, oD, none⟩) n du) ∧ W.cell? ⟨bD, oD + kk, none⟩ = some (.int .u8 (xn : Int)) ∧ W.cell? ⟨bm, ofm + k * 5 + 4, none⟩ = some (.slice (some ⟨bE, oE, none⟩) n dv) ∧ W.cell? ⟨bE, oE + kk, none⟩ = some (.int .u8 (yn : Int)) := fun W hb => by
                        have hbV := KV.out.2.1
                        refine ⟨?_, (hb.cell (p := ⟨bD, oD + kk, none⟩) hbD).trans p1, ?_, (hb.cell (p := ⟨bE, oE + kk, none⟩) hbE).trans p2⟩
                        · exact (hb.cell (p := ⟨bl, ofl + k * 5 + 4, none⟩) hbl2).trans ((hbV.cell (p := ⟨bl, ofl + k * 5 + 4, none⟩) hbl2).symm.trans h4.1)
                        · exact (hb.cell (p := ⟨bm, ofm + k * 5 + 4, none⟩) hbm2).trans ((hbV.cell (p := ⟨bm, ofm + k * 5 + 4, none⟩) hbm2).symm.trans h4.2)
                      have HW := Lib.hid hW
                      have HD := Lib.hid (fun W (hb : Below wr.heap.size wr W) => show (fun w' => w'.cell? ⟨b19, 4, none⟩ = some (.slice A9 kk c9) ∧ w'.cell? ⟨bl, ofl + k * 5 + 4, none⟩ = some (.slice (some ⟨bD, oD, none⟩) n du) ∧ w'.cell? ⟨bD, oD + kk, none⟩ = some (.int .u8 (xn : Int)) ∧ w'.cell? ⟨bm, ofm + k * 5 + 4, none⟩ = some (.slice (some ⟨bE, oE, none⟩) n dv) ∧ w'.cell? ⟨bE, oE + kk, none⟩ = some (.int .u8 (yn : Int))) W from ⟨(KS.out.1.below hb).cell 4, hW W (KS.out.2.2.trans (hb.mono (by have := KS.out.2.2.size; have := KS.out.1.lt; omega)))⟩)
                      have HDV := Lib.hid (HD.out wr.drew (Below.refl wr.heap.size wr).drew)
                      have hbase : b19 ≤ (wr.alloc (.cells #[.int .u8 (zn : Int)] 5)).drew.heap.size := by
                        have h1 := KS.out.1.lt
                        show b19 ≤ (wr.alloc _).heap.size
                        rw [World.size_alloc]
                        omega
                      have hba := (Below.refl wr.heap.size wr).alloc (Nat.le_refl _) (.cells #[.int .u8 (zn : Int)] 5)
                      have HBA := Lib.hid hba.drew
                      have HSZ := Lib.hid (show Sl (wr.alloc (.cells #[.int .u8 (zn : Int)] 5)).drew (some ⟨wr.heap.size, 0, none⟩) [z] 1 from sl_lit wr [z] 1 rfl (by omega) #[.int .u8 (zn : Int)] HTK.out.2)
                      have j1 : (0 : Int) ≤ (kk : Int) := by omega
                      have j2 : (kk : Int) < (n : Int) := by omega
                      clear hcD hcE hx hy hz9 htk hlit hz hp1 hp2 hxn hyn hzn h4 hW hba p1 p2 hsz
                      go_upto_region 20 with fail
                      refine wp_region_later 22 (fun w' => w'.cell? ⟨b19, 4, none⟩ = some (.slice A9 kk c9) ∧ w'.cell? ⟨bl, ofl + k * 5 + 4, none⟩ = some (.slice (some ⟨bD, oD, none⟩) n du) ∧ w'.cell? ⟨bD, oD + kk, none⟩ = some (.int .u8 (xn : Int)) ∧ w'.cell? ⟨bm, ofm + k * 5 + 4, none⟩ = some (.slice (some ⟨bE, oE, none⟩) n dv) ∧ w'.cell? ⟨bE, oE + kk, none⟩ = some (.int .u8 (yn : Int))) (by kernel_rfl) ?_
                      refine takeL (d := some 116) (i := 0) (v := ?v0) rfl rfl (by kernel_rfl) (by kernel_rfl) (by kernel_rfl) (fun _ _ _ h => h) rfl (by kernel_rfl) (Or.inl ⟨by rfl, ?y0⟩) HDV.out ?r0
                      case y0 =>
                        intro w hSw
                        try dsimp only at hSw
                        go_simp
                        all_goals with_reducible rfl
                      try simp only [Act.put, List.setIfInBounds_toArray, List.set_cons_zero, List.set_cons_succ]
                      refine takeL (d := some 117) (i := 1) (v := ?v1) rfl rfl (by kernel_rfl) (by kernel_rfl) (by kernel_rfl) (fun _ _ _ h => h) rfl (by kernel_rfl) (Or.inl ⟨by rfl, ?y1⟩) HDV.out ?r1
                      case y1 =>
                        intro w hSw
                        try dsimp only at hSw
                        go_simp
                        all_goals with_reducible rfl
                      try simp only [Act.put, List.setIfInBounds_toArray, List.set_cons_zero, List.set_cons_succ]
                      refine takeL (d := some 118) (i := 2) (v := ?v2) rfl rfl (by kernel_rfl) (by kernel_rfl) (by kernel_rfl) (fun _ _ _ h => h) rfl (by kernel_rfl) (Or.inl ⟨by rfl, ?y2⟩) HDV.out ?r2
                      case y2 =>
                        intro w hSw
                        try dsimp only at hSw
                        go_simp
                        all_goals with_reducible rfl
                      try simp only [Act.put, List.setIfInBounds_toArray, List.set_cons_zero, List.set_cons_succ]
                      refine takeL (d := some 119) (i := 3) (v := ?v3) rfl rfl (by kernel_rfl) (by kernel_rfl) (by kernel_rfl) (fun _ _ _ h => h) rfl (by kernel_rfl) (Or.inl ⟨by rfl, ?y3⟩) HDV.out ?r3
                      case y3 =>
                        intro w hSw
                        try dsimp only at hSw
                        go_simp
                        all_goals with_reducible rfl
                      try simp only [Act.put, List.setIfInBounds_toArray, List.set_cons_zero, List.set_cons_succ]
                      refine takeL (d := some 120) (i := 4) (v := ?v4) rfl rfl (by kernel_rfl) (by kernel_rfl) (by kernel_rfl) (fun _ _ _ h => h) rfl (by kernel_rfl) (Or.inl ⟨by rfl, ?y4⟩) HDV.out ?r4
                      case y4 =>
                        intro w hSw
                        try dsimp only at hSw
                        go_simp
                        all_goals with_reducible rfl
                      try simp only [Act.put, List.setIfInBounds_toArray, List.set_cons_zero, List.set_cons_succ]
                      refine takeL (d := some 121) (i := 5) (v := ?v5) rfl rfl (by kernel_rfl) (by kernel_rfl) (by kernel_rfl) (fun _ _ _ h => h) rfl (by kernel_rfl) (Or.inl ⟨by rfl, ?y5⟩) HDV.out ?r5
                      case y5 =>
                        intro w hSw
                        try dsimp only at hSw
                        go_simp
                        all_goals with_reducible rfl
                      try simp only [Act.put, List.setIfInBounds_toArray, List.set_cons_zero, List.set_cons_succ]
                      refine takeL (d := some 122) (i := 6) (v := ?v6) rfl rfl (by kernel_rfl) (by kernel_rfl) (by kernel_rfl) (fun _ _ _ h => h) rfl (by kernel_rfl) (Or.inl ⟨by rfl, ?y6⟩) HDV.out ?r6
                      case y6 =>
                        intro w hSw
                        try dsimp only at hSw
                        go_simp
                        all_goals with_reducible rfl
                      try simp only [Act.put, List.setIfInBounds_toArray, List.set_cons_zero, List.set_cons_succ]
                      refine takeL (d := some 123) (i := 7) (v := ?v7) rfl rfl (by kernel_rfl) (by kernel_rfl) (by kernel_rfl) (fun _ _ _ h => h) rfl (by kernel_rfl) (Or.inl ⟨by rfl, ?y7⟩) HDV.out ?r7
                      case y7 =>
                        intro w hSw
                        try dsimp only at hSw
                        go_simp
                        all_goals with_reducible rfl
                      try simp only [Act.put, List.setIfInBounds_toArray, List.set_cons_zero, List.set_cons_succ]
                      refine takeL (d := some 124) (i := 8) (v := ?v8) rfl rfl (by kernel_rfl) (by kernel_rfl) (by kernel_rfl) (fun _ _ _ h => h) rfl (by kernel_rfl) (Or.inl ⟨by rfl, ?y8⟩) HDV.out ?r8
                      case y8 =>
                        intro w hSw
                        try dsimp only at hSw
                        go_simp
                        all_goals with_reducible rfl
                      try simp only [Act.put, List.setIfInBounds_toArray, List.set_cons_zero, List.set_cons_succ]
                      refine takeL (d := some 125) (i := 9) (v := ?v9) rfl rfl (by kernel_rfl) (by kernel_rfl) (by kernel_rfl) (fun _ _ _ h => h) rfl (by kernel_rfl) (Or.inl ⟨by rfl, ?y9⟩) HDV.out ?r9
                      case y9 =>
                        intro w hSw
                        try dsimp only at hSw
                        go_simp
                        all_goals with_reducible rfl
                      try simp only [Act.put, List.setIfInBounds_toArray, List.set_cons_zero, List.set_cons_succ]
                      refine takeL (d := some 126) (i := 10) (v := ?v10) rfl rfl (by kernel_rfl) (by kernel_rfl) (by kernel_rfl) (fun _ _ _ h => h) rfl (by kernel_rfl) (Or.inl ⟨by rfl, ?y10⟩) HDV.out ?r10
                      case y10 =>
                        intro w hSw
                        try dsimp only at hSw
                        go_simp
                        all_goals with_reducible rfl
                      try simp only [Act.put, List.setIfInBounds_toArray, List.set_cons_zero, List.set_cons_succ]
                      refine takeL (d := some 127) (i := 11) (v := ?v11) rfl rfl (by kernel_rfl) (by kernel_rfl) (by kernel_rfl) (fun _ _ _ h => h) rfl (by kernel_rfl) (Or.inl ⟨by rfl, ?y11⟩) HDV.out ?r11
                      case y11 =>
                        intro w hSw
                        try dsimp only at hSw
                        go_simp
                        all_goals with_reducible rfl
                      try simp only [Act.put, List.setIfInBounds_toArray, List.set_cons_zero, List.set_cons_succ]
                      refine takeL (d := some 128) (i := 12) (v := ?v12) rfl rfl (by kernel_rfl) (by kernel_rfl) (by kernel_rfl) (fun _ _ _ h => h) rfl (by kernel_rfl) (Or.inl ⟨by rfl, ?y12⟩) HDV.out ?r12
                      case y12 =>
                        intro w hSw
                        try dsimp only at hSw
                        go_simp
                        all_goals with_reducible rfl
                      try simp only [Act.put, List.setIfInBounds_toArray, List.set_cons_zero, List.set_cons_succ]
                      refine takeL (d := some 129) (i := 13) (v := ?v13) rfl rfl (by kernel_rfl) (by kernel_rfl) (by kernel_rfl) (fun _ _ _ h => h) rfl (by kernel_rfl) (Or.inl ⟨by rfl, ?y13⟩) HDV.out ?r13
                      case y13 =>
                        intro w hSw
                        try dsimp only at hSw
                        go_simp
                        all_goals with_reducible rfl
                      try simp only [Act.put, List.setIfInBounds_toArray, List.set_cons_zero, List.set_cons_succ]
                      refine takeL (d := some 130) (i := 14) (v := ?v14) rfl rfl (by kernel_rfl) (by kernel_rfl) (by kernel_rfl) (fun _ _ _ h => h) rfl (by kernel_rfl) (Or.inl ⟨by rfl, ?y14⟩) HDV.out ?r14
                      case y14 =>
                        intro w hSw
                        try dsimp only at hSw
                        go_simp
                        all_goals with_reducible rfl
                      try simp only [Act.put, List.setIfInBounds_toArray, List.set_cons_zero, List.set_cons_succ]
                      refine takeL (d := some 131) (i := 15) (v := ?v15) rfl rfl (by kernel_rfl) (by kernel_rfl) (by kernel_rfl) (fun _ _ _ h => h) rfl (by kernel_rfl) (Or.inl ⟨by rfl, ?y15⟩) HDV.out ?r15
                      case y15 =>
                        intro w hSw
                        try dsimp only at hSw
                        go_simp
                        all_goals with_reducible rfl
                      try simp only [Act.put, List.setIfInBounds_toArray, List.set_cons_zero, List.set_cons_succ]
                      refine takeL (d := some 132) (i := 16) (v := ?v16) rfl rfl (by kernel_rfl) (by kernel_rfl) (by kernel_rfl) (fun _ _ _ h => h) rfl (by kernel_rfl) (Or.inl ⟨by rfl, ?y16⟩) HDV.out ?r16
                      case y16 =>
                        intro w hSw
                        try dsimp only at hSw
                        go_simp
                        all_goals with_reducible rfl
                      try simp only [Act.put, List.setIfInBounds_toArray, List.set_cons_zero, List.set_cons_succ]
                      refine takeL (d := some 133) (i := 17) (v := ?v17) rfl rfl (by kernel_rfl) (by kernel_rfl) (by kernel_rfl) (fun _ _ _ h => h) rfl (by kernel_rfl) (Or.inl ⟨by rfl, ?y17⟩) HDV.out ?r17
                      case y17 =>
                        intro w hSw
                        try dsimp only at hSw
                        go_simp
                        all_goals with_reducible rfl
                      try simp only [Act.put, List.setIfInBounds_toArray, List.set_cons_zero, List.set_cons_succ]
                      refine takeL (d := some 134) (i := 18) (v := ?v18) rfl rfl (by kernel_rfl) (by kernel_rfl) (by kernel_rfl) (fun _ _ _ h => h) rfl (by kernel_rfl) (Or.inl ⟨by rfl, ?y18⟩) HDV.out ?r18
                      case y18 =>
                        intro w hSw
                        try dsimp only at hSw
                        go_simp
                        all_goals with_reducible rfl
                      try simp only [Act.put, List.setIfInBounds_toArray, List.set_cons_zero, List.set_cons_succ]
                      refine oneL (i := 19) (by kernel_rfl) rfl (fun K' hK => ?_)
                      go_simp
                      refine hK.out _ _ (fun _ => HD.out _ HBA.out) ?_
                      clear hK
                      refine oneL (i := 20) (by kernel_rfl) rfl (fun K' hK => ?_)
                      refine step_append_sl (base := b19) (by rfl) (.tmp 117) (.tmp 135) (by rfl) (.slice A9 kk c9) kk _ (by rfl) (own_below KS.out.2.1 HBA.out) (some ⟨wr.heap.size, 0, none⟩) [z] 1 1 rfl (by rfl) HSZ.out (kk + 1) rfl (by omega) hbase ?_
                      intro A10 c10 w10 ho10 hg10
                      have hob := own_below KS.out.2.1 HBA.out
                      have x10 := (KS.out.1.below HBA.out).grown hg10 (fun e => box_own (KS.out.1.below HBA.out) hob (by decide) e.symm)
                      have hb10 : Below b19 W1 w10 := (KS.out.2.2.trans (HBA.out.mono (by have := KS.out.1.lt; omega))).grown hg10 hbase (fun i hi => (hob.lt i hi).1)
                      have f10 := x10.frozen 4
                      have c10' : w10.cell? ⟨b19, 4, none⟩ = some (.slice A9 kk c9) := x10.cell 4
                      have K10 := Lib.hid (And.intro x10 (And.intro ho10 hb10))
                      clear ho10 hg10 hob x10 hb10
                      refine hK.out _ _ (fun _ => ⟨c10', HW.out w10 K10.out.2.2⟩) ?_
                      clear hK
                      refine oneL (i := 21) (by kernel_rfl) rfl (fun K' hK => ?_)
                      go_simp
                      refine hK.out _ _ (fun _ => ⟨c10', HW.out w10 K10.out.2.2⟩) ?_
                      clear hK
                      refine oneL (i := 22) (by kernel_rfl) rfl (fun K' hK => ?_)
                      go_simp
                      refine hK.out _ _ (fun e => by simp at e) ?_
                      clear hK
                      refine doneL (by kernel_rfl) ?_ _
                      have F1 : Box (w10.setCell ⟨b19, 4, none⟩ (.slice A10 (kk + 1) c10)) b19 #[.int .i64 u.ep, .int .i64 u.ix, .int .i64 u.th, .int .i64 u.mn, .slice A10 (kk + 1) c10] 41 := K10.out.1.set (i := 4) (v := .slice A10 (kk + 1) c10)
                      have F2 := K10.out.2.1.kept (set_grown_at w10 b19 4 (.slice A10 (kk + 1) c10)) (.inr (box_own K10.out.1 K10.out.2.1 (by decide)))
                      rw [← List.map_append, ← HTK.out.1] at F2
                      have F := Lib.hid (And.intro F1 (And.intro F2 (K10.out.2.2.setCell (p := ⟨b19, 4, none⟩) (Nat.le_refl _) (.slice A10 (kk + 1) c10))))
                      clear F1 F2 K10 c10' f10 HD HDV HBA HSZ HW HTK KS hbase hxor j1 j2
                      generalize World.setCell _ ⟨b19, 4, none⟩ _ = wF at *
                      go_wp2_with fail
                      go_roundw
                      case rel => exact ⟨kk + 1, A10, c10, by omega, by go_num, F.out⟩
                      case measure => simp [intOf]; omega
                    · obtain rfl : kk = n := by omega
                      have htk : (sumb u.data v.data).take kk = sumb u.data v.data := List.take_of_length_le (by rw [sumb_length, HU.out.2.2.2.1]; exact Nat.le_refl _)
                      have hln : (sumb u.data v.data).length = kk := by rw [sumb_length, HU.out.2.2.2.1]
                      rw [htk] at KS
                      have hsz := HB19.out
                      have hlt9 := KS.out.1.lt
                      have hba := (Below.refl wr.heap.size wr).alloc (Nat.le_refl _) (.cells #[.int .i64 u.ep, .int .i64 u.ix, .int .i64 u.th, .int .i64 u.mn, .slice A9 kk c9] 41)
                      have hbw := KS.out.2.2
                      rw [← hsz] at hbw
                      have hOB := (KV.out.2.2.1.up hbw).up hba
                      have hown : (wr.alloc (.cells #[.int .i64 u.ep, .int .i64 u.ix, .int .i64 u.th, .int .i64 u.mn, .slice A9 kk c9] 41)).ownsRow w3.heap.size 5 1 (.slice A9 (rsh u v).data.length c9) (rsh u v).data.length ((rsh u v).data.map bv) := by
                        show World.ownsRow _ w3.heap.size 5 1 (.slice A9 (sumb u.data v.data).length c9) (sumb u.data v.data).length ((sumb u.data v.data).map bv)
                        rw [hln]
                        exact own_base (own_below KS.out.2.1 hba) hzz
                      have hbox : Box (wr.alloc (.cells #[.int .i64 u.ep, .int .i64 u.ix, .int .i64 u.th, .int .i64 u.mn, .slice A9 kk c9] 41)) wr.heap.size #[.int .i64 (rsh u v).ep, .int .i64 (rsh u v).ix, .int .i64 (rsh u v).th, .int .i64 (rsh u v).mn, .slice A9 (rsh u v).data.length c9] 41 := by
                        show Box _ _ #[.int .i64 u.ep, .int .i64 u.ix, .int .i64 u.th, .int .i64 u.mn, .slice A9 (sumb u.data v.data).length c9] _
                        rw [hln]
                        exact Box.new _ _ _
                      have hb3 := (KV.out.2.2.2.trans (hbw.mono KV.out.2.2.2.size)).alloc (Nat.le_trans KV.out.2.2.2.size hbw.size) (.cells #[.int .i64 u.ep, .int .i64 u.ix, .int .i64 u.th, .int .i64 u.mn, .slice A9 kk c9] 41)
                      have hlk : (Z.take k).length = k := by rw [List.length_take, HL.out.2.2.1]; omega
                      have hzk : Z.take (k + 1) = Z.take k ++ [rsh u v] := by rw [List.take_add_one, HU.out.2.2.1]; rfl
                      have HO := Lib.hid (And.intro hOB (And.intro hown (And.intro hbox (And.intro hb3 (And.intro hlk hzk)))))
                      have z0 := KS.out.1.cell 0
                      have z1 := KS.out.1.cell 1
                      have z2 := KS.out.1.cell 2
                      have z3 := KS.out.1.cell 3
                      have z4 := KS.out.1.cell 4
                      simp only [List.getElem?_toArray, List.getElem?_cons_zero, List.getElem?_cons_succ] at z0 z1 z2 z3 z4
                      clear htk hln hba hbw hOB hown hbox hb3 hlk hzk KS HC hsz
                      go_wp2_with (at_builtin; refine wpList_append_ob (w0 := w3) rfl (.tmp 139) (.tmp 141) rfl A' (Z.take k) k c' HO.out.2.2.2.2.1 rfl HO.out.1 wr.heap.size (rsh u v) A9 c9 rfl HO.out.2.2.1 HO.out.2.1 (by omega) HO.out.2.2.2.1 ?_; intro A12 c12 w12 ho12 hb12; have H12 := Lib.hid (And.intro ho12 hb12); clear ho12 hb12)
                      go_roundw
                      case rel => exact ⟨k + 1, A12, c12, by omega, by go_num, rfl, by rw [HO.out.2.2.2.2.2]; exact H12.out.1, H12.out.2⟩
                      case measure => simp [intOf]; omega
                · obtain rfl : k = ln := by omega
                  have hzt : Z.take k = Z := List.take_of_length_le (by rw [HL.out.2.2.1]; exact Nat.le_refl _)
                  rw [hzt] at KR
                  have hb3 := bthen' H3.out.2.2 KR.out.2
                  have HJW := Lib.hid (HJ.out A' c' wr (HA.out.1.below hb3) KR.out.1.ss)
                  have HB3 := Lib.hid hb3
                  clear hzt hb3
                  go_wp2_with fail
                  refine HJW.out.mono ?_
                  rintro e w5 ⟨A5', c5', rfl, hs5', hb5⟩
                  have H5 := Lib.hid (And.intro hs5' (bthen' HB3.out hb5))
                  clear hs5' hb5 HJW KR
                  go_wp2_with fail
                  go_loopw [160] (fun i wr => ∃ kk : Nat, kk ≤ n ∧ i = .int .i64 kk ∧ Below w5.heap.size w5 wr) (fun i _ => n - (intOf i).toNat)
                  case atStart => exact ⟨0, Nat.zero_le _, rfl, Below.refl _ _⟩
                  case round =>
                    obtain ⟨kk, hkk, rfl, hbw⟩ := hrel
                    have HBW := Lib.hid hbw
                    clear hbw
                    by_cases hlt2 : kk < n
                    · have hwb := bthen' H5.out.2 HBW.out
                      have hna : a.length = n := HNN.out
                      have hnb : b.length = n := HG.out.symm
                      obtain ⟨bs, os, rfl, _, hcs⟩ := (H5.out.1.up HBW.out).1 (by rw [sumb_length]; omega)
                      obtain ⟨ba, oa, rfl, _, hca⟩ := (HA.out.2.1.up hwb).1 (by omega)
                      obtain ⟨bb, ob, rfl, _, hcb⟩ := (HA.out.2.2.up hwb).1 (by omega)
                      obtain ⟨x, hx⟩ : ∃ x, a[kk]? = some x := ⟨_, List.getElem?_eq_getElem (by omega)⟩
                      obtain ⟨y, hy⟩ : ∃ y, b[kk]? = some y := ⟨_, List.getElem?_eq_getElem (by omega)⟩
                      have hz9 : (sumb a b)[kk]? = some (x ^^^ y) := by
                        have h1 := sumb_getD (a := a) (b := b) (by omega) kk
                        rw [List.getD_eq_getElem?_getD, List.getD_eq_getElem?_getD, List.getD_eq_getElem?_getD, hx, hy, List.getElem?_eq_getElem (by rw [sumb_length]; omega)] at h1
                        rw [List.getElem?_eq_getElem (by rw [sumb_length]; omega)]
                        exact congrArg some h1
                      have p0 := hcs kk _ hz9
                      have p1 := hca kk x hx
                      have p2 := hcb kk y hy
                      have hxor := xor_u8' x y
                      have hp0 : bv (x ^^^ y) = .int .u8 ((x ^^^ y).toNat : Int) := rfl
                      have hp1 : bv x = .int .u8 (x.toNat : Int) := rfl
                      have hp2 : bv y = .int .u8 (y.toNat : Int) := rfl
                      rw [hp0] at p0
                      rw [hp1] at p1
                      rw [hp2] at p2
                      obtain ⟨zn, hzn⟩ : ∃ zn, (x ^^^ y).toNat = zn := ⟨_, rfl⟩
                      obtain ⟨xn, hxn⟩ : ∃ xn, x.toNat = xn := ⟨_, rfl⟩
                      obtain ⟨yn, hyn⟩ : ∃ yn, y.toNat = yn := ⟨_, rfl⟩
                      rw [hxn, hyn, hzn] at hxor
                      rw [hzn] at p0
                      rw [hxn] at p1
                      rw [hyn] at p2
                      have hne : ((zn : Int) != (zn : Int)) = false := bne_self_eq_false' _
                      have j1 : (0 : Int) ≤ (kk : Int) := by omega
                      have j2 : (kk : Int) < (n : Int) := by omega
                      have HQ := Lib.hid (show wr.drew.cell? ⟨bs, os + kk, none⟩ = some (.int .u8 (zn : Int)) ∧ wr.drew.cell? ⟨ba, oa + kk, none⟩ = some (.int .u8 (xn : Int)) ∧ wr.drew.cell? ⟨bb, ob + kk, none⟩ = some (.int .u8 (yn : Int)) from ⟨p0, p1, p2⟩)
                      clear hcs hca hcb hx hy hz9 p0 p1 p2 hp0 hp1 hp2 hxn hyn hzn hwb hna hnb
                      go_wp2_with fail
                      go_region_held3 (fun w' => w'.cell? ⟨bs, os + kk, none⟩ = some (.int .u8 (zn : Int)) ∧ w'.cell? ⟨ba, oa + kk, none⟩ = some (.int .u8 (xn : Int)) ∧ w'.cell? ⟨bb, ob + kk, none⟩ = some (.int .u8 (yn : Int)))
                        (first | exact HQ.out | go_keep)
                        (first | fail)
                      go_wp2_with fail
                      go_roundw
                      case rel => exact ⟨kk + 1, by omega, by go_num, HBW.out.drew⟩
                      case measure => simp [intOf]; omega
                    · obtain rfl : kk = n := by omega
                      go_wp2_with fail
                      go_ret
                      exact ⟨rfl, bthen' H5.out.2 HBW.out⟩

            · have e1 : (E2 != 0) = true := by simpa using g6
              have HMM := Lib.hid hMx
              clear hE hLx hE2 hMx
              generalize Lx.length = ln1 at *
              generalize Mx.length = ln2 at *
              generalize p.length = mp at *
              generalize q.length = mq at *
              generalize a.length = n at *
              go_enter Tryd.func9, Tryd.ntmps9
              go_wp2_with fail
              refine HS.out.mono ?_
              rintro e w1 ⟨rfl, hb1⟩
              go_wp2_with fail
              refine (HP1.out w1 hb1).mono ?_
              rintro e w2 ⟨A2, c2, rfl, hs2, hb2⟩
              have H2 := Lib.hid (And.intro hs2 (bthen' hb1 hb2))
              clear hs2 hb1 hb2
              go_wp2_with fail
              refine (HP2.out w2 H2.out.2).mono ?_
              rintro e w3 ⟨A3, c3, rfl, hs3, hb3⟩
              have H3 := Lib.hid (And.intro (H2.out.1.up hb3) (And.intro hs3 (bthen' H2.out.2 hb3)))
              clear hs3 hb3 H2
              go_wp2_with fail
              go_ret
              exact ⟨rfl, H3.out.2.2⟩

          · have e1 : (E != 0) = true := by simpa using g5
            clear hE hLx hE2 hMx
            generalize Lx.length = ln1 at *
            generalize Mx.length = ln2 at *
            generalize p.length = mp at *
            generalize q.length = mq at *
            generalize a.length = n at *
            go_enter Tryd.func9, Tryd.ntmps9
            go_wp2_with fail
            refine HS.out.mono ?_
            rintro e w1 ⟨rfl, hb1⟩
            go_wp2_with fail
            refine (HP1.out w1 hb1).mono ?_
            rintro e w2 ⟨A2, c2, rfl, hs2, hb2⟩
            have H2 := Lib.hid (And.intro hs2 (bthen' hb1 hb2))
            clear hs2 hb1 hb2
            go_wp2_with fail
            refine (HP2.out w2 H2.out.2).mono ?_
            rintro e w3 ⟨A3, c3, rfl, hs3, hb3⟩
            have H3 := Lib.hid (And.intro (H2.out.1.up hb3) (And.intro hs3 (bthen' H2.out.2 hb3)))
            clear hs3 hb3 H2
            go_wp2_with fail
            go_ret
            exact ⟨rfl, H3.out.2.2⟩

    · have e1 : ((a.length : Int) != (b.length : Int)) = true := by simp; omega
      have e2 : ¬ (a.length : Int) = (b.length : Int) := by omega
      have e3 : ¬ a.length = b.length := g2
      generalize a.length = n at *
      generalize b.length = nb at *
      generalize p.length = mp at *
      generalize q.length = mq at *
      go_enter Tryd.func9, Tryd.ntmps9
      go_wp2_with fail
      refine HS.out.mono ?_
      rintro e w1 ⟨rfl, hb1⟩
      go_wp2_with fail
      go_ret
      exact ⟨rfl, hb1⟩

end Go.Proofs.YtmchnkfnnodecaaDoor
