/- The reference's padded bytes. -/
import Derived.Test.YtdjlblfpkieenaaDoorApp
namespace Go.Proofs.YtdjlblfpkieenaaDoor
open Go.RowKit Go.Sort
set_option linter.unusedVariables false

/-- Bytes of the call's own. -/
def Row8 (w0 w : World) (A : Option Addr) (l : List UInt8) (c : Nat) : Prop := w.ownsRow w0.heap.size 5 1 (.slice A l.length c) l.length (l.map bv) ∧ Below w0.heap.size w0 w
theorem Row8.up {w0 w w' : World} {A : Option Addr} {l : List UInt8} {c : Nat} (h : Row8 w0 w A l c) (hb : Below w.heap.size w w') : Row8 w0 w' A l c := ⟨own_below h.1 hb, h.2.trans (hb.mono h.2.size)⟩
theorem Row8.start (w : World) : Row8 w (w.alloc (.cells #[] 5)) (some ⟨w.heap.size, 0, none⟩) [] 0 := ⟨own_empty w (Nat.le_refl _), (Below.refl w.heap.size w).alloc (Nat.le_refl _) _⟩
theorem Row8.sl {w0 w : World} {A : Option Addr} {l : List UInt8} {c : Nat} (h : Row8 w0 w A l c) : Sl w A l c := by
  have h1 := Bs.of_own h.1
  refine ⟨h1.1, h1.2.1, h1.2.2, fun hA => ?_⟩
  subst hA
  rcases h.1.2 with ⟨hv, hn⟩ | ⟨g, cap, cur, hv, _⟩
  · injection hv with _ _ hc
    exact ⟨List.length_eq_zero_iff.1 hn, hc⟩
  · injection hv with hv
    cases hv
/-- A literal of one byte. -/
theorem sl_one (w : World) (x : UInt8) : Sl (w.alloc (.cells #[bv x] 5)) (some ⟨w.heap.size, 0, none⟩) [x] 1 :=
  ⟨Bs.of_box (l := [x]) (t := 5) (Box.new w #[bv x] 5), Nat.le_refl _, by unfold maxLen; omega, fun h => by cases h⟩
theorem sl_val (w : World) (x : UInt8) (X : Int) (h : X = (x.toNat : Int)) : Sl (w.alloc (.cells #[.int .u8 X] 5)) (some ⟨w.heap.size, 0, none⟩) [x] 1 := by
  subst h
  exact sl_one w x
theorem byte_at (n i : Nat) : ((n : Int) * 8 / 2 ^ (8 * i) % 256) = ((UInt8.ofNat (n * 8 / 256 ^ i % 256)).toNat : Int) := by
  have e : (2 : Nat) ^ (8 * i) = 256 ^ i := by rw [Nat.pow_mul]
  rw [← e]
  generalize 8 * i = m
  have h : n * 8 / 2 ^ m % 256 < 256 := Nat.mod_lt _ (by omega)
  rw [UInt8.toNat_ofNat_of_lt' h, Int.natCast_emod, Int.natCast_ediv, Int.natCast_mul, Int.natCast_pow]
  rfl
theorem wpList_append_bytes {w0 w : World} {ops : Array Oper} {rest : List Oper} {o : Oper} {a : Act} {Q : Exit → Act → World → Prop} (hgd : o.guard = none) (s x : Operand)
    (ho : o.op = .call { callee := .builtin .append, args := #[s, x], argTypes := #[22, 22] })
    (A : Option Addr) (l : List UInt8) (n c : Nat) (hs : a.eval s = .slice A n c) (hl : l.length = n) (hR : Row8 w0 w A l c)
    (A2 : Option Addr) (l2 : List UInt8) (m c2 : Nat) (hm : l2.length = m) (hx : a.eval x = .slice A2 m c2) (hS : Sl w A2 l2 c2) (N : Nat) (hN : n + m = N) (hn : N ≤ 1000000)
    (h : ∀ A' c' w', Row8 w0 w' A' (l ++ l2) c' → wpList Tryd.prog ops Q rest (a.put o.dst (.slice A' N c')) w') : wpList Tryd.prog ops Q (o :: rest) a w := by
  subst hl hN
  refine wpList_plain hgd fun K hK => wp_append_sl s x ho _ _ _ hs hR.1 A2 l2 m c2 hm hx hS hn hR.2.size fun A' c' w' h1 h2 => hK _ _ (h A' c' w' ⟨?_, hR.2.grown h2 hR.2.size (fun i hi => (hR.1.lt i hi).1)⟩)
  rw [List.length_append, List.map_append, hm]
  exact h1

/-- The number before j, as an integer. -/
def ij : Nat → Int
  | 0 => -1
  | n + 1 => n
theorem be_at (N i : Nat) (h : i < 8) : (be N 8).take (8 - i) = (be N 8).take (8 - (i + 1)) ++ [UInt8.ofNat (N / 256 ^ i % 256)] := by
  have e := be_drop N 8 i h
  rw [show 8 - i = 8 - (i + 1) + 1 by omega]
  refine take_next ?_
  have : ((be N 8).drop (8 - (i + 1)))[0]? = some (UInt8.ofNat (N / 256 ^ i % 256)) := by rw [e]; rfl
  rwa [List.getElem?_drop, Nat.add_zero] at this

def PadPost (l : List UInt8) (w : World) (e : Ending) (w' : World) : Prop := ∃ A c, e = .returned (.slice A (pad l).length c) ∧ Row8 w w' A (pad l) c

set_option maxHeartbeats 1000000 in
set_option maxRecDepth 100000 in
theorem refPadded_any (A : Option Addr) (c : Nat) (l : List UInt8) (w : World) (hS : Sl w A l c) (hl : l.length ≤ 100000) :
    Calls Tryd.prog 31 #[.slice A l.length c] w (PadPost l w) := by
  have HR0 := Lib.hid (Row8.start w)
  have hb0 := (Below.refl w.heap.size w).alloc (Nat.le_refl _) (.cells #[] 5)
  have HS0 := Lib.hid (hS.up hb0)
  obtain ⟨n, hn⟩ : ∃ n, l.length = n := ⟨_, rfl⟩
  have HN := Lib.hid hn
  rw [hn] at hl ⊢
  clear hn hS hb0
  go_enter Tryd.func31, Tryd.ntmps31
  have hn1 : n + 1 ≤ 1000000 := by omega
  have hn0 : n ≤ 1000000 := by omega
  go_wp2_with (at_builtin; first
    | (refine wpList_append_bytes (w0 := w) rfl (.tmp 6) (.tmp 7) rfl (some ⟨w.heap.size, 0, none⟩) [] 0 0 rfl rfl HR0.out A l n c HN.out rfl HS0.out n (Nat.zero_add n) hn0 ?_; intro A1 c1 w1 hR1; have HR1 := Lib.hid hR1; clear hR1)
    | (refine wpList_append_bytes (w0 := w) rfl (.tmp 8) (.tmp 9) rfl A1 l n c1 rfl HN.out (HR1.out.up ((Below.refl w1.heap.size w1).alloc (Nat.le_refl _) _)) (some ⟨w1.heap.size, 0, none⟩) [128] 1 1 rfl rfl (sl_one w1 128) (n + 1) rfl hn1 ?_; intro A2 c2 w2 hR2; have HR2 := Lib.hid hR2; clear hR2))
  clear HR0 HS0 HR1
  go_loopw [3] (fun v wr => ∃ (j m : Nat) (A' : Option Addr) (c' : Nat), j ≤ gap n ∧ m = n + 1 + j ∧ v = .slice A' m c' ∧ Row8 w wr A' (l ++ 128 :: List.replicate j 0) c') (fun v _ => 1000000 - (match v with | .slice _ m _ => m | _ => 0))
  case atStart => exact ⟨0, n + 1, A2, c2, Nat.zero_le _, rfl, rfl, HR2.out⟩
  case round =>
    clear HR2
    obtain ⟨j, m, A', c', hj, hm, rfl, hR⟩ := hrel
    have HR := Lib.hid hR
    have hg : gap n ≤ 63 := by unfold gap; omega
    have hlen : (l ++ 128 :: List.replicate j 0).length = m := by rw [List.length_append, List.length_cons, List.length_replicate, HN.out]; omega
    have HLEN := Lib.hid hlen
    clear hR hlen
    by_cases hlt : j < gap n
    · have ht : ¬ ((m : Int) % 64 = 56) := by unfold gap at hlt; omega
      have HM := Lib.hid hm
      have hm6 : m + 1 ≤ 1000000 := by omega
      have hm0 : (0 : Int) ≤ (m : Int) := by omega
      have HJ : Hid (j + 1 ≤ gap n) := Lib.hid hlt
      clear hm hj hg hlt hn1 hn0
      go_wp2_with (at_builtin; first
        | (refine wpList_append_bytes (w0 := w) rfl (.tmp 15) (.tmp 16) rfl A' _ m c' rfl HLEN.out (HR.out.up ((Below.refl wr.heap.size wr).alloc (Nat.le_refl _) _)) (some ⟨wr.heap.size, 0, none⟩) [0] 1 1 rfl rfl (sl_one wr 0) (m + 1) rfl hm6 ?_; intro A3 c3 w3 hR3; have HR3 := Lib.hid hR3; clear hR3))
      go_roundw
      case rel =>
        refine ⟨j + 1, m + 1, A3, c3, HJ.out, by rw [HM.out]; omega, rfl, ?_⟩
        have := HR3.out
        rwa [List.append_assoc, List.cons_append, ← List.replicate_succ'] at this
      case measure => show 1000000 - (m + 1) < 1000000 - m; omega
    · obtain rfl : j = gap n := by omega
      have ht : ((m : Int) % 64 = 56) := by unfold gap at hm; omega
      have hm0 : m ≤ 200000 := by omega
      have HM := Lib.hid hm
      clear hm hg hj hlt
      go_wp2_with fail
      generalize hG : l ++ 128 :: List.replicate (gap n) 0 = L at *
      have HG := Lib.hid hG
      clear hG ht
      go_loopw [3, 5] (fun v i wr => ∃ (j q : Nat) (A' : Option Addr) (c' : Nat), j ≤ 8 ∧ q = m + (8 - j) ∧ i = .int .i64 (ij j) ∧ v = .slice A' q c' ∧ Row8 w wr A' (L ++ (be (n * 8) 8).take (8 - j)) c') (fun _ i _ => (intOf i + 1).toNat)
      case atStart => exact ⟨8, m, A', c', by omega, by omega, rfl, rfl, by rw [Nat.sub_self, List.take_zero, List.append_nil]; exact HR.out⟩
      case round =>
        clear HR
        obtain ⟨j, q, A2, c2, hj, hq, rfl, rfl, hR⟩ := hrel
        have HR := Lib.hid hR
        have hlen : (L ++ (be (n * 8) 8).take (8 - j)).length = q := by rw [List.length_append, HLEN.out, List.length_take, be_length]; omega
        have HLQ := Lib.hid hlen
        clear hR hlen
        cases j with
        | succ i =>
          have e : ij (i + 1) = (i : Int) := rfl
          rw [e]
          have hq6 : q + 1 ≤ 1000000 := by omega
          have HQ := Lib.hid hq
          have HJ := Lib.hid hj
          have hi8 : (i : Int) < 8 := by omega
          clear e hq hj
          have HX := Lib.hid (byte_at n i)
          have HBE := Lib.hid (be_at (n * 8) i (by omega))
          generalize UInt8.ofNat (n * 8 / 256 ^ i % 256) = x at *
          go_wp2_with (at_builtin; first
            | (refine wpList_append_bytes (w0 := w) rfl (.tmp 26) (.tmp 32) rfl A2 _ q c2 rfl HLQ.out (HR.out.up ((Below.refl wr.heap.size wr).alloc (Nat.le_refl _) _)) (some ⟨wr.heap.size, 0, none⟩) [x] 1 1 rfl rfl (sl_val wr x _ HX.out) (q + 1) rfl hq6 ?_; intro A3 c3 w3 hR3; have HR3 := Lib.hid hR3; clear hR3))
          go_roundw
          case rel =>
            refine ⟨i, q + 1, A3, c3, Nat.le_of_succ_le HJ.out, by rw [HQ.out]; have := HJ.out; omega, ?_, rfl, ?_⟩
            · cases i with
              | zero => rfl
              | succ k => show Value.int .i64 (((k + 1 : Nat) : Int) - 1) = .int .i64 (k : Int); congr 1; omega
            · have := HR3.out
              rwa [List.append_assoc, ← HBE.out] at this
          case measure => simp [intOf]
        | zero =>
          have e : ij 0 = -1 := rfl
          rw [e]
          have hfin : PadPost l w (.returned (.slice A2 q c2)) wr := by
            have hp : pad l = L ++ (be (n * 8) 8).take (8 - 0) := by
              unfold pad
              rw [← HG.out, HN.out, Nat.sub_zero, List.take_of_length_le (by rw [be_length]; omega), Nat.mod_eq_of_lt (by omega), List.append_assoc, List.cons_append]
            refine ⟨A2, c2, by rw [hp, HLQ.out], ?_⟩
            rw [hp]
            exact HR.out
          have HF := Lib.hid hfin
          clear hfin hq hj
          go_wp2_with fail
          go_ret
          exact HF.out
end Go.Proofs.YtdjlblfpkieenaaDoor
