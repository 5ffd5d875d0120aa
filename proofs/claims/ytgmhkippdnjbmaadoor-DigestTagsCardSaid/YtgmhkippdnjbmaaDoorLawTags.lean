/- DigestTags. -/
import Derived.Test.YtgmhkippdnjbmaaDoorApp
namespace Go.Proofs.YtgmhkippdnjbmaaDoor
open Go.RowKit Go.Sort
set_option linter.unusedVariables false

/-- What lasts through the law's last statement. -/
structure TF (w : World) (g : Nat) (d : List UInt8) (A : Option Addr) (l : List UInt8) (c : Nat) (W : World) : Prop where
  K : KT W
  B : Below w.heap.size w W
  X : Box W g (dcells d) 26
  S : Sl W A l c
theorem TF.up {w : World} {g : Nat} {d : List UInt8} {A : Option Addr} {l : List UInt8} {c : Nat} {W W' : World} (h : TF w g d A l c W) (hb : Below W.heap.size W W') : TF w g d A l c W' :=
  ⟨h.K.below hb, h.B.trans (hb.mono h.B.size), h.X.below hb, h.S.up hb⟩
theorem TF.alloc {w : World} {g : Nat} {d : List UInt8} {A : Option Addr} {l : List UInt8} {c : Nat} {W : World} (h : TF w g d A l c W) (o : Obj) : TF w g d A l c (W.alloc o) := h.up ((Below.refl W.heap.size W).alloc (Nat.le_refl _) o)
theorem TF.drew {w : World} {g : Nat} {d : List UInt8} {A : Option Addr} {l : List UInt8} {c : Nat} {W : World} (h : TF w g d A l c W) : TF w g d A l c W.drew := h.up (Below.refl W.heap.size W).drew

attribute [local go_sem ↓] eql_dig neq_dig
attribute [local go_sem] guard_dig

set_option maxHeartbeats 1000000 in
set_option maxRecDepth 100000 in
theorem lawTags_any (tag : ByteArray) (A : Option Addr) (c : Nat) (l : List UInt8) (w : World) (hK : KT w) (hS : Sl w A l c) :
    Calls Tryd.prog 5 #[.string tag, .slice A l.length c] w fun e w' => e = .returned (.bool true) ∧ Below w.heap.size w w' := by
  have HSN := Lib.hid (sane_any w hK)
  by_cases h1 : 600 < tag.size
  · generalize l.length = n at *
    go_enter Tryd.func5, Tryd.ntmps5
    go_wp2_with fail
    refine HSN.out.mono ?_
    rintro e w1 ⟨rfl, hb1⟩
    go_wp2_with fail
    go_ret
    exact ⟨rfl, hb1⟩
  by_cases h2 : 600 < l.length
  · generalize l.length = n at *
    go_enter Tryd.func5, Tryd.ntmps5
    go_wp2_with fail
    refine HSN.out.mono ?_
    rintro e w1 ⟨rfl, hb1⟩
    go_wp2_with fail
    go_ret
    exact ⟨rfl, hb1⟩
  have HK := Lib.hid hK
  have HS := Lib.hid hS
  clear hK hS
  obtain ⟨n, hn⟩ : ∃ n, l.length = n := ⟨_, rfl⟩
  have HN := Lib.hid hn
  rw [hn] at h2 ⊢
  clear hn
  have hml : tag.size ≤ 600 := by omega
  have HML := Lib.hid hml
  go_enter Tryd.func5, Tryd.ntmps5
  go_wp2_with fail
  refine HSN.out.mono ?_
  rintro e w1 ⟨rfl, hb1⟩
  obtain ⟨c2, w2, hcv, hb2, hB2, hc2, hm2⟩ := conv_str w1 tag (le_maxLen (by omega))
  have HB2 := Lib.hid (hb1.trans (hb2.mono hb1.size))
  have HBB := Lib.hid (And.intro hB2 (And.intro hc2 hm2))
  clear hb1 hb2 hB2 hc2 hm2 HSN hml
  go_wp2_with fail
  clear hcv
  have hsm := sum_any (some ⟨w1.heap.size, 0, none⟩) c2 tag.data.toList w2 (HK.out.below HB2.out) HBB.out.1 HBB.out.2.1 HBB.out.2.2
  refine hsm.mono ?_
  rintro e w3 ⟨rfl, hb3⟩
  have hbw3 := HB2.out.trans (hb3.mono HB2.out.size)
  have HD := Lib.hid (DF.of (sha_length tag.data.toList))
  have hz := Box.new w3 dz 26
  have HZ := Lib.hid hz
  have HB3 := Lib.hid hbw3
  clear hsm hb3 hbw3 hz HBB HB2
  generalize hCS : dcells (sha tag.data.toList) = CS at *
  have HCS := Lib.hid hCS
  clear hCS
  go_upto_region 6 with (first | (refine wpList_store_row rfl 26 (.tmp 5) (.tmp 18) rfl w3.heap.size CS rfl rfl 26 dz HZ.out HD.out.info HD.out.size HD.out.one ?_))
  generalize hW : World.setRow _ _ CS = W5
  have hb5 : Below w3.heap.size w3 W5 := by
    rw [← hW]
    exact ((Below.refl w3.heap.size w3).alloc (Nat.le_refl _) (.cells dz 26)).trans (below_grown (setRow_grown _ _ _) (Nat.le_refl _) (by simp))
  have hx5 : Box W5 w3.heap.size CS 26 := by rw [← hW]; exact Box.setRow HZ.out
  rw [← HCS.out] at hx5
  have hbw5 := HB3.out.trans (hb5.mono HB3.out.size)
  have F5 : TF w w3.heap.size (sha tag.data.toList) A l c W5 := ⟨HK.out.below hbw5, hbw5, hx5, HS.out.up hbw5⟩
  have FD := Lib.hid F5.drew
  have FA := Lib.hid (F5.alloc (.cells #[] 5)).drew
  have hown : ((W5.alloc (.cells #[] 5)).drew).ownsRow w.heap.size 5 1 (.slice (some ⟨W5.heap.size, 0, none⟩) 0 0) 0 [] := own_empty W5 F5.B.size
  have HO := Lib.hid hown
  clear hb5 hx5 hbw5 hW HZ HCS HB3 HD F5 hown
  generalize w3.heap.size = g5 at *
  have hTG : ∀ W, TF w g5 (sha tag.data.toList) A l c W → Calls Tryd.prog 14 #[.string tag, .slice A n c] W (DigPost (tg tag.data.toList l) W) := fun W hF => by
    have := tagged_any tag A c l W hF.K hF.S (by have := HML.out; omega) (by have := HN.out; omega)
    rw [HN.out] at this
    exact this
  have hSM : ∀ W A1 c1, KT W → W.ownsRow w.heap.size 5 1 (.slice A1 (32 + n) c1) (32 + n) ([] ++ (sha tag.data.toList).map bv ++ l.map bv) → Calls Tryd.prog 12 #[.slice A1 (32 + n) c1] W (DigPost (tg tag.data.toList l) W) := fun W A1 c1 hk ho => by
    have hl : (sha tag.data.toList ++ l).length = 32 + n := by rw [List.length_append, sha_length, HN.out]
    have hs := Sl.of_own (B := w.heap.size) (A := A1) (c := c1) (l := sha tag.data.toList ++ l) (w := W) (by rw [hl, List.map_append]; exact ho)
    have := sum_any A1 c1 (sha tag.data.toList ++ l) W hk hs.1 hs.2.1 hs.2.2.1
    rw [hl] at this
    exact this
  have iT := IsDig.of (tg_length tag.data.toList l)
  have HTG := Lib.hid hTG
  have HSM := Lib.hid hSM
  clear hTG hSM
  unfold DigPost at HTG HSM
  generalize dcells (tg tag.data.toList l) = CT at *
  have hl32 := sha_length tag.data.toList
  generalize hM : sha tag.data.toList = M at *
  have HL := Lib.hid hl32
  have h2' : 32 + n ≤ 1000000 := by omega
  clear hM hl32
  go_region_held3 (fun _ => True) (trivial)
    (first
      | (go_at_call 14; first
          | ((with_reducible refine (HTG.out _ FD.out).mono ?_); rintro e w6 ⟨rfl, hb6⟩; have F6 := Lib.hid (FD.out.up hb6); clear hb6; have FB := Lib.hid (F6.out.alloc (.cells #[] 5)); have OB := Lib.hid (own_empty (base := w.heap.size) w6 F6.out.B.size))
          | ((with_reducible refine (HTG.out _ FA.out).mono ?_); rintro e w6 ⟨rfl, hb6⟩; have FB := Lib.hid (FA.out.up hb6); have OB := Lib.hid (own_below HO.out hb6); clear hb6))
      | (go_at_call 12; (with_reducible refine (HSM.out _ _ _ (HK.out.below hb8) ho8).mono ?_); rintro e w9 ⟨rfl, hb9⟩; have hb9 := hb8.trans (hb9.mono hb8.size))
      | ((refine step_append_sl (by rfl) (.tmp 22) (.tmp 23) (by rfl) _ 0 [] (by rfl) OB.out (some ⟨g5, 0, none⟩) M 32 32 HL.out (by rfl) (Sl.of_box FB.out.X HL.out) 32 rfl (by omega) FB.out.B.size ?_); intro A7 c7 w7 ho7 hg7; have hb7 := FB.out.B.grown hg7 FB.out.B.size (fun i hi => (OB.out.lt i hi).1); have S7 := Lib.hid (HS.out.up hb7))
      | ((refine step_append_sl (by rfl) (.tmp 24) (.tmp 25) (by rfl) _ 32 _ (by rfl) ho7 A l n c HN.out (by rfl) S7.out (32 + n) rfl h2' hb7.size ?_); intro A8 c8 w8 ho8 hg8; have hb8 := hb7.grown hg8 hb7.size (fun i hi => (ho7.lt i hi).1))
      | fail)
  all_goals
    go_wp2_with fail
    go_ret
    exact ⟨rfl, hb9⟩
end Go.Proofs.YtgmhkippdnjbmaaDoor
