/- sane. -/
import Derived.Test.YtobchecnfkocdaaSan
namespace Go.Proofs.Ytobchecnfkocdaa
open Go.RowKit
set_option linter.unusedVariables false
set_option linter.unusedSimpArgs false

set_option maxHeartbeats 4000000 in
set_option maxRecDepth 100000 in
theorem sane_all : SaneAll := by
  intro w
  go_enter Try.func10, Try.ntmps10
  go_wp2_with fail
  refine (san1 _).mono ?_
  rintro e w1 ⟨A1, c1, rfl, h1, hb⟩
  have K1 := Lib.hid (And.intro h1 hb)
  clear h1 hb
  go_wp2_with fail
  refine (san2 _).mono ?_
  rintro e w2 ⟨A2, n2, c2, rfl, hb⟩
  have K2 := Lib.hid (And.intro (K1.out.1.up hb) (K1.out.2.trans (hb.mono K1.out.2.size)))
  clear hb K1
  go_wp2_with fail
  refine (san3 _).mono ?_
  rintro e w3 ⟨A3, c3, rfl, h3, hb⟩
  have K3 := Lib.hid (And.intro h3 (And.intro (K2.out.1.up hb) (K2.out.2.trans (hb.mono K2.out.2.size))))
  clear h3 hb K2
  go_wp2_with fail
  refine (san4 _).mono ?_
  rintro e w4 ⟨A4, c4, rfl, h4, hb⟩
  have K4 := Lib.hid (And.intro h4 (And.intro (K3.out.1.up hb) (And.intro (K3.out.2.1.up hb) (K3.out.2.2.trans (hb.mono K3.out.2.2.size)))))
  clear h4 hb K3
  go_wp2_with fail
  refine (san5 _).mono ?_
  rintro e w5 ⟨rfl, hb⟩
  have K5 := Lib.hid (And.intro (K4.out.1.up hb) (And.intro (K4.out.2.1.up hb) (And.intro (K4.out.2.2.1.up hb) (K4.out.2.2.2.trans (hb.mono K4.out.2.2.2.size)))))
  clear hb K4
  go_wp2_with fail
  refine (san6 _).mono ?_
  rintro e w6 ⟨A6, c6, rfl, h6, hb⟩
  have K6 := Lib.hid (And.intro h6 (And.intro (K5.out.1.up hb) (And.intro (K5.out.2.1.up hb) (And.intro (K5.out.2.2.1.up hb) (K5.out.2.2.2.trans (hb.mono K5.out.2.2.2.size))))))
  clear h6 hb K5
  go_wp2_with fail
  refine (san7 _).mono ?_
  rintro e w7 ⟨A7, c7, rfl, h7, hb⟩
  have K7 := Lib.hid (And.intro h7 (And.intro (K6.out.1.up hb) (And.intro (K6.out.2.1.up hb) (And.intro (K6.out.2.2.1.up hb) (And.intro (K6.out.2.2.2.1.up hb) (K6.out.2.2.2.2.trans (hb.mono K6.out.2.2.2.2.size)))))))
  clear h7 hb K6
  go_wp2_with fail
  refine (san8 _ _ _ K7.out.2.2.2.2.1).mono ?_
  rintro e w8 ⟨rfl, hb⟩
  have K8 := Lib.hid (And.intro (K7.out.1.up hb) (And.intro (K7.out.2.1.up hb) (And.intro (K7.out.2.2.1.up hb) (And.intro (K7.out.2.2.2.1.up hb) (K7.out.2.2.2.2.2.trans (hb.mono K7.out.2.2.2.2.2.size))))))
  clear hb K7
  go_wp2_with fail
  refine (san9 _ _ _ K8.out.2.2.2.1).mono ?_
  rintro e w9 ⟨rfl, hb⟩
  have K9 := Lib.hid (And.intro (K8.out.1.up hb) (And.intro (K8.out.2.1.up hb) (And.intro (K8.out.2.2.1.up hb) (K8.out.2.2.2.2.trans (hb.mono K8.out.2.2.2.2.size)))))
  clear hb K8
  go_wp2_with fail
  refine (san10 _ _ _ K9.out.2.2.1).mono ?_
  rintro e w10 ⟨rfl, hb⟩
  obtain ⟨b, off, A', c', rfl, hbl, hc, _⟩ := (K9.out.2.1.up hb).at_ (i := 0) (l := []) rfl
  have z0 : w10.cell? ⟨b, off, none⟩ = some (.slice A' 0 c') := hc
  have K10 := Lib.hid (And.intro (K9.out.1.up hb) (K9.out.2.2.2.trans (hb.mono K9.out.2.2.2.size)))
  clear hb K9 hbl hc
  go_wp2_with fail
  refine (san11 _ _ _ K10.out.1).mono ?_
  rintro e w11 ⟨rfl, hb⟩
  have K11 := Lib.hid (K10.out.2.trans (hb.mono K10.out.2.size))
  clear hb K10 z0
  go_wp2_with fail
  refine (san12 _).mono ?_
  rintro e w12 ⟨rfl, hb⟩
  have K12 := Lib.hid (K11.out.trans (hb.mono K11.out.size))
  clear hb K11
  go_wp2_with fail
  refine (san13 _).mono ?_
  rintro e w13 ⟨rfl, hb⟩
  have K13 := Lib.hid (K12.out.trans (hb.mono K12.out.size))
  clear hb K12
  go_wp2_with fail
  refine (san14 _).mono ?_
  rintro e w14 ⟨rfl, hb⟩
  have K14 := Lib.hid (K13.out.trans (hb.mono K13.out.size))
  clear hb K13
  go_wp2_with fail
  go_ret
  exact ⟨rfl, K14.out⟩
end Go.Proofs.Ytobchecnfkocdaa
