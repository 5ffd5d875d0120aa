/- Normal, Union, Meet, Minus. -/
import Derived.Test.YtnmlfdmlcpgaaaaComb
namespace Go.Proofs.Ytnmlfdmlcpgaaaa
open Go.RowKit
set_option linter.unusedVariables false

set_option maxHeartbeats 1000000 in
set_option maxRecDepth 100000 in
theorem normal_any (A : Option Addr) (c : Nat) (l : List (Int × Int)) (w : World) (hS : Sl w A l c) (hl : l.length ≤ 1000000) :
    Calls Try.prog 12 #[.slice A l.length c] w (RowPost (nl (hasB l) 1024) w) := by
  have H1 := Lib.hid (setOf_any A c l w hS hl)
  have H2 := Lib.hid (fun w => list_any (hasB l) w)
  have hne := bcells_ne (hasB l)
  clear hS
  unfold SetPost at H1
  generalize bcells (hasB l) = CS at *
  go_enter Try.func12, Try.ntmps12
  go_wp2_with fail
  refine H1.out.mono ?_
  rintro e w1 ⟨rfl, hb1⟩
  go_wp2_with fail
  refine (H2.out w1).mono ?_
  rintro e w2 ⟨A2, c2, rfl, hS2, hb2⟩
  go_wp2_with fail
  go_ret
  exact ⟨A2, c2, rfl, hS2, hb1.trans (hb2.mono hb1.size)⟩

set_option maxHeartbeats 1000000 in
set_option maxRecDepth 100000 in
theorem union_any (A A' : Option Addr) (c c' : Nat) (l l' : List (Int × Int)) (w : World) (hS : Sl w A l c) (hS' : Sl w A' l' c') (hl : l.length ≤ 1000000) (hl' : l'.length ≤ 1000000) :
    Calls Try.prog 14 #[.slice A l.length c, .slice A' l'.length c'] w (RowPost (nl (fun d => hasB l d || hasB l' d) 1024) w) := by
  have H1 := Lib.hid (combine_any _ _ union_kept A A' c c' l l' w hS hS' hl hl')
  clear hS hS'
  go_enter Try.func14, Try.ntmps14
  go_wp2_with fail
  refine H1.out.mono ?_
  rintro e w1 ⟨A1, c1, rfl, hS1, hb1⟩
  go_wp2_with fail
  go_ret
  exact ⟨A1, c1, rfl, hS1, hb1⟩

set_option maxHeartbeats 1000000 in
set_option maxRecDepth 100000 in
theorem meet_any (A A' : Option Addr) (c c' : Nat) (l l' : List (Int × Int)) (w : World) (hS : Sl w A l c) (hS' : Sl w A' l' c') (hl : l.length ≤ 1000000) (hl' : l'.length ≤ 1000000) :
    Calls Try.prog 16 #[.slice A l.length c, .slice A' l'.length c'] w (RowPost (nl (fun d => hasB l d && hasB l' d) 1024) w) := by
  have H1 := Lib.hid (combine_any _ _ meet_kept A A' c c' l l' w hS hS' hl hl')
  clear hS hS'
  go_enter Try.func16, Try.ntmps16
  go_wp2_with fail
  refine H1.out.mono ?_
  rintro e w1 ⟨A1, c1, rfl, hS1, hb1⟩
  go_wp2_with fail
  go_ret
  exact ⟨A1, c1, rfl, hS1, hb1⟩

set_option maxHeartbeats 1000000 in
set_option maxRecDepth 100000 in
theorem minus_any (A A' : Option Addr) (c c' : Nat) (l l' : List (Int × Int)) (w : World) (hS : Sl w A l c) (hS' : Sl w A' l' c') (hl : l.length ≤ 1000000) (hl' : l'.length ≤ 1000000) :
    Calls Try.prog 18 #[.slice A l.length c, .slice A' l'.length c'] w (RowPost (nl (fun d => hasB l d && !hasB l' d) 1024) w) := by
  have H1 := Lib.hid (combine_any _ _ minus_kept A A' c c' l l' w hS hS' hl hl')
  clear hS hS'
  go_enter Try.func18, Try.ntmps18
  go_wp2_with fail
  refine H1.out.mono ?_
  rintro e w1 ⟨A1, c1, rfl, hS1, hb1⟩
  go_wp2_with fail
  go_ret
  exact ⟨A1, c1, rfl, hS1, hb1⟩
end Go.Proofs.Ytnmlfdmlcpgaaaa
