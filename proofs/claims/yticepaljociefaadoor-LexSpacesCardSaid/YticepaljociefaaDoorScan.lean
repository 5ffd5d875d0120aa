/- The scanner's walk over a source. -/
import Derived.Test.YticepaljociefaaDoorTn
import Derived.Test.YticepaljociefaaDoorTail
import Derived.Deep.LoopGhost
import Derived.Laws.EntriesVeiled
namespace Go.Proofs.YticepaljociefaaDoor
open Go.RowKit Go.Shelf
set_option linter.unusedVariables false

/-- The function for a class. -/
def fnc (c : Nat) : FuncId := if c = 1 then 42 else if c = 2 then 43 else if c = 3 then 44 else if c = 5 then 45 else if c = 6 then 46 else 41
theorem fnc_enters (c : Nat) (hc : c < 7) : ∀ args w, (callFunc (fnc c) args).run Tryd.prog w = .ok (.enter (fnc c) args) w := by
  have h : c = 0 ∨ c = 1 ∨ c = 2 ∨ c = 3 ∨ c = 4 ∨ c = 5 ∨ c = 6 := by omega
  rcases h with rfl | rfl | rfl | rfl | rfl | rfl | rfl
  · exact enters_of Tryd.func41 (by kernel_rfl) rfl
  · exact enters_of Tryd.func42 (by kernel_rfl) rfl
  · exact enters_of Tryd.func43 (by kernel_rfl) rfl
  · exact enters_of Tryd.func44 (by kernel_rfl) rfl
  · exact enters_of Tryd.func41 (by kernel_rfl) rfl
  · exact enters_of Tryd.func45 (by kernel_rfl) rfl
  · exact enters_of Tryd.func46 (by kernel_rfl) rfl
theorem head_at {src : List UInt8} {i : Nat} {b : UInt8} (h : src[i]? = some b) : (src.drop i).headD 0 = b := by
  have h1 : (src.drop i)[0]? = some b := by rw [List.getElem?_drop]; exact h
  cases hd : src.drop i with
  | nil => rw [hd] at h1; cases h1
  | cons c r => rw [hd] at h1; simpa using h1
/-- One step, whatever the class. -/
theorem step_any (sb lo : Nat) (src : List UInt8) (i : Nat) (b : UInt8) (v : Value) (out : List Tk) (w : World) (hS : SC w sb lo src i v out) (hK : KT w) (hb : src[i]? = some b) (hl : src.length ≤ 1000000) (ho : out.length ≤ i) :
    Calls Tryd.prog (fnc (cl b)) #[.pointer (some ⟨sb, 0, none⟩)] w (StP (st (src.drop i)) sb lo src i out w) := by
  have hi : i < src.length := (List.getElem?_eq_some_iff.1 hb).1
  unfold st
  rw [head_at hb]
  rcases cl7 b with e | e | e | e | e | e | e <;> rw [e]
  · exact refuse_any sb lo src i v out w hS
  · exact passBlank_any sb lo src i v out w hS (by omega)
  · exact takeName_any sb lo src i v out w hS hK hi hl ho
  · refine takeNumber_any sb lo src i v out w hS hK hi hl ho ?_
    cases hd : src.drop i with
    | nil => have := congrArg List.length hd; rw [List.length_drop] at this; simp at this; omega
    | cons c r =>
      have h1 := head_at hb
      rw [hd] at h1
      simp at h1
      subst h1
      rw [tw_cons (cl3 e)]
      simp
  · exact refuse_any sb lo src i v out w hS
  · exact takeSign_any sb lo src i v out w hS hi hl ho
  · exact slash_any sb lo src i v out w hS hi hl ho

/-- What scan does. -/
def ScanP (r : Rs) (sb : Nat) (src : List UInt8) (w : World) (e : Ending) (w' : World) : Prop :=
  match r with
  | .ok ts => e = .returned (.tuple #[]) ∧ (∃ lo v i, SC w' sb lo src i v ts) ∧ Below sb w w'
  | .no j => e = .panicked [{ v := .iface 42 (.int .i64 (j : Int)), recovered := false }] ∧ Below sb w w'
theorem ScanP.ok {ts : List Tk} {sb : Nat} {src : List UInt8} {w w' : World} {lo i : Nat} {v : Value} (h1 : SC w' sb lo src i v ts) (h2 : Below sb w w') : ScanP (.ok ts) sb src w (.returned (.tuple #[])) w' := ⟨rfl, ⟨lo, v, i, h1⟩, h2⟩
theorem ScanP.no {j sb : Nat} {src : List UInt8} {w w' : World} (h2 : Below sb w w') : ScanP (.no j) sb src w (.panicked [{ v := .iface 42 (.int .i64 (j : Int)), recovered := false }]) w' := ⟨rfl, h2⟩
def fns : Array Value := #[.func (.func 41) #[] #[], .func (.func 42) #[] #[], .func (.func 43) #[] #[], .func (.func 44) #[] #[], .func (.func 41) #[] #[], .func (.func 45) #[] #[], .func (.func 46) #[] #[]]
theorem fns_at (c : Nat) (hc : c < 7) : fns[c]? = some (.func (.func (fnc c)) #[] #[]) := by
  have h : c = 0 ∨ c = 1 ∨ c = 2 ∨ c = 3 ∨ c = 4 ∨ c = 5 ∨ c = 6 := by omega
  rcases h with rfl | rfl | rfl | rfl | rfl | rfl | rfl <;> rfl

set_option maxHeartbeats 4000000 in
set_option maxRecDepth 100000 in
theorem scan_any (sb : Nat) (src : List UInt8) (w : World) (hX : Box w sb #[.string (bs src), .int .i64 0, .slice none 0 0] 45) (hK : KT w) (h0 : 0 < sb) (hl : src.length ≤ 1000000) :
    Calls Tryd.prog 25 #[.pointer (some ⟨sb, 0, none⟩)] w (ScanP (lex src) sb src w) := by
  have hsb := hX.lt
  have hal := (Below.refl w.heap.size w).alloc (Nat.le_refl _) (.cells fns 56)
  have HX1 := Lib.hid (hX.below hal)
  have HF1 := Lib.hid (Box.new w fns 56)
  have HB1 := Lib.hid hal
  have HK1 := Lib.hid (hK.below hal)
  have HZ1 := Lib.hid (show (w.alloc (.cells fns 56)).heap.size = w.heap.size + 1 from World.size_alloc _ _)
  have HSB := Lib.hid (And.intro h0 hsb)
  obtain ⟨L, hL⟩ : ∃ L, src.length = L := ⟨_, rfl⟩
  have HL := Lib.hid hL
  rw [hL] at hl
  clear hX hK hal hsb h0 hL
  unfold fns at HX1 HF1 HB1 HK1 HZ1
  go_enter Tryd.func25, Tryd.ntmps25
  go_wp2_with fail
  generalize w.alloc (.cells #[.func (.func 41) #[] #[], .func (.func 42) #[] #[], .func (.func 43) #[] #[], .func (.func 44) #[] #[], .func (.func 41) #[] #[], .func (.func 45) #[] #[], .func (.func 46) #[] #[]] 56) = W1 at *
  obtain ⟨fb, hfb⟩ : ∃ fb, w.heap.size = fb := ⟨_, rfl⟩
  rw [hfb] at HF1 HB1 HZ1 HSB ⊢
  go_loopg [] L (fun k wr => ∃ (i : Nat) (out : List Tk) (v : Value), k + i = L ∧ out.length ≤ i ∧ SC wr sb (fb + 1) src i v out ∧ Fr sb (fb + 1) W1 wr ∧ lex src = (lxr src i).pre out)
  case atStart =>
    refine ⟨0, [], .slice none 0 0, by omega, Nat.le_refl _, ⟨HX1.out, World.ownsRow_nil _ _ _ _, by have := HSB.out.2; omega, by rw [HZ1.out]; exact Nat.le_refl _⟩, Fr.refl _ _ _, ?_⟩
    rw [Rs.pre_nil]
    exact (lxr_zero src).symm
  case round =>
    obtain ⟨i, out, v, hk, ho, hS, hF, hlx⟩ := hrel
    have HS := Lib.hid hS
    have HF := Lib.hid hF
    have HO := Lib.hid ho
    have HLX := Lib.hid hlx
    have HKW := Lib.hid (hF.kt HK1.out (Nat.succ_pos _) HSB.out.1)
    have hiL : i ≤ L := by omega
    have HGK := Lib.hid hk
    have c0 := hS.box.cell 0
    have c1 := hS.box.cell 1
    have hlen : ∀ wx, (Builtin.len_ #[9] 3 #[.string (bs src)]).run Tryd.prog wx = .ok (.int .i64 (L : Int)) wx := fun wx => by rw [bs_len src _ _ Tryd.underlying9, HL.out]
    have HBD := Lib.hid (fun nq => below_drewN wr nq)
    clear hS hF ho hlx hk
    by_cases hi : i < L
    case neg =>
      obtain rfl : i = L := by omega
      have hd : decide ((i : Int) < (i : Int)) = false := decide_eq_false (by omega)
      have HE := Lib.hid (show lex src = .ok out from by rw [HLX.out, lxr_end src i (by rw [HL.out]; exact Nat.le_refl _)]; simp [Rs.pre])
      go_upto_region 1 with fail
      go_quiet (fail)
      clear c0 c1
      go_wp2_with fail
      refine bodyPost_end (results_none Tryd.results25 _ _ _) rfl ?_
      rw [HE.out]
      exact ScanP.ok (HS.out.below (HBD.out nq)) ((HB1.out.mono (Nat.le_of_lt HSB.out.2)).trans ((HF.out.below (Nat.le_refl _) (by have := HSB.out.2; omega)).trans ((HBD.out nq).mono (by have := HS.out.box.lt; omega))))
    have hd : decide ((i : Int) < (L : Int)) = true := decide_eq_true (by omega)
    obtain ⟨b, hb⟩ : ∃ b, src[i]? = some b := ⟨_, List.getElem?_eq_getElem (by rw [HL.out]; exact hi)⟩
    have hix : ∀ wx, (Instr.index 9 (.string (bs src)) (.int .i64 (i : Int))).run Tryd.prog wx = .ok (bv b) wx := fun wx => bs_idx hb _ Tryd.underlying9 wx
    have HB := Lib.hid hb
    have HCL := Lib.hid (fun q n => quietL (w := wr.drewN q) (n := n) ((classOf_any b ((wr.drewN q).drewN n) ((HKW.out.below (HBD.out q)).below (below_drewN _ n))).mono fun e w' h => ⟨h.1, h.2.symm⟩))
    have HST := Lib.hid (fun V (hb2 : Below wr.heap.size wr V) => step_any sb (fb + 1) src i b v out V (HS.out.below hb2) (HKW.out.below hb2) hb (by rw [HL.out]; exact hl) HO.out)
    have hcl := cl_lt b
    have hfa := (HF.out.box HF1.out (by omega) (by have := HSB.out.2; omega)).cell (cl b)
    have hfn := fns_at (cl b) hcl
    unfold fns at hfn
    rw [hfn] at hfa
    have eg := fnc_enters (cl b) hcl
    clear hfn hb
    obtain ⟨c, hc⟩ : ∃ c, cl b = c := ⟨_, rfl⟩
    obtain ⟨fc, hfc⟩ : ∃ fc, fnc c = fc := ⟨_, rfl⟩
    rw [hc] at HCL HST hcl hfa eg
    rw [hfc] at HST hfa eg
    have hcI : (c : Int) < 7 := by omega
    have hc0 : (0 : Int) ≤ (c : Int) := by omega
    clear hc hfc
    go_upto_region 1 with fail
    go_quiet (fail)
    have d0 : (wr.drewN nq).cell? ⟨sb, 0, none⟩ = some (.string (bs src)) := c0
    have d1 : (wr.drewN nq).cell? ⟨sb, 1, none⟩ = some (.int .i64 (i : Int)) := c1
    have dfa : (wr.drewN nq).cell? ⟨fb, c, none⟩ = some (.func (.func fc) #[] #[]) := hfa
    clear c0 c1 hfa
    have HB2 := Lib.hid (HBD.out nq)
    have HCQ := Lib.hid (fun n => HCL.out nq n)
    clear HCL HBD
    go_upto_region 2 with fail
    generalize wr.drewN nq = W2 at *
    refine region_tail_drew 13 (by kernel_rfl) (by kernel_rfl) ?_
    simp only [List.take_succ_cons, List.take_zero, List.drop_succ_cons, List.drop_zero]
    have HQ := Lib.hid (fun n => show Calls Tryd.prog 47 #[bv b] (W2.drewN n) (fun e w'' => e = .returned (.int .u8 (c : Int)) ∧ ∃ m, w'' = W2.drewN m) from HCQ.out n)
    repeat (quiet_step ((go_at_call 47; exact HQ.out _)))
    refine wpQuiet_nil ?_
    intro _ hw'
    obtain ⟨n2, rfl⟩ := hw'
    have HB3 := Lib.hid (HB2.out.trans ((below_drewN W2 n2).mono HB2.out.size))
    clear HQ HCQ HB2 d0 d1 dfa hix hlen
    generalize W2.drewN n2 = W3 at *
    have HFE := Lib.hid (HF.out.trans (Fr.of_below (HB3.out.mono HS.out.size)))
    have hst := HST.out W3 HB3.out
    cases hs : st (src.drop i) with
    | bad =>
      rw [hs] at hst
      have HC := Lib.hid hst
      have HE := Lib.hid (show lex src = .no i from by rw [HLX.out, lxr_bad (by rw [HL.out]; exact hi) hs]; rfl)
      unfold StP BadP at HC
      clear hst HST hs
      go_wp2_with fail
      refine HC.out.mono ?_
      rintro e w4 ⟨rfl, hf4⟩
      have HG := Lib.hid (HFE.out.trans hf4)
      clear hf4
      go_wp2_with fail
      refine ⟨rfl, ?_⟩
      rw [HE.out]
      exact ScanP.no ((HB1.out.mono (Nat.le_of_lt HSB.out.2)).trans (HG.out.below (Nat.le_refl _) (by have := HSB.out.2; omega)))
    | skip m =>
      rw [hs] at hst
      have HC := Lib.hid hst
      have HE := Lib.hid (lxr_skip (by rw [HL.out]; exact hi) hs)
      unfold StP TakeP at HC
      clear hst HST hs
      go_wp2_with fail
      refine HC.out.mono ?_
      rintro e w4 ⟨rfl, ⟨v4, hs4⟩, hf4⟩
      have HG := Lib.hid (And.intro (HFE.out.trans hf4) hs4)
      clear hf4 hs4
      go_wp2_with fail
      go_roundg (L - (i + m))
      case rel => exact ⟨i + m, out, v4, by have h1 := HE.out.2.1; have h2 := HL.out; omega, by have h1 := HO.out; omega, HG.out.2, HG.out.1, by rw [HLX.out, HE.out.2.2]⟩
      case measure => have h0 := HGK.out; have h1 := HE.out.1; have h2 := HE.out.2.1; have h3 := HL.out; omega
    | tok k t n m =>
      rw [hs] at hst
      have HC := Lib.hid hst
      have HE := Lib.hid (lxr_tok (by rw [HL.out]; exact hi) hs)
      unfold StP TakeP at HC
      clear hst HST hs
      go_wp2_with fail
      refine HC.out.mono ?_
      rintro e w4 ⟨rfl, ⟨v4, hs4⟩, hf4⟩
      have HG := Lib.hid (And.intro (HFE.out.trans hf4) hs4)
      clear hf4 hs4
      go_wp2_with fail
      go_roundg (L - (i + m))
      case rel => exact ⟨i + m, out ++ [⟨k, t, n, i⟩], v4, by have h1 := HE.out.2.1; have h2 := HL.out; omega, by rw [List.length_append]; have h1 := HO.out; have h2 := HE.out.1; show out.length + 1 ≤ i + m; omega, HG.out.2, HG.out.1, by rw [HLX.out, HE.out.2.2, Rs.pre_pre]⟩
      case measure => have h0 := HGK.out; have h1 := HE.out.1; have h2 := HE.out.2.1; have h3 := HL.out; omega
end Go.Proofs.YticepaljociefaaDoor
