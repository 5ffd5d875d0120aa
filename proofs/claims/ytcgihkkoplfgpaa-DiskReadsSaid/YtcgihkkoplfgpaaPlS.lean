/- Plain words for reads behind two writes and a sync. -/
import Derived.Test.YtcgihkkoplfgpaaPlR
namespace Go.Proofs.Ytcgihkkoplfgpaa
set_option linter.unusedVariables false

theorem rde_cases (d : Dk) (o : Int) : rde d o = 0 ∨ rde d o = 70 := by unfold rde; split <;> simp
theorem wre_cases (d : Dk) (k : Int) (b : List UInt8) : wre d k b = 0 ∨ wre d k b = 70 ∨ wre d k b = 1 ∨ wre d k b = 2 := by unfold wre; split <;> (try split) <;> (try split) <;> simp
theorem sye_cases (d : Dk) : sye d = 0 ∨ sye d = 70 := by unfold sye; split <;> simp
theorem rng_has {d : Dk} {o : Int} (h : rde d o = 0) : rng d = true ∧ has d o = true := rde_zero.1 h
/-- After a write. -/
theorem reads_one {d : Dk} {k o : Int} {b : List UInt8} (ho : rde d o = 0) (h : wre d k b = 0) (hb : b.length ≤ 128) :
    rde (wr d k b) o = 0 ∧ rde (wr d k b) k = 0 ∧ rd (wr d k b) k = sec b ∧ (k ≠ o → rd (wr d k b) o = rd d o) ∧ (sec b).take b.length = b := by
  obtain ⟨h1, h2, h3, h4, h5⟩ := wr_ok h
  obtain ⟨g1, g2⟩ := rd_wr h ho
  have hk : rde d k = 0 := rde_zero.2 ⟨h1, h2⟩
  obtain ⟨g3, g4⟩ := rd_wr h hk
  refine ⟨g1, g3, by rw [g4, if_pos rfl], fun hne => by rw [g2, if_neg hne], ?_⟩
  unfold sec
  rw [List.take_append_of_le_length (by rw [List.length_take]; omega), List.take_take, List.take_of_length_le (by omega)]
/-- Another write either finds no room or succeeds. -/
theorem reads_two {x : Dk} {o : Int} {c : List UInt8} (ho : rde x o = 0) (hc : c.length ≤ 128) : wre x o c = 0 ∨ wre x o c = 2 := by
  obtain ⟨h1, h2⟩ := rde_zero.1 ho
  unfold wre
  rw [h1, h2, if_neg (by decide), if_neg (by omega)]
  split <;> simp
/-- A sync. -/
theorem reads_sync {y : Dk} (hr : rng y = true) : (sye y = 0 ∧ (sy y).pend.length = 0 ∧ chk (sy y) = 0 ∧ ∀ k : Nat, k < y.secs.length → rde y k = 0 ∧ rde (sy y) k = 0 ∧ rd (sy y) k = rd y k) ∨ (sye y = 70 ∧ (sy y).stop = true) := by
  by_cases h : sye y = 0
  · left
    have hv := (rng_facts (sy_rng h)).1
    refine ⟨h, by rw [(sy_ok h).2.2]; rfl, by unfold chk; rw [hv]; rfl, fun k hk => ?_⟩
    have hh : has y k = true := by unfold has; simp; omega
    obtain ⟨g1, g2⟩ := rd_sy h hh
    exact ⟨rde_zero.2 ⟨hr, hh⟩, g1, g2⟩
  · right
    obtain ⟨g1, g2, _⟩ := sy_stop h hr
    exact ⟨g1, g2⟩
theorem wr_secs {d : Dk} {k : Int} {b : List UInt8} (h : wre d k b = 0) : (wr d k b).secs = d.secs := by rw [(wr_ok h).2.2.2.2]
end Go.Proofs.Ytcgihkkoplfgpaa
