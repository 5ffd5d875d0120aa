/-
  DERIVED. GIVEN WITH THE SEED: THE CARDS: each row of YtjkojjimlebmjaaDoorRows.lean that lists a variable, with what it lists TIED to the program's text (the seventh form; the later family's looks); each row that meets fmt, with fmt's text TOLD by the authors' own Lean function (tested against real Go, not proved from fmt's source: count such statements apart). THE CARD IS WHAT COUNTS. Prove the row's statement (the work); the ties are given (YtjkojjimlebmjaaDoorTie.lean); close each card by the builder's one call (the guide's Derived/Test/ToyasCard.lean, 'card_holds'). Laid BY PROGRAM, IN A SANDBOX (cutbox-door.mjs). By AI agents, Wed Nov 11 2026. No macro, syntax, notation, axiom, sorry.
-/
import Derived.Test.YtjkojjimlebmjaaDoorRows
import GoSem.ClaimSeven
namespace Go.Proofs.YtjkojjimlebmjaaDoor
namespace Rows

/-- THE TIED CARD OF 'gridwrightlaw06.SharesExplainSpec'. -/
def sharesExplainSpecCard : Claim7 := { stood := { row := sharesExplainSpecRow, standIns := [], harness := (true, "fbfff47de53626d9e4bb850efd05512c8a98304beec1f30e508bbe9bc91b986d"), looks := false }, kinds := [], alts := [], laidByText := true, laidKinds := [.data], laidTests := true, laidLooks := .later }
def SharesExplainSpecCardSaid : Prop := Claim7.holds Tryd.pinned (.plain (OpenSpec.ofChange sharesExplainSpecSpec)) sharesExplainSpecCard

/-- THE SECOND FORM's CARD OF 'gridwrightlaw06.SharesExplainSpec'. -/
def sharesExplainSpecUptoCard : Claim7 := { stood := { row := sharesExplainSpecUptoRow, standIns := [], harness := (true, "fbfff47de53626d9e4bb850efd05512c8a98304beec1f30e508bbe9bc91b986d"), looks := false }, kinds := [], alts := [], laidByText := true, laidKinds := [.data], laidTests := true, laidLooks := .later }
def SharesExplainSpecUptoCardSaid : Prop := Claim7.holds Tryd.pinned (.plain (OpenSpec.upto sharesExplainSpecSpec)) sharesExplainSpecUptoCard
end Rows
end Go.Proofs.YtjkojjimlebmjaaDoor
