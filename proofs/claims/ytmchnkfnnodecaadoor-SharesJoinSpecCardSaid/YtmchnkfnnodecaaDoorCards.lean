/-
  DERIVED. GIVEN WITH THE SEED: THE CARDS: each row of YtmchnkfnnodecaaDoorRows.lean that lists a variable, with what it lists TIED to the program's text (the seventh form; the later family's looks); each row that meets fmt, with fmt's text TOLD by the authors' own Lean function (tested against real Go, not proved from fmt's source: count such statements apart). THE CARD IS WHAT COUNTS. Prove the row's statement (the work); the ties are given (YtmchnkfnnodecaaDoorTie.lean); close each card by the builder's one call (the guide's Derived/Test/ToyasCard.lean, 'card_holds'). Laid BY PROGRAM, IN A SANDBOX (cutbox-door.mjs). By AI agents, Wed Nov 11 2026. No macro, syntax, notation, axiom, sorry.
-/
import Derived.Test.YtmchnkfnnodecaaDoorRows
import GoSem.ClaimSeven
namespace Go.Proofs.YtmchnkfnnodecaaDoor
namespace Rows

/-- THE TIED CARD OF 'gridwrightlaw06.SharesSplitSpec'. -/
def sharesSplitSpecCard : Claim7 := { stood := { row := sharesSplitSpecRow, standIns := [], harness := (true, "1d80c5e7be86f819bc5db5423394dc2abcb2cbb26f79ef3c8e669f4f5ad4b2c3"), looks := false }, kinds := [], alts := [], laidByText := true, laidKinds := [.data], laidTests := true, laidLooks := .later }
def SharesSplitSpecCardSaid : Prop := Claim7.holds Tryd.pinned (.plain (OpenSpec.ofChange sharesSplitSpecSpec)) sharesSplitSpecCard

/-- THE TIED CARD OF 'gridwrightlaw06.SharesJoinSpec'. -/
def sharesJoinSpecCard : Claim7 := { stood := { row := sharesJoinSpecRow, standIns := [], harness := (true, "1d80c5e7be86f819bc5db5423394dc2abcb2cbb26f79ef3c8e669f4f5ad4b2c3"), looks := false }, kinds := [], alts := [], laidByText := true, laidKinds := [.data], laidTests := true, laidLooks := .later }
def SharesJoinSpecCardSaid : Prop := Claim7.holds Tryd.pinned (.plain (OpenSpec.ofChange sharesJoinSpecSpec)) sharesJoinSpecCard

/-- THE TIED CARD OF 'gridwrightlaw06.SharesExplainSpec'. -/
def sharesExplainSpecCard : Claim7 := { stood := { row := sharesExplainSpecRow, standIns := [], harness := (true, "1d80c5e7be86f819bc5db5423394dc2abcb2cbb26f79ef3c8e669f4f5ad4b2c3"), looks := false }, kinds := [], alts := [], laidByText := true, laidKinds := [.data], laidTests := true, laidLooks := .later }
def SharesExplainSpecCardSaid : Prop := Claim7.holds Tryd.pinned (.plain (OpenSpec.ofChange sharesExplainSpecSpec)) sharesExplainSpecCard

/-- THE TIED CARD OF 'gridwrightlaw06.SharesHide'. -/
def sharesHideCard : Claim7 := { stood := { row := sharesHideRow, standIns := [], harness := (true, "1d80c5e7be86f819bc5db5423394dc2abcb2cbb26f79ef3c8e669f4f5ad4b2c3"), looks := false }, kinds := [], alts := [], laidByText := true, laidKinds := [.data], laidTests := true, laidLooks := .later }
def SharesHideCardSaid : Prop := Claim7.holds Tryd.pinned (.plain (OpenSpec.ofChange sharesHideSpec)) sharesHideCard

/-- THE TIED CARD OF 'gridwrightlaw06.SharesRefresh'. -/
def sharesRefreshCard : Claim7 := { stood := { row := sharesRefreshRow, standIns := [], harness := (true, "1d80c5e7be86f819bc5db5423394dc2abcb2cbb26f79ef3c8e669f4f5ad4b2c3"), looks := false }, kinds := [], alts := [], laidByText := true, laidKinds := [.data], laidTests := true, laidLooks := .later }
def SharesRefreshCardSaid : Prop := Claim7.holds Tryd.pinned (.plain (OpenSpec.ofChange sharesRefreshSpec)) sharesRefreshCard

/-- THE TIED CARD OF 'gridwrightlaw06.SharesAny'. -/
def sharesAnyCard : Claim7 := { stood := { row := sharesAnyRow, standIns := [], harness := (true, "1d80c5e7be86f819bc5db5423394dc2abcb2cbb26f79ef3c8e669f4f5ad4b2c3"), looks := false }, kinds := [], alts := [], laidByText := true, laidKinds := [.data], laidTests := true, laidLooks := .later }
def SharesAnyCardSaid : Prop := Claim7.holds Tryd.pinned (.plain (OpenSpec.ofChange sharesAnySpec)) sharesAnyCard

/-- THE TIED CARD OF 'gridwrightlaw06.SharesSum'. -/
def sharesSumCard : Claim7 := { stood := { row := sharesSumRow, standIns := [], harness := (true, "1d80c5e7be86f819bc5db5423394dc2abcb2cbb26f79ef3c8e669f4f5ad4b2c3"), looks := false }, kinds := [], alts := [], laidByText := true, laidKinds := [.data], laidTests := true, laidLooks := .later }
def SharesSumCardSaid : Prop := Claim7.holds Tryd.pinned (.plain (OpenSpec.ofChange sharesSumSpec)) sharesSumCard

/-- THE SECOND FORM's CARD OF 'gridwrightlaw06.SharesSplitSpec'. -/
def sharesSplitSpecUptoCard : Claim7 := { stood := { row := sharesSplitSpecUptoRow, standIns := [], harness := (true, "1d80c5e7be86f819bc5db5423394dc2abcb2cbb26f79ef3c8e669f4f5ad4b2c3"), looks := false }, kinds := [], alts := [], laidByText := true, laidKinds := [.data], laidTests := true, laidLooks := .later }
def SharesSplitSpecUptoCardSaid : Prop := Claim7.holds Tryd.pinned (.plain (OpenSpec.upto sharesSplitSpecSpec)) sharesSplitSpecUptoCard

/-- THE SECOND FORM's CARD OF 'gridwrightlaw06.SharesJoinSpec'. -/
def sharesJoinSpecUptoCard : Claim7 := { stood := { row := sharesJoinSpecUptoRow, standIns := [], harness := (true, "1d80c5e7be86f819bc5db5423394dc2abcb2cbb26f79ef3c8e669f4f5ad4b2c3"), looks := false }, kinds := [], alts := [], laidByText := true, laidKinds := [.data], laidTests := true, laidLooks := .later }
def SharesJoinSpecUptoCardSaid : Prop := Claim7.holds Tryd.pinned (.plain (OpenSpec.upto sharesJoinSpecSpec)) sharesJoinSpecUptoCard

/-- THE SECOND FORM's CARD OF 'gridwrightlaw06.SharesExplainSpec'. -/
def sharesExplainSpecUptoCard : Claim7 := { stood := { row := sharesExplainSpecUptoRow, standIns := [], harness := (true, "1d80c5e7be86f819bc5db5423394dc2abcb2cbb26f79ef3c8e669f4f5ad4b2c3"), looks := false }, kinds := [], alts := [], laidByText := true, laidKinds := [.data], laidTests := true, laidLooks := .later }
def SharesExplainSpecUptoCardSaid : Prop := Claim7.holds Tryd.pinned (.plain (OpenSpec.upto sharesExplainSpecSpec)) sharesExplainSpecUptoCard

/-- THE SECOND FORM's CARD OF 'gridwrightlaw06.SharesHide'. -/
def sharesHideUptoCard : Claim7 := { stood := { row := sharesHideUptoRow, standIns := [], harness := (true, "1d80c5e7be86f819bc5db5423394dc2abcb2cbb26f79ef3c8e669f4f5ad4b2c3"), looks := false }, kinds := [], alts := [], laidByText := true, laidKinds := [.data], laidTests := true, laidLooks := .later }
def SharesHideUptoCardSaid : Prop := Claim7.holds Tryd.pinned (.plain (OpenSpec.upto sharesHideSpec)) sharesHideUptoCard

/-- THE SECOND FORM's CARD OF 'gridwrightlaw06.SharesRefresh'. -/
def sharesRefreshUptoCard : Claim7 := { stood := { row := sharesRefreshUptoRow, standIns := [], harness := (true, "1d80c5e7be86f819bc5db5423394dc2abcb2cbb26f79ef3c8e669f4f5ad4b2c3"), looks := false }, kinds := [], alts := [], laidByText := true, laidKinds := [.data], laidTests := true, laidLooks := .later }
def SharesRefreshUptoCardSaid : Prop := Claim7.holds Tryd.pinned (.plain (OpenSpec.upto sharesRefreshSpec)) sharesRefreshUptoCard

/-- THE SECOND FORM's CARD OF 'gridwrightlaw06.SharesAny'. -/
def sharesAnyUptoCard : Claim7 := { stood := { row := sharesAnyUptoRow, standIns := [], harness := (true, "1d80c5e7be86f819bc5db5423394dc2abcb2cbb26f79ef3c8e669f4f5ad4b2c3"), looks := false }, kinds := [], alts := [], laidByText := true, laidKinds := [.data], laidTests := true, laidLooks := .later }
def SharesAnyUptoCardSaid : Prop := Claim7.holds Tryd.pinned (.plain (OpenSpec.upto sharesAnySpec)) sharesAnyUptoCard

/-- THE SECOND FORM's CARD OF 'gridwrightlaw06.SharesSum'. -/
def sharesSumUptoCard : Claim7 := { stood := { row := sharesSumUptoRow, standIns := [], harness := (true, "1d80c5e7be86f819bc5db5423394dc2abcb2cbb26f79ef3c8e669f4f5ad4b2c3"), looks := false }, kinds := [], alts := [], laidByText := true, laidKinds := [.data], laidTests := true, laidLooks := .later }
def SharesSumUptoCardSaid : Prop := Claim7.holds Tryd.pinned (.plain (OpenSpec.upto sharesSumSpec)) sharesSumUptoCard
end Rows
end Go.Proofs.YtmchnkfnnodecaaDoor
