/-
  DERIVED. GIVEN WITH THE SEED: THE CARDS: each row of YthfnimmfgmpdfaaDoorRows.lean that lists a variable, with what it lists TIED to the program's text (the seventh form; the later family's looks); each row that meets fmt, with fmt's text TOLD by the authors' own Lean function (tested against real Go, not proved from fmt's source: count such statements apart). THE CARD IS WHAT COUNTS. Prove the row's statement (the work); the ties are given (YthfnimmfgmpdfaaDoorTie.lean); close each card by the builder's one call (the guide's Derived/Test/ToyasCard.lean, 'card_holds'). Laid BY PROGRAM, IN A SANDBOX (cutbox-door.mjs). By AI agents, Wed Nov 11 2026. No macro, syntax, notation, axiom, sorry.
-/
import Derived.Test.YthfnimmfgmpdfaaDoorRows
import GoSem.ClaimSeven
namespace Go.Proofs.YthfnimmfgmpdfaaDoor
namespace Rows

/-- THE TIED CARD OF 'gridwrightlaw05.FieldMulSpec'. -/
def fieldMulSpecCard : Claim7 := { stood := { row := fieldMulSpecRow, standIns := [], harness := (true, "bb51ec9e754a27450ca425f6ea517d0d81fdf229cfca8aec541fd5e4e42750d9"), looks := false }, kinds := [], alts := [], laidByText := true, laidKinds := [.data], laidTests := true, laidLooks := .later }
def FieldMulSpecCardSaid : Prop := Claim7.holds Tryd.pinned (.plain (OpenSpec.ofChange fieldMulSpecSpec)) fieldMulSpecCard

/-- THE TIED CARD OF 'gridwrightlaw05.FieldAxioms'. -/
def fieldAxiomsCard : Claim7 := { stood := { row := fieldAxiomsRow, standIns := [], harness := (true, "bb51ec9e754a27450ca425f6ea517d0d81fdf229cfca8aec541fd5e4e42750d9"), looks := false }, kinds := [], alts := [], laidByText := true, laidKinds := [.data], laidTests := true, laidLooks := .later }
def FieldAxiomsCardSaid : Prop := Claim7.holds Tryd.pinned (.plain (OpenSpec.ofChange fieldAxiomsSpec)) fieldAxiomsCard

/-- THE TIED CARD OF 'gridwrightlaw05.FieldTwo'. -/
def fieldTwoCard : Claim7 := { stood := { row := fieldTwoRow, standIns := [], harness := (true, "bb51ec9e754a27450ca425f6ea517d0d81fdf229cfca8aec541fd5e4e42750d9"), looks := false }, kinds := [], alts := [], laidByText := true, laidKinds := [.data], laidTests := true, laidLooks := .later }
def FieldTwoCardSaid : Prop := Claim7.holds Tryd.pinned (.plain (OpenSpec.ofChange fieldTwoSpec)) fieldTwoCard

/-- THE TIED CARD OF 'gridwrightlaw05.FieldUnique'. -/
def fieldUniqueCard : Claim7 := { stood := { row := fieldUniqueRow, standIns := [], harness := (true, "bb51ec9e754a27450ca425f6ea517d0d81fdf229cfca8aec541fd5e4e42750d9"), looks := false }, kinds := [], alts := [], laidByText := true, laidKinds := [.data], laidTests := true, laidLooks := .later }
def FieldUniqueCardSaid : Prop := Claim7.holds Tryd.pinned (.plain (OpenSpec.ofChange fieldUniqueSpec)) fieldUniqueCard

/-- THE TIED CARD OF 'gridwrightlaw05.FieldValues'. -/
def fieldValuesCard : Claim7 := { stood := { row := fieldValuesRow, standIns := [], harness := (true, "bb51ec9e754a27450ca425f6ea517d0d81fdf229cfca8aec541fd5e4e42750d9"), looks := false }, kinds := [], alts := [], laidByText := true, laidKinds := [.data], laidTests := true, laidLooks := .later }
def FieldValuesCardSaid : Prop := Claim7.holds Tryd.pinned (.plain (OpenSpec.ofChange fieldValuesSpec)) fieldValuesCard

/-- THE SECOND FORM's CARD OF 'gridwrightlaw05.FieldMulSpec'. -/
def fieldMulSpecUptoCard : Claim7 := { stood := { row := fieldMulSpecUptoRow, standIns := [], harness := (true, "bb51ec9e754a27450ca425f6ea517d0d81fdf229cfca8aec541fd5e4e42750d9"), looks := false }, kinds := [], alts := [], laidByText := true, laidKinds := [.data], laidTests := true, laidLooks := .later }
def FieldMulSpecUptoCardSaid : Prop := Claim7.holds Tryd.pinned (.plain (OpenSpec.upto fieldMulSpecSpec)) fieldMulSpecUptoCard

/-- THE SECOND FORM's CARD OF 'gridwrightlaw05.FieldAxioms'. -/
def fieldAxiomsUptoCard : Claim7 := { stood := { row := fieldAxiomsUptoRow, standIns := [], harness := (true, "bb51ec9e754a27450ca425f6ea517d0d81fdf229cfca8aec541fd5e4e42750d9"), looks := false }, kinds := [], alts := [], laidByText := true, laidKinds := [.data], laidTests := true, laidLooks := .later }
def FieldAxiomsUptoCardSaid : Prop := Claim7.holds Tryd.pinned (.plain (OpenSpec.upto fieldAxiomsSpec)) fieldAxiomsUptoCard

/-- THE SECOND FORM's CARD OF 'gridwrightlaw05.FieldTwo'. -/
def fieldTwoUptoCard : Claim7 := { stood := { row := fieldTwoUptoRow, standIns := [], harness := (true, "bb51ec9e754a27450ca425f6ea517d0d81fdf229cfca8aec541fd5e4e42750d9"), looks := false }, kinds := [], alts := [], laidByText := true, laidKinds := [.data], laidTests := true, laidLooks := .later }
def FieldTwoUptoCardSaid : Prop := Claim7.holds Tryd.pinned (.plain (OpenSpec.upto fieldTwoSpec)) fieldTwoUptoCard

/-- THE SECOND FORM's CARD OF 'gridwrightlaw05.FieldUnique'. -/
def fieldUniqueUptoCard : Claim7 := { stood := { row := fieldUniqueUptoRow, standIns := [], harness := (true, "bb51ec9e754a27450ca425f6ea517d0d81fdf229cfca8aec541fd5e4e42750d9"), looks := false }, kinds := [], alts := [], laidByText := true, laidKinds := [.data], laidTests := true, laidLooks := .later }
def FieldUniqueUptoCardSaid : Prop := Claim7.holds Tryd.pinned (.plain (OpenSpec.upto fieldUniqueSpec)) fieldUniqueUptoCard

/-- THE SECOND FORM's CARD OF 'gridwrightlaw05.FieldValues'. -/
def fieldValuesUptoCard : Claim7 := { stood := { row := fieldValuesUptoRow, standIns := [], harness := (true, "bb51ec9e754a27450ca425f6ea517d0d81fdf229cfca8aec541fd5e4e42750d9"), looks := false }, kinds := [], alts := [], laidByText := true, laidKinds := [.data], laidTests := true, laidLooks := .later }
def FieldValuesUptoCardSaid : Prop := Claim7.holds Tryd.pinned (.plain (OpenSpec.upto fieldValuesSpec)) fieldValuesUptoCard
end Rows
end Go.Proofs.YthfnimmfgmpdfaaDoor
