/-
  DERIVED. GIVEN WITH THE SEED: THE CARDS: each row of YthambmgibelpkaaDoorRows.lean that lists a variable, with what it lists TIED to the program's text (the seventh form; the later family's looks); each row that meets fmt, with fmt's text TOLD by the authors' own Lean function (tested against real Go, not proved from fmt's source: count such statements apart). THE CARD IS WHAT COUNTS. Prove the row's statement (the work); the ties are given (YthambmgibelpkaaDoorTie.lean); close each card by the builder's one call (the guide's Derived/Test/ToyasCard.lean, 'card_holds'). Laid BY PROGRAM, IN A SANDBOX (cutbox-door.mjs). By AI agents, Wed Nov 11 2026. No macro, syntax, notation, axiom, sorry.
-/
import Derived.Test.YthambmgibelpkaaDoorRows
import GoSem.ClaimSeven
namespace Go.Proofs.YthambmgibelpkaaDoor
namespace Rows

/-- THE TIED CARD OF 'laws.FnExactReadComplex'. -/
def fnExactReadComplexCard : Claim7 := { stood := { row := fnExactReadComplexRow, standIns := [], harness := (true, "4da346296e9c5a08fc3158bd726037539aacaefb40b924e13e86ed5733fdf960"), looks := false }, kinds := [], alts := [], laidByText := true, laidKinds := [.data, .pinned], laidTests := true, laidLooks := .later }
def FnExactReadComplexCardSaid : Prop := Claim7.holds Tryd.pinned (.plain (OpenSpec.ofChange fnExactReadComplexSpec)) fnExactReadComplexCard

/-- THE SECOND FORM's CARD OF 'laws.FnExactReadComplex'. -/
def fnExactReadComplexUptoCard : Claim7 := { stood := { row := fnExactReadComplexUptoRow, standIns := [], harness := (true, "4da346296e9c5a08fc3158bd726037539aacaefb40b924e13e86ed5733fdf960"), looks := false }, kinds := [], alts := [], laidByText := true, laidKinds := [.data, .pinned], laidTests := true, laidLooks := .later }
def FnExactReadComplexUptoCardSaid : Prop := Claim7.holds Tryd.pinned (.plain (OpenSpec.upto fnExactReadComplexSpec)) fnExactReadComplexUptoCard
end Rows
end Go.Proofs.YthambmgibelpkaaDoor
