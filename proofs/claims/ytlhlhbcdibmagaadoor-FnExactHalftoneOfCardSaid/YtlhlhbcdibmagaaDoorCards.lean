/-
  DERIVED. GIVEN WITH THE SEED: THE CARDS: each row of YtlhlhbcdibmagaaDoorRows.lean that lists a variable, with what it lists TIED to the program's text (the seventh form; the later family's looks); each row that meets fmt, with fmt's text TOLD by the authors' own Lean function (tested against real Go, not proved from fmt's source: count such statements apart). THE CARD IS WHAT COUNTS. Prove the row's statement (the work); the ties are given (YtlhlhbcdibmagaaDoorTie.lean); close each card by the builder's one call (the guide's Derived/Test/ToyasCard.lean, 'card_holds'). Laid BY PROGRAM, IN A SANDBOX (cutbox-door.mjs). By AI agents, Wed Nov 11 2026. No macro, syntax, notation, axiom, sorry.
-/
import Derived.Test.YtlhlhbcdibmagaaDoorRows
import GoSem.ClaimSeven
namespace Go.Proofs.YtlhlhbcdibmagaaDoor
namespace Rows

/-- THE TIED CARD OF 'laws.FnExactHalftoneOf'. -/
def fnExactHalftoneOfCard : Claim7 := { stood := { row := fnExactHalftoneOfRow, standIns := [], harness := (true, "e1b21c6d0bc92aeab396afc8824a8e17494802fc31eab48cb462a624a030d915"), looks := true }, kinds := [], alts := [], laidByText := true, laidKinds := [.sentinel], laidTests := true, laidLooks := .later }
def FnExactHalftoneOfCardSaid : Prop := Claim7.holds Tryd.pinned (.plain (OpenSpec.ofChange fnExactHalftoneOfSpec)) fnExactHalftoneOfCard

/-- THE SECOND FORM's CARD OF 'laws.FnExactHalftoneOf'. -/
def fnExactHalftoneOfUptoCard : Claim7 := { stood := { row := fnExactHalftoneOfUptoRow, standIns := [], harness := (true, "e1b21c6d0bc92aeab396afc8824a8e17494802fc31eab48cb462a624a030d915"), looks := true }, kinds := [], alts := [], laidByText := true, laidKinds := [.sentinel], laidTests := true, laidLooks := .later }
def FnExactHalftoneOfUptoCardSaid : Prop := Claim7.holds Tryd.pinned (.plain (OpenSpec.upto fnExactHalftoneOfSpec)) fnExactHalftoneOfUptoCard
end Rows
end Go.Proofs.YtlhlhbcdibmagaaDoor
