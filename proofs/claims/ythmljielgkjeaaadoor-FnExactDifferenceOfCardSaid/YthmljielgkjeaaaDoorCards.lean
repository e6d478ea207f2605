/-
  DERIVED. GIVEN WITH THE SEED: THE CARDS: each row of YthmljielgkjeaaaDoorRows.lean that lists a variable, with what it lists TIED to the program's text (the seventh form; the later family's looks); each row that meets fmt, with fmt's text TOLD by the authors' own Lean function (tested against real Go, not proved from fmt's source: count such statements apart). THE CARD IS WHAT COUNTS. Prove the row's statement (the work); the ties are given (YthmljielgkjeaaaDoorTie.lean); close each card by the builder's one call (the guide's Derived/Test/ToyasCard.lean, 'card_holds'). Laid BY PROGRAM, IN A SANDBOX (cutbox-door.mjs). By AI agents, Wed Nov 11 2026. No macro, syntax, notation, axiom, sorry.
-/
import Derived.Test.YthmljielgkjeaaaDoorRows
import GoSem.ClaimSeven
namespace Go.Proofs.YthmljielgkjeaaaDoor
namespace Rows

/-- THE TIED CARD OF 'laws.FnExactContrastOf'. -/
def fnExactContrastOfCard : Claim7 := { stood := { row := fnExactContrastOfRow, standIns := [], harness := (true, "73572efa38ad81d87aa0d9b42eec64b88a62a40c57b651ff92e5739338ed301b"), looks := true }, kinds := [], alts := [], laidByText := true, laidKinds := [.sentinel], laidTests := true, laidLooks := .later }
def FnExactContrastOfCardSaid : Prop := Claim7.holds Tryd.pinned (.plain (OpenSpec.ofChange fnExactContrastOfSpec)) fnExactContrastOfCard

/-- THE TIED CARD OF 'laws.FnExactDifferenceOf'. -/
def fnExactDifferenceOfCard : Claim7 := { stood := { row := fnExactDifferenceOfRow, standIns := [], harness := (true, "73572efa38ad81d87aa0d9b42eec64b88a62a40c57b651ff92e5739338ed301b"), looks := true }, kinds := [], alts := [], laidByText := true, laidKinds := [.sentinel], laidTests := true, laidLooks := .later }
def FnExactDifferenceOfCardSaid : Prop := Claim7.holds Tryd.pinned (.plain (OpenSpec.ofChange fnExactDifferenceOfSpec)) fnExactDifferenceOfCard

/-- THE TIED CARD OF 'laws.FnExactHalftoneOf'. -/
def fnExactHalftoneOfCard : Claim7 := { stood := { row := fnExactHalftoneOfRow, standIns := [], harness := (true, "73572efa38ad81d87aa0d9b42eec64b88a62a40c57b651ff92e5739338ed301b"), looks := true }, kinds := [], alts := [], laidByText := true, laidKinds := [.sentinel], laidTests := true, laidLooks := .later }
def FnExactHalftoneOfCardSaid : Prop := Claim7.holds Tryd.pinned (.plain (OpenSpec.ofChange fnExactHalftoneOfSpec)) fnExactHalftoneOfCard

/-- THE SECOND FORM's CARD OF 'laws.FnExactContrastOf'. -/
def fnExactContrastOfUptoCard : Claim7 := { stood := { row := fnExactContrastOfUptoRow, standIns := [], harness := (true, "73572efa38ad81d87aa0d9b42eec64b88a62a40c57b651ff92e5739338ed301b"), looks := true }, kinds := [], alts := [], laidByText := true, laidKinds := [.sentinel], laidTests := true, laidLooks := .later }
def FnExactContrastOfUptoCardSaid : Prop := Claim7.holds Tryd.pinned (.plain (OpenSpec.upto fnExactContrastOfSpec)) fnExactContrastOfUptoCard

/-- THE SECOND FORM's CARD OF 'laws.FnExactDifferenceOf'. -/
def fnExactDifferenceOfUptoCard : Claim7 := { stood := { row := fnExactDifferenceOfUptoRow, standIns := [], harness := (true, "73572efa38ad81d87aa0d9b42eec64b88a62a40c57b651ff92e5739338ed301b"), looks := true }, kinds := [], alts := [], laidByText := true, laidKinds := [.sentinel], laidTests := true, laidLooks := .later }
def FnExactDifferenceOfUptoCardSaid : Prop := Claim7.holds Tryd.pinned (.plain (OpenSpec.upto fnExactDifferenceOfSpec)) fnExactDifferenceOfUptoCard

/-- THE SECOND FORM's CARD OF 'laws.FnExactHalftoneOf'. -/
def fnExactHalftoneOfUptoCard : Claim7 := { stood := { row := fnExactHalftoneOfUptoRow, standIns := [], harness := (true, "73572efa38ad81d87aa0d9b42eec64b88a62a40c57b651ff92e5739338ed301b"), looks := true }, kinds := [], alts := [], laidByText := true, laidKinds := [.sentinel], laidTests := true, laidLooks := .later }
def FnExactHalftoneOfUptoCardSaid : Prop := Claim7.holds Tryd.pinned (.plain (OpenSpec.upto fnExactHalftoneOfSpec)) fnExactHalftoneOfUptoCard
end Rows
end Go.Proofs.YthmljielgkjeaaaDoor
