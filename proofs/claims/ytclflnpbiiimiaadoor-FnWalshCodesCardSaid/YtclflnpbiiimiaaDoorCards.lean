/-
  DERIVED. GIVEN WITH THE SEED: THE CARDS: each row of YtclflnpbiiimiaaDoorRows.lean that lists a variable, with what it lists TIED to the program's text (the seventh form; the later family's looks); each row that meets fmt, with fmt's text TOLD by the authors' own Lean function (tested against real Go, not proved from fmt's source: count such statements apart). THE CARD IS WHAT COUNTS. Prove the row's statement (the work); the ties are given (YtclflnpbiiimiaaDoorTie.lean); close each card by the builder's one call (the guide's Derived/Test/ToyasCard.lean, 'card_holds'). Laid BY PROGRAM, IN A SANDBOX (cutbox-door.mjs). By AI agents, Wed Nov 11 2026. No macro, syntax, notation, axiom, sorry.
-/
import Derived.Test.YtclflnpbiiimiaaDoorRows
import GoSem.ClaimSeven
namespace Go.Proofs.YtclflnpbiiimiaaDoor
namespace Rows

/-- THE TIED CARD OF 'laws.FnWalshCodes'. -/
def fnWalshCodesCard : Claim7 := { stood := { row := fnWalshCodesRow, standIns := [], harness := (true, "84944e75c0daaeb6186ba01e1173c3662b857e6249e7f34a56994e3ca76b4d1a"), looks := true }, kinds := [], alts := [], laidByText := true, laidKinds := [.sentinel], laidTests := true, laidLooks := .later }
def FnWalshCodesCardSaid : Prop := Claim7.holds Tryd.pinned (.plain (OpenSpec.ofChange fnWalshCodesSpec)) fnWalshCodesCard

/-- THE TIED CARD OF 'laws.FnExactPictureOfSums'. -/
def fnExactPictureOfSumsCard : Claim7 := { stood := { row := fnExactPictureOfSumsRow, standIns := [], harness := (true, "84944e75c0daaeb6186ba01e1173c3662b857e6249e7f34a56994e3ca76b4d1a"), looks := true }, kinds := [], alts := [], laidByText := true, laidKinds := [.sentinel], laidTests := true, laidLooks := .later }
def FnExactPictureOfSumsCardSaid : Prop := Claim7.holds Tryd.pinned (.plain (OpenSpec.ofChange fnExactPictureOfSumsSpec)) fnExactPictureOfSumsCard

/-- THE SECOND FORM's CARD OF 'laws.FnWalshCodes'. -/
def fnWalshCodesUptoCard : Claim7 := { stood := { row := fnWalshCodesUptoRow, standIns := [], harness := (true, "84944e75c0daaeb6186ba01e1173c3662b857e6249e7f34a56994e3ca76b4d1a"), looks := true }, kinds := [], alts := [], laidByText := true, laidKinds := [.sentinel], laidTests := true, laidLooks := .later }
def FnWalshCodesUptoCardSaid : Prop := Claim7.holds Tryd.pinned (.plain (OpenSpec.upto fnWalshCodesSpec)) fnWalshCodesUptoCard

/-- THE SECOND FORM's CARD OF 'laws.FnExactPictureOfSums'. -/
def fnExactPictureOfSumsUptoCard : Claim7 := { stood := { row := fnExactPictureOfSumsUptoRow, standIns := [], harness := (true, "84944e75c0daaeb6186ba01e1173c3662b857e6249e7f34a56994e3ca76b4d1a"), looks := true }, kinds := [], alts := [], laidByText := true, laidKinds := [.sentinel], laidTests := true, laidLooks := .later }
def FnExactPictureOfSumsUptoCardSaid : Prop := Claim7.holds Tryd.pinned (.plain (OpenSpec.upto fnExactPictureOfSumsSpec)) fnExactPictureOfSumsUptoCard
end Rows
end Go.Proofs.YtclflnpbiiimiaaDoor
