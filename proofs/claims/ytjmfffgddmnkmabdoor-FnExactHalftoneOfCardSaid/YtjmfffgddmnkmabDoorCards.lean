/-
  DERIVED. GIVEN WITH THE SEED: THE CARDS: each row of YtjmfffgddmnkmabDoorRows.lean that lists a variable, with what it lists TIED to the program's text (the seventh form; the later family's looks); each row that meets fmt, with fmt's text TOLD by the authors' own Lean function (tested against real Go, not proved from fmt's source: count such statements apart). THE CARD IS WHAT COUNTS. Prove the row's statement (the work); the ties are given (YtjmfffgddmnkmabDoorTie.lean); close each card by the builder's one call (the guide's Derived/Test/ToyasCard.lean, 'card_holds'). Laid BY PROGRAM, IN A SANDBOX (cutbox-door.mjs). By AI agents, Wed Nov 11 2026. No macro, syntax, notation, axiom, sorry.
-/
import Derived.Test.YtjmfffgddmnkmabDoorRows
import GoSem.ClaimSeven
namespace Go.Proofs.YtjmfffgddmnkmabDoor
namespace Rows

/-- THE TIED CARD OF 'laws.FnExactParseWave'. -/
def fnExactParseWaveCard : Claim7 := { stood := { row := fnExactParseWaveRow, standIns := [], harness := (true, "0e9d9b976de953d4f71691b564299fae34c1726e9546a1ca51467992d2e1b190"), looks := true }, kinds := [], alts := [], laidByText := true, laidKinds := [.data, .data, .data, .data, .sentinel, .sentinel, .pinned], laidTests := true, laidLooks := .later }
def FnExactParseWaveCardSaid : Prop := Claim7.holds Tryd.pinned (.plain (OpenSpec.ofChange fnExactParseWaveSpec)) fnExactParseWaveCard

/-- THE TIED CARD OF 'laws.FnExactContrastOf'. -/
def fnExactContrastOfCard : Claim7 := { stood := { row := fnExactContrastOfRow, standIns := [], harness := (true, "0e9d9b976de953d4f71691b564299fae34c1726e9546a1ca51467992d2e1b190"), looks := true }, kinds := [], alts := [], laidByText := true, laidKinds := [.sentinel], laidTests := true, laidLooks := .later }
def FnExactContrastOfCardSaid : Prop := Claim7.holds Tryd.pinned (.plain (OpenSpec.ofChange fnExactContrastOfSpec)) fnExactContrastOfCard

/-- THE TIED CARD OF 'laws.FnExactHalftoneOf'. -/
def fnExactHalftoneOfCard : Claim7 := { stood := { row := fnExactHalftoneOfRow, standIns := [], harness := (true, "0e9d9b976de953d4f71691b564299fae34c1726e9546a1ca51467992d2e1b190"), looks := true }, kinds := [], alts := [], laidByText := true, laidKinds := [.sentinel], laidTests := true, laidLooks := .later }
def FnExactHalftoneOfCardSaid : Prop := Claim7.holds Tryd.pinned (.plain (OpenSpec.ofChange fnExactHalftoneOfSpec)) fnExactHalftoneOfCard

/-- THE TIED CARD OF 'laws.FnExactDifferenceOf'. -/
def fnExactDifferenceOfCard : Claim7 := { stood := { row := fnExactDifferenceOfRow, standIns := [], harness := (true, "0e9d9b976de953d4f71691b564299fae34c1726e9546a1ca51467992d2e1b190"), looks := true }, kinds := [], alts := [], laidByText := true, laidKinds := [.sentinel], laidTests := true, laidLooks := .later }
def FnExactDifferenceOfCardSaid : Prop := Claim7.holds Tryd.pinned (.plain (OpenSpec.ofChange fnExactDifferenceOfSpec)) fnExactDifferenceOfCard

/-- THE SECOND FORM's CARD OF 'laws.FnExactParseWave'. -/
def fnExactParseWaveUptoCard : Claim7 := { stood := { row := fnExactParseWaveUptoRow, standIns := [], harness := (true, "0e9d9b976de953d4f71691b564299fae34c1726e9546a1ca51467992d2e1b190"), looks := true }, kinds := [], alts := [], laidByText := true, laidKinds := [.data, .data, .data, .data, .sentinel, .sentinel, .pinned], laidTests := true, laidLooks := .later }
def FnExactParseWaveUptoCardSaid : Prop := Claim7.holds Tryd.pinned (.plain (OpenSpec.upto fnExactParseWaveSpec)) fnExactParseWaveUptoCard

/-- THE SECOND FORM's CARD OF 'laws.FnExactContrastOf'. -/
def fnExactContrastOfUptoCard : Claim7 := { stood := { row := fnExactContrastOfUptoRow, standIns := [], harness := (true, "0e9d9b976de953d4f71691b564299fae34c1726e9546a1ca51467992d2e1b190"), looks := true }, kinds := [], alts := [], laidByText := true, laidKinds := [.sentinel], laidTests := true, laidLooks := .later }
def FnExactContrastOfUptoCardSaid : Prop := Claim7.holds Tryd.pinned (.plain (OpenSpec.upto fnExactContrastOfSpec)) fnExactContrastOfUptoCard

/-- THE SECOND FORM's CARD OF 'laws.FnExactHalftoneOf'. -/
def fnExactHalftoneOfUptoCard : Claim7 := { stood := { row := fnExactHalftoneOfUptoRow, standIns := [], harness := (true, "0e9d9b976de953d4f71691b564299fae34c1726e9546a1ca51467992d2e1b190"), looks := true }, kinds := [], alts := [], laidByText := true, laidKinds := [.sentinel], laidTests := true, laidLooks := .later }
def FnExactHalftoneOfUptoCardSaid : Prop := Claim7.holds Tryd.pinned (.plain (OpenSpec.upto fnExactHalftoneOfSpec)) fnExactHalftoneOfUptoCard

/-- THE SECOND FORM's CARD OF 'laws.FnExactDifferenceOf'. -/
def fnExactDifferenceOfUptoCard : Claim7 := { stood := { row := fnExactDifferenceOfUptoRow, standIns := [], harness := (true, "0e9d9b976de953d4f71691b564299fae34c1726e9546a1ca51467992d2e1b190"), looks := true }, kinds := [], alts := [], laidByText := true, laidKinds := [.sentinel], laidTests := true, laidLooks := .later }
def FnExactDifferenceOfUptoCardSaid : Prop := Claim7.holds Tryd.pinned (.plain (OpenSpec.upto fnExactDifferenceOfSpec)) fnExactDifferenceOfUptoCard
end Rows
end Go.Proofs.YtjmfffgddmnkmabDoor
