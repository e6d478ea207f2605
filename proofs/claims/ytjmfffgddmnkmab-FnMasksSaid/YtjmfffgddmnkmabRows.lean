/-
  No cell of these rows narrows 'for every input' (looked for: loops, veiled, ifaces, maps, wideKeys, modest, calm, conditions, laid).
  DERIVED. THE GIVEN ROWS OF THIS SEAT. 8 by the template 'for every input the law returns true; each argument reads behind the call as it read before'; 0 by the template 'total and deterministic' (their statements: YtjmfffgddmnkmabTotals.lean).
  GIVEN WITH THE SEED: the statements are not yours to turn. If you find one false, say at which input.
  Laid BY PROGRAM, IN A SANDBOX (cutbox-rows.mjs): the forced cells as the released guide's own fill.sh prints them over the translation 450c8d63afd30303… (all of the seat's roots in one cut). By AI agents, Wed Nov 11 2026. No macro, syntax, notation, axiom, sorry.
-/
import Derived.Test.YtjmfffgddmnkmabChecked
import GoSem.Claim
import GoSem.ClaimJoined
import GoSem.ClaimMapViews
import Derived.JoinedTies
import Derived.KernelRfl
namespace Go.Proofs.Ytjmfffgddmnkmab
/- THE CELL 'sum', in the pinned program and in every row, IS THE sha256 OF THE DUMP (.gsa) THAT YtjmfffgddmnkmabProg.lean LOADS. Nothing in Lean hashes anything: it is a label: what it is worth is what the hold of that sum in a sandbox is worth. -/
noncomputable def Try.pinned : Pinned := { name := "ytjmfffgddmnkmab", sum := "450c8d63afd3030333bbed674bc76fd08ed79fab064a8a75075ae65ddcfaa67a", checked := Try.checked }
namespace Rows
def none {H : Type} : Left H := { results := [], args := [] }

/-- 'laws.FnExactFoldedFrequency': WHATEVER THE INPUT: true; the input reads as it did. -/
def fnExactFoldedFrequencySpec : ChangeSpec := { name := "fnExactFoldedFrequency", fn := fun _ => fun
  | [d1, d2] => { results := [.lit (.bool true)], args := [d1, d2] }
  | _ => none }
def fnExactFoldedFrequencyRow : OpenClaim := { program := "ytjmfffgddmnkmab", sum := "450c8d63afd3030333bbed674bc76fd08ed79fab064a8a75075ae65ddcfaa67a", func := "loop.example/g01225/laws.FnExactFoldedFrequency", spec := "fnExactFoldedFrequency", plainKeys := false, apart := false }
def FnExactFoldedFrequencySaid : Prop := fnExactFoldedFrequencyRow.holds Try.pinned (OpenSpec.ofChange fnExactFoldedFrequencySpec)

/-- ITS FALSE NEIGHBOUR: 'it returns false'. Refute it at one input. -/
def fnExactFoldedFrequencyWrong : ChangeSpec := { name := "fnExactFoldedFrequency", fn := fun _ => fun
  | [d1, d2] => { results := [.lit (.bool false)], args := [d1, d2] }
  | _ => none }
def FnExactFoldedFrequencyWrongFalsely : Prop := fnExactFoldedFrequencyRow.holds Try.pinned (OpenSpec.ofChange fnExactFoldedFrequencyWrong)

/-- 'laws.FnMasks': WHATEVER THE INPUT: true; the input reads as it did. -/
def fnMasksSpec : ChangeSpec := { name := "fnMasks", fn := fun _ => fun
  | [d] => { results := [.lit (.bool true)], args := [d] }
  | _ => none }
def fnMasksRow : OpenClaim := { program := "ytjmfffgddmnkmab", sum := "450c8d63afd3030333bbed674bc76fd08ed79fab064a8a75075ae65ddcfaa67a", func := "loop.example/g01225/laws.FnMasks", spec := "fnMasks", inPlace := ["math.Float64bits", "math.Float64frombits"], unfollowed := true, recurses := true, plainKeys := false, apart := false }
def FnMasksSaid : Prop := fnMasksRow.holds Try.pinned (OpenSpec.ofChange fnMasksSpec)

/-- ITS FALSE NEIGHBOUR: 'it returns false'. Refute it at one input. -/
def fnMasksWrong : ChangeSpec := { name := "fnMasks", fn := fun _ => fun
  | [d] => { results := [.lit (.bool false)], args := [d] }
  | _ => none }
def FnMasksWrongFalsely : Prop := fnMasksRow.holds Try.pinned (OpenSpec.ofChange fnMasksWrong)

/-- 'laws.FnExactTransferTable': WHATEVER THE INPUT: true; the input reads as it did. -/
def fnExactTransferTableSpec : ChangeSpec := { name := "fnExactTransferTable", fn := fun _ => fun
  | [d1, d2] => { results := [.lit (.bool true)], args := [d1, d2] }
  | _ => none }
def fnExactTransferTableRow : OpenClaim := { program := "ytjmfffgddmnkmab", sum := "450c8d63afd3030333bbed674bc76fd08ed79fab064a8a75075ae65ddcfaa67a", func := "loop.example/g01225/laws.FnExactTransferTable", spec := "fnExactTransferTable", inPlace := ["math.sqrt", "math.Float64bits", "math.Float64frombits"], unfollowed := true, recurses := true, plainKeys := false, apart := false }
def FnExactTransferTableSaid : Prop := fnExactTransferTableRow.holds Try.pinned (OpenSpec.ofChange fnExactTransferTableSpec)

/-- ITS FALSE NEIGHBOUR: 'it returns false'. Refute it at one input. -/
def fnExactTransferTableWrong : ChangeSpec := { name := "fnExactTransferTable", fn := fun _ => fun
  | [d1, d2] => { results := [.lit (.bool false)], args := [d1, d2] }
  | _ => none }
def FnExactTransferTableWrongFalsely : Prop := fnExactTransferTableRow.holds Try.pinned (OpenSpec.ofChange fnExactTransferTableWrong)

/-- 'laws.FnExactStepsOf': WHATEVER THE INPUT: true; the input reads as it did. -/
def fnExactStepsOfSpec : ChangeSpec := { name := "fnExactStepsOf", fn := fun _ => fun
  | [d1, d2, d3] => { results := [.lit (.bool true)], args := [d1, d2, d3] }
  | _ => none }
def fnExactStepsOfRow : OpenClaim := { program := "ytjmfffgddmnkmab", sum := "450c8d63afd3030333bbed674bc76fd08ed79fab064a8a75075ae65ddcfaa67a", func := "loop.example/g01225/laws.FnExactStepsOf", spec := "fnExactStepsOf", inPlace := ["math.Float64bits", "math.Float64frombits"], plainKeys := false, apart := false }
def FnExactStepsOfSaid : Prop := fnExactStepsOfRow.holds Try.pinned (OpenSpec.ofChange fnExactStepsOfSpec)

/-- ITS FALSE NEIGHBOUR: 'it returns false'. Refute it at one input. -/
def fnExactStepsOfWrong : ChangeSpec := { name := "fnExactStepsOf", fn := fun _ => fun
  | [d1, d2, d3] => { results := [.lit (.bool false)], args := [d1, d2, d3] }
  | _ => none }
def FnExactStepsOfWrongFalsely : Prop := fnExactStepsOfRow.holds Try.pinned (OpenSpec.ofChange fnExactStepsOfWrong)

/-- 'laws.FnExactThresholdMask': WHATEVER THE INPUT: true; the input reads as it did. -/
def fnExactThresholdMaskSpec : ChangeSpec := { name := "fnExactThresholdMask", fn := fun _ => fun
  | [d1, d2] => { results := [.lit (.bool true)], args := [d1, d2] }
  | _ => none }
def fnExactThresholdMaskRow : OpenClaim := { program := "ytjmfffgddmnkmab", sum := "450c8d63afd3030333bbed674bc76fd08ed79fab064a8a75075ae65ddcfaa67a", func := "loop.example/g01225/laws.FnExactThresholdMask", spec := "fnExactThresholdMask", inPlace := ["math.Float64bits", "math.Float64frombits"], unfollowed := true, recurses := true, plainKeys := false, apart := false }
def FnExactThresholdMaskSaid : Prop := fnExactThresholdMaskRow.holds Try.pinned (OpenSpec.ofChange fnExactThresholdMaskSpec)

/-- ITS FALSE NEIGHBOUR: 'it returns false'. Refute it at one input. -/
def fnExactThresholdMaskWrong : ChangeSpec := { name := "fnExactThresholdMask", fn := fun _ => fun
  | [d1, d2] => { results := [.lit (.bool false)], args := [d1, d2] }
  | _ => none }
def FnExactThresholdMaskWrongFalsely : Prop := fnExactThresholdMaskRow.holds Try.pinned (OpenSpec.ofChange fnExactThresholdMaskWrong)

/-- 'laws.FnExactCoverageOf': WHATEVER THE INPUT: true; the input reads as it did. -/
def fnExactCoverageOfSpec : ChangeSpec := { name := "fnExactCoverageOf", fn := fun _ => fun
  | [d1, d2, d3] => { results := [.lit (.bool true)], args := [d1, d2, d3] }
  | _ => none }
def fnExactCoverageOfRow : OpenClaim := { program := "ytjmfffgddmnkmab", sum := "450c8d63afd3030333bbed674bc76fd08ed79fab064a8a75075ae65ddcfaa67a", func := "loop.example/g01225/laws.FnExactCoverageOf", spec := "fnExactCoverageOf", unfollowed := true, recurses := true, plainKeys := false, apart := false }
def FnExactCoverageOfSaid : Prop := fnExactCoverageOfRow.holds Try.pinned (OpenSpec.ofChange fnExactCoverageOfSpec)

/-- ITS FALSE NEIGHBOUR: 'it returns false'. Refute it at one input. -/
def fnExactCoverageOfWrong : ChangeSpec := { name := "fnExactCoverageOf", fn := fun _ => fun
  | [d1, d2, d3] => { results := [.lit (.bool false)], args := [d1, d2, d3] }
  | _ => none }
def FnExactCoverageOfWrongFalsely : Prop := fnExactCoverageOfRow.holds Try.pinned (OpenSpec.ofChange fnExactCoverageOfWrong)

/-- 'laws.FnExactGridOfPlaces': WHATEVER THE INPUT: true; the input reads as it did. -/
def fnExactGridOfPlacesSpec : ChangeSpec := { name := "fnExactGridOfPlaces", fn := fun _ => fun
  | [d1, d2] => { results := [.lit (.bool true)], args := [d1, d2] }
  | _ => none }
def fnExactGridOfPlacesRow : OpenClaim := { program := "ytjmfffgddmnkmab", sum := "450c8d63afd3030333bbed674bc76fd08ed79fab064a8a75075ae65ddcfaa67a", func := "loop.example/g01225/laws.FnExactGridOfPlaces", spec := "fnExactGridOfPlaces", plainKeys := false, apart := false }
def FnExactGridOfPlacesSaid : Prop := fnExactGridOfPlacesRow.holds Try.pinned (OpenSpec.ofChange fnExactGridOfPlacesSpec)

/-- ITS FALSE NEIGHBOUR: 'it returns false'. Refute it at one input. -/
def fnExactGridOfPlacesWrong : ChangeSpec := { name := "fnExactGridOfPlaces", fn := fun _ => fun
  | [d1, d2] => { results := [.lit (.bool false)], args := [d1, d2] }
  | _ => none }
def FnExactGridOfPlacesWrongFalsely : Prop := fnExactGridOfPlacesRow.holds Try.pinned (OpenSpec.ofChange fnExactGridOfPlacesWrong)

/-- 'laws.FnExactPlaneSource': WHATEVER THE INPUT: true; the input reads as it did. -/
def fnExactPlaneSourceSpec : ChangeSpec := { name := "fnExactPlaneSource", fn := fun _ => fun
  | [d1, d2] => { results := [.lit (.bool true)], args := [d1, d2] }
  | _ => none }
def fnExactPlaneSourceRow : OpenClaim := { program := "ytjmfffgddmnkmab", sum := "450c8d63afd3030333bbed674bc76fd08ed79fab064a8a75075ae65ddcfaa67a", func := "loop.example/g01225/laws.FnExactPlaneSource", spec := "fnExactPlaneSource", inPlace := ["math.sqrt", "math.Float64bits", "math.Float64frombits"], unfollowed := true, recurses := true, plainKeys := false, apart := false }
def FnExactPlaneSourceSaid : Prop := fnExactPlaneSourceRow.holds Try.pinned (OpenSpec.ofChange fnExactPlaneSourceSpec)

/-- ITS FALSE NEIGHBOUR: 'it returns false'. Refute it at one input. -/
def fnExactPlaneSourceWrong : ChangeSpec := { name := "fnExactPlaneSource", fn := fun _ => fun
  | [d1, d2] => { results := [.lit (.bool false)], args := [d1, d2] }
  | _ => none }
def FnExactPlaneSourceWrongFalsely : Prop := fnExactPlaneSourceRow.holds Try.pinned (OpenSpec.ofChange fnExactPlaneSourceWrong)

/- THE SECOND FORM. 'bulk': how many values and letters a reading holds, each counted each time it is reached (what is shared counts as often as it is met; a slice's spare places count too). A statement '..UptoSaid' is the law's where the arguments, and the package variables that the reading takes, are together of bulk at most 1048576: NARROWER than '..Said'. Prove '..Said' where nothing that the law and all that it calls make is longer than what came in: it says more and counts as full. Else prove '..UptoSaid'. A law counts once. -/
mutual
def uptoBulk {H : Type} : DataW H → Nat
  | .lit (.string bytes) => bytes.length + 1
  | .lit _ => 1
  | .nil => 1
  | .ptr d => uptoBulk d + 1
  | .slice elems spare => uptoBulkAll elems + uptoBulkAll spare + 1
  | .agg parts => uptoBulkAll parts + 1
  | .iface _ d => uptoBulk d + 1
  | .map entries => uptoBulkEntries entries + 1
  | .held _ => 1
def uptoBulkAll {H : Type} : List (DataW H) → Nat
  | [] => 0
  | d :: r => uptoBulk d + uptoBulkAll r
def uptoBulkEntries {H : Type} : List (Lit × DataW H) → Nat
  | [] => 0
  | x :: r => uptoBulkEntry x + uptoBulkEntries r
def uptoBulkEntry {H : Type} : Lit × DataW H → Nat
  | (.string bytes, d) => bytes.length + uptoBulk d + 1
  | (_, d) => uptoBulk d + 1
 end
def uptoSmall : (H : Type) → List (DataW H) → Bool := fun _ ds => decide (uptoBulkAll ds ≤ 1048576)
def OpenSpec.upto (s : _root_.Go.ChangeSpec) : _root_.Go.OpenSpec := { _root_.Go.OpenSpec.ofChange s with cond := some uptoSmall }

/-- 'laws.FnExactFoldedFrequency', WHERE WHAT IT READS IS OF BULK AT MOST 1048576: true; the input reads as it did. -/
def fnExactFoldedFrequencyUptoRow : OpenClaim := { program := "ytjmfffgddmnkmab", sum := "450c8d63afd3030333bbed674bc76fd08ed79fab064a8a75075ae65ddcfaa67a", func := "loop.example/g01225/laws.FnExactFoldedFrequency", spec := "fnExactFoldedFrequency", plainKeys := false, apart := false, narrowed := true }
def FnExactFoldedFrequencyUptoSaid : Prop := fnExactFoldedFrequencyUptoRow.holds Try.pinned (OpenSpec.upto fnExactFoldedFrequencySpec)

/-- 'laws.FnMasks', WHERE WHAT IT READS IS OF BULK AT MOST 1048576: true; the input reads as it did. -/
def fnMasksUptoRow : OpenClaim := { program := "ytjmfffgddmnkmab", sum := "450c8d63afd3030333bbed674bc76fd08ed79fab064a8a75075ae65ddcfaa67a", func := "loop.example/g01225/laws.FnMasks", spec := "fnMasks", inPlace := ["math.Float64bits", "math.Float64frombits"], unfollowed := true, recurses := true, plainKeys := false, apart := false, narrowed := true }
def FnMasksUptoSaid : Prop := fnMasksUptoRow.holds Try.pinned (OpenSpec.upto fnMasksSpec)

/-- 'laws.FnExactTransferTable', WHERE WHAT IT READS IS OF BULK AT MOST 1048576: true; the input reads as it did. -/
def fnExactTransferTableUptoRow : OpenClaim := { program := "ytjmfffgddmnkmab", sum := "450c8d63afd3030333bbed674bc76fd08ed79fab064a8a75075ae65ddcfaa67a", func := "loop.example/g01225/laws.FnExactTransferTable", spec := "fnExactTransferTable", inPlace := ["math.sqrt", "math.Float64bits", "math.Float64frombits"], unfollowed := true, recurses := true, plainKeys := false, apart := false, narrowed := true }
def FnExactTransferTableUptoSaid : Prop := fnExactTransferTableUptoRow.holds Try.pinned (OpenSpec.upto fnExactTransferTableSpec)

/-- 'laws.FnExactStepsOf', WHERE WHAT IT READS IS OF BULK AT MOST 1048576: true; the input reads as it did. -/
def fnExactStepsOfUptoRow : OpenClaim := { program := "ytjmfffgddmnkmab", sum := "450c8d63afd3030333bbed674bc76fd08ed79fab064a8a75075ae65ddcfaa67a", func := "loop.example/g01225/laws.FnExactStepsOf", spec := "fnExactStepsOf", inPlace := ["math.Float64bits", "math.Float64frombits"], plainKeys := false, apart := false, narrowed := true }
def FnExactStepsOfUptoSaid : Prop := fnExactStepsOfUptoRow.holds Try.pinned (OpenSpec.upto fnExactStepsOfSpec)

/-- 'laws.FnExactThresholdMask', WHERE WHAT IT READS IS OF BULK AT MOST 1048576: true; the input reads as it did. -/
def fnExactThresholdMaskUptoRow : OpenClaim := { program := "ytjmfffgddmnkmab", sum := "450c8d63afd3030333bbed674bc76fd08ed79fab064a8a75075ae65ddcfaa67a", func := "loop.example/g01225/laws.FnExactThresholdMask", spec := "fnExactThresholdMask", inPlace := ["math.Float64bits", "math.Float64frombits"], unfollowed := true, recurses := true, plainKeys := false, apart := false, narrowed := true }
def FnExactThresholdMaskUptoSaid : Prop := fnExactThresholdMaskUptoRow.holds Try.pinned (OpenSpec.upto fnExactThresholdMaskSpec)

/-- 'laws.FnExactCoverageOf', WHERE WHAT IT READS IS OF BULK AT MOST 1048576: true; the input reads as it did. -/
def fnExactCoverageOfUptoRow : OpenClaim := { program := "ytjmfffgddmnkmab", sum := "450c8d63afd3030333bbed674bc76fd08ed79fab064a8a75075ae65ddcfaa67a", func := "loop.example/g01225/laws.FnExactCoverageOf", spec := "fnExactCoverageOf", unfollowed := true, recurses := true, plainKeys := false, apart := false, narrowed := true }
def FnExactCoverageOfUptoSaid : Prop := fnExactCoverageOfUptoRow.holds Try.pinned (OpenSpec.upto fnExactCoverageOfSpec)

/-- 'laws.FnExactGridOfPlaces', WHERE WHAT IT READS IS OF BULK AT MOST 1048576: true; the input reads as it did. -/
def fnExactGridOfPlacesUptoRow : OpenClaim := { program := "ytjmfffgddmnkmab", sum := "450c8d63afd3030333bbed674bc76fd08ed79fab064a8a75075ae65ddcfaa67a", func := "loop.example/g01225/laws.FnExactGridOfPlaces", spec := "fnExactGridOfPlaces", plainKeys := false, apart := false, narrowed := true }
def FnExactGridOfPlacesUptoSaid : Prop := fnExactGridOfPlacesUptoRow.holds Try.pinned (OpenSpec.upto fnExactGridOfPlacesSpec)

/-- 'laws.FnExactPlaneSource', WHERE WHAT IT READS IS OF BULK AT MOST 1048576: true; the input reads as it did. -/
def fnExactPlaneSourceUptoRow : OpenClaim := { program := "ytjmfffgddmnkmab", sum := "450c8d63afd3030333bbed674bc76fd08ed79fab064a8a75075ae65ddcfaa67a", func := "loop.example/g01225/laws.FnExactPlaneSource", spec := "fnExactPlaneSource", inPlace := ["math.sqrt", "math.Float64bits", "math.Float64frombits"], unfollowed := true, recurses := true, plainKeys := false, apart := false, narrowed := true }
def FnExactPlaneSourceUptoSaid : Prop := fnExactPlaneSourceUptoRow.holds Try.pinned (OpenSpec.upto fnExactPlaneSourceSpec)

end Rows
end Go.Proofs.Ytjmfffgddmnkmab
