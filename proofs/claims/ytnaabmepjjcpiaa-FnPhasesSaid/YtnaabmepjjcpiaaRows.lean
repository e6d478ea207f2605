/-
  No cell of these rows narrows 'for every input' (looked for: loops, veiled, ifaces, maps, wideKeys, modest, calm, conditions, laid).
  DERIVED. THE GIVEN ROWS OF THIS SEAT. 8 by the template 'for every input the law returns true; each argument reads behind the call as it read before'; 0 by the template 'total and deterministic' (their statements: YtnaabmepjjcpiaaTotals.lean).
  GIVEN WITH THE SEED: the statements are not yours to turn. If you find one false, say at which input.
  Laid BY PROGRAM, IN A SANDBOX (cutbox-rows.mjs): the forced cells as the released guide's own fill.sh prints them over the translation cc36f63b95cc2843… (all of the seat's roots in one cut). By AI agents, Wed Nov 11 2026. No macro, syntax, notation, axiom, sorry.
-/
import Derived.Test.YtnaabmepjjcpiaaChecked
import GoSem.Claim
import GoSem.ClaimJoined
import GoSem.ClaimMapViews
import Derived.JoinedTies
import Derived.KernelRfl
namespace Go.Proofs.Ytnaabmepjjcpiaa
/- THE CELL 'sum', in the pinned program and in every row, IS THE sha256 OF THE DUMP (.gsa) THAT YtnaabmepjjcpiaaProg.lean LOADS. Nothing in Lean hashes anything: it is a label: what it is worth is what the hold of that sum in a sandbox is worth. -/
noncomputable def Try.pinned : Pinned := { name := "ytnaabmepjjcpiaa", sum := "cc36f63b95cc2843f98470d54a32b8167a867c897a3a9125903d4e42e5e465bf", checked := Try.checked }
namespace Rows
def none {H : Type} : Left H := { results := [], args := [] }

/-- 'laws.FnPhases': WHATEVER THE INPUT: true; the input reads as it did. -/
def fnPhasesSpec : ChangeSpec := { name := "fnPhases", fn := fun _ => fun
  | [d] => { results := [.lit (.bool true)], args := [d] }
  | _ => none }
def fnPhasesRow : OpenClaim := { program := "ytnaabmepjjcpiaa", sum := "cc36f63b95cc2843f98470d54a32b8167a867c897a3a9125903d4e42e5e465bf", func := "loop.example/g01225/laws.FnPhases", spec := "fnPhases", inPlace := ["math.sqrt", "math.Float64bits", "math.Float64frombits"], unfollowed := true, recurses := true, plainKeys := false, apart := false }
def FnPhasesSaid : Prop := fnPhasesRow.holds Try.pinned (OpenSpec.ofChange fnPhasesSpec)

/-- ITS FALSE NEIGHBOUR: 'it returns false'. Refute it at one input. -/
def fnPhasesWrong : ChangeSpec := { name := "fnPhases", fn := fun _ => fun
  | [d] => { results := [.lit (.bool false)], args := [d] }
  | _ => none }
def FnPhasesWrongFalsely : Prop := fnPhasesRow.holds Try.pinned (OpenSpec.ofChange fnPhasesWrong)

/-- 'laws.FnInners': WHATEVER THE INPUT: true; the input reads as it did. -/
def fnInnersSpec : ChangeSpec := { name := "fnInners", fn := fun _ => fun
  | [d] => { results := [.lit (.bool true)], args := [d] }
  | _ => none }
def fnInnersRow : OpenClaim := { program := "ytnaabmepjjcpiaa", sum := "cc36f63b95cc2843f98470d54a32b8167a867c897a3a9125903d4e42e5e465bf", func := "loop.example/g01225/laws.FnInners", spec := "fnInners", inPlace := ["math.Float64bits", "math.Float64frombits"], unfollowed := true, recurses := true, plainKeys := false, apart := false }
def FnInnersSaid : Prop := fnInnersRow.holds Try.pinned (OpenSpec.ofChange fnInnersSpec)

/-- ITS FALSE NEIGHBOUR: 'it returns false'. Refute it at one input. -/
def fnInnersWrong : ChangeSpec := { name := "fnInners", fn := fun _ => fun
  | [d] => { results := [.lit (.bool false)], args := [d] }
  | _ => none }
def FnInnersWrongFalsely : Prop := fnInnersRow.holds Try.pinned (OpenSpec.ofChange fnInnersWrong)

/-- 'laws.FnExactPhaseOf': WHATEVER THE INPUT: true; the input reads as it did. -/
def fnExactPhaseOfSpec : ChangeSpec := { name := "fnExactPhaseOf", fn := fun _ => fun
  | [d] => { results := [.lit (.bool true)], args := [d] }
  | _ => none }
def fnExactPhaseOfRow : OpenClaim := { program := "ytnaabmepjjcpiaa", sum := "cc36f63b95cc2843f98470d54a32b8167a867c897a3a9125903d4e42e5e465bf", func := "loop.example/g01225/laws.FnExactPhaseOf", spec := "fnExactPhaseOf", inPlace := ["math.sqrt"], plainKeys := false, apart := false }
def FnExactPhaseOfSaid : Prop := fnExactPhaseOfRow.holds Try.pinned (OpenSpec.ofChange fnExactPhaseOfSpec)

/-- ITS FALSE NEIGHBOUR: 'it returns false'. Refute it at one input. -/
def fnExactPhaseOfWrong : ChangeSpec := { name := "fnExactPhaseOf", fn := fun _ => fun
  | [d] => { results := [.lit (.bool false)], args := [d] }
  | _ => none }
def FnExactPhaseOfWrongFalsely : Prop := fnExactPhaseOfRow.holds Try.pinned (OpenSpec.ofChange fnExactPhaseOfWrong)

/-- 'laws.FnExactIsPicture': WHATEVER THE INPUT: true; the input reads as it did. -/
def fnExactIsPictureSpec : ChangeSpec := { name := "fnExactIsPicture", fn := fun _ => fun
  | [d] => { results := [.lit (.bool true)], args := [d] }
  | _ => none }
def fnExactIsPictureRow : OpenClaim := { program := "ytnaabmepjjcpiaa", sum := "cc36f63b95cc2843f98470d54a32b8167a867c897a3a9125903d4e42e5e465bf", func := "loop.example/g01225/laws.FnExactIsPicture", spec := "fnExactIsPicture", inPlace := ["math.Float64bits", "math.Float64frombits"], plainKeys := false, apart := false }
def FnExactIsPictureSaid : Prop := fnExactIsPictureRow.holds Try.pinned (OpenSpec.ofChange fnExactIsPictureSpec)

/-- ITS FALSE NEIGHBOUR: 'it returns false'. Refute it at one input. -/
def fnExactIsPictureWrong : ChangeSpec := { name := "fnExactIsPicture", fn := fun _ => fun
  | [d] => { results := [.lit (.bool false)], args := [d] }
  | _ => none }
def FnExactIsPictureWrongFalsely : Prop := fnExactIsPictureRow.holds Try.pinned (OpenSpec.ofChange fnExactIsPictureWrong)

/-- 'laws.FnExactPlaneWave': WHATEVER THE INPUT: true; the input reads as it did. -/
def fnExactPlaneWaveSpec : ChangeSpec := { name := "fnExactPlaneWave", fn := fun _ => fun
  | [d1, d2, d3] => { results := [.lit (.bool true)], args := [d1, d2, d3] }
  | _ => none }
def fnExactPlaneWaveRow : OpenClaim := { program := "ytnaabmepjjcpiaa", sum := "cc36f63b95cc2843f98470d54a32b8167a867c897a3a9125903d4e42e5e465bf", func := "loop.example/g01225/laws.FnExactPlaneWave", spec := "fnExactPlaneWave", inPlace := ["math.sqrt", "math.Float64bits", "math.Float64frombits"], unfollowed := true, recurses := true, plainKeys := false, apart := false }
def FnExactPlaneWaveSaid : Prop := fnExactPlaneWaveRow.holds Try.pinned (OpenSpec.ofChange fnExactPlaneWaveSpec)

/-- ITS FALSE NEIGHBOUR: 'it returns false'. Refute it at one input. -/
def fnExactPlaneWaveWrong : ChangeSpec := { name := "fnExactPlaneWave", fn := fun _ => fun
  | [d1, d2, d3] => { results := [.lit (.bool false)], args := [d1, d2, d3] }
  | _ => none }
def FnExactPlaneWaveWrongFalsely : Prop := fnExactPlaneWaveRow.holds Try.pinned (OpenSpec.ofChange fnExactPlaneWaveWrong)

/-- 'laws.FnTransforms': WHATEVER THE INPUT: true; the input reads as it did. -/
def fnTransformsSpec : ChangeSpec := { name := "fnTransforms", fn := fun _ => fun
  | [d] => { results := [.lit (.bool true)], args := [d] }
  | _ => none }
def fnTransformsRow : OpenClaim := { program := "ytnaabmepjjcpiaa", sum := "cc36f63b95cc2843f98470d54a32b8167a867c897a3a9125903d4e42e5e465bf", func := "loop.example/g01225/laws.FnTransforms", spec := "fnTransforms", inPlace := ["math.Float64bits", "math.Float64frombits", "math.sqrt"], unfollowed := true, recurses := true, plainKeys := false, apart := false }
def FnTransformsSaid : Prop := fnTransformsRow.holds Try.pinned (OpenSpec.ofChange fnTransformsSpec)

/-- ITS FALSE NEIGHBOUR: 'it returns false'. Refute it at one input. -/
def fnTransformsWrong : ChangeSpec := { name := "fnTransforms", fn := fun _ => fun
  | [d] => { results := [.lit (.bool false)], args := [d] }
  | _ => none }
def FnTransformsWrongFalsely : Prop := fnTransformsRow.holds Try.pinned (OpenSpec.ofChange fnTransformsWrong)

/-- 'laws.FnConvolutions': WHATEVER THE INPUT: true; the input reads as it did. -/
def fnConvolutionsSpec : ChangeSpec := { name := "fnConvolutions", fn := fun _ => fun
  | [d] => { results := [.lit (.bool true)], args := [d] }
  | _ => none }
def fnConvolutionsRow : OpenClaim := { program := "ytnaabmepjjcpiaa", sum := "cc36f63b95cc2843f98470d54a32b8167a867c897a3a9125903d4e42e5e465bf", func := "loop.example/g01225/laws.FnConvolutions", spec := "fnConvolutions", inPlace := ["math.Float64bits", "math.Float64frombits", "math.sqrt"], unfollowed := true, recurses := true, plainKeys := false, apart := false }
def FnConvolutionsSaid : Prop := fnConvolutionsRow.holds Try.pinned (OpenSpec.ofChange fnConvolutionsSpec)

/-- ITS FALSE NEIGHBOUR: 'it returns false'. Refute it at one input. -/
def fnConvolutionsWrong : ChangeSpec := { name := "fnConvolutions", fn := fun _ => fun
  | [d] => { results := [.lit (.bool false)], args := [d] }
  | _ => none }
def FnConvolutionsWrongFalsely : Prop := fnConvolutionsRow.holds Try.pinned (OpenSpec.ofChange fnConvolutionsWrong)

/-- 'laws.FnMoves': WHATEVER THE INPUT: true; the input reads as it did. -/
def fnMovesSpec : ChangeSpec := { name := "fnMoves", fn := fun _ => fun
  | [d] => { results := [.lit (.bool true)], args := [d] }
  | _ => none }
def fnMovesRow : OpenClaim := { program := "ytnaabmepjjcpiaa", sum := "cc36f63b95cc2843f98470d54a32b8167a867c897a3a9125903d4e42e5e465bf", func := "loop.example/g01225/laws.FnMoves", spec := "fnMoves", inPlace := ["math.Float64bits", "math.Float64frombits", "math.sqrt"], unfollowed := true, recurses := true, plainKeys := false, apart := false }
def FnMovesSaid : Prop := fnMovesRow.holds Try.pinned (OpenSpec.ofChange fnMovesSpec)

/-- ITS FALSE NEIGHBOUR: 'it returns false'. Refute it at one input. -/
def fnMovesWrong : ChangeSpec := { name := "fnMoves", fn := fun _ => fun
  | [d] => { results := [.lit (.bool false)], args := [d] }
  | _ => none }
def FnMovesWrongFalsely : Prop := fnMovesRow.holds Try.pinned (OpenSpec.ofChange fnMovesWrong)

/- THE SECOND FORM. 'bulk': how many values and letters a reading holds, each counted each time it is reached (what is shared counts as often as it is met; a slice's spare places count too). A statement '..UptoSaid' is the law's where the arguments, and the package variables that the reading takes, are together of bulk at most 1048576: NARROWER than '..Said'. Prove '..Said' where nothing that the law and all that it calls make is longer than what came in: it says more and counts as full. Else prove '..UptoSaid'. A law counts once. -/
mutual
def uptoBulk {H : Type} : DataW H → Nat
  | .lit (.string bytes) => bytes.length + 1
  | .lit _ => 1
  | .nil => 1
  | .ptr d => uptoBulk d + 1
  | .slice elems spare => uptoBulkAll elems + uptoBulkAll spare + 1
  | .agg parts => uptoBulkAll parts + 1
  | .iface _ d => uptoBulk d + 1
  | .map entries => uptoBulkEntries entries + 1
  | .held _ => 1
def uptoBulkAll {H : Type} : List (DataW H) → Nat
  | [] => 0
  | d :: r => uptoBulk d + uptoBulkAll r
def uptoBulkEntries {H : Type} : List (Lit × DataW H) → Nat
  | [] => 0
  | x :: r => uptoBulkEntry x + uptoBulkEntries r
def uptoBulkEntry {H : Type} : Lit × DataW H → Nat
  | (.string bytes, d) => bytes.length + uptoBulk d + 1
  | (_, d) => uptoBulk d + 1
 end
def uptoSmall : (H : Type) → List (DataW H) → Bool := fun _ ds => decide (uptoBulkAll ds ≤ 1048576)
def OpenSpec.upto (s : _root_.Go.ChangeSpec) : _root_.Go.OpenSpec := { _root_.Go.OpenSpec.ofChange s with cond := some uptoSmall }

/-- 'laws.FnPhases', WHERE WHAT IT READS IS OF BULK AT MOST 1048576: true; the input reads as it did. -/
def fnPhasesUptoRow : OpenClaim := { program := "ytnaabmepjjcpiaa", sum := "cc36f63b95cc2843f98470d54a32b8167a867c897a3a9125903d4e42e5e465bf", func := "loop.example/g01225/laws.FnPhases", spec := "fnPhases", inPlace := ["math.sqrt", "math.Float64bits", "math.Float64frombits"], unfollowed := true, recurses := true, plainKeys := false, apart := false, narrowed := true }
def FnPhasesUptoSaid : Prop := fnPhasesUptoRow.holds Try.pinned (OpenSpec.upto fnPhasesSpec)

/-- 'laws.FnInners', WHERE WHAT IT READS IS OF BULK AT MOST 1048576: true; the input reads as it did. -/
def fnInnersUptoRow : OpenClaim := { program := "ytnaabmepjjcpiaa", sum := "cc36f63b95cc2843f98470d54a32b8167a867c897a3a9125903d4e42e5e465bf", func := "loop.example/g01225/laws.FnInners", spec := "fnInners", inPlace := ["math.Float64bits", "math.Float64frombits"], unfollowed := true, recurses := true, plainKeys := false, apart := false, narrowed := true }
def FnInnersUptoSaid : Prop := fnInnersUptoRow.holds Try.pinned (OpenSpec.upto fnInnersSpec)

/-- 'laws.FnExactPhaseOf', WHERE WHAT IT READS IS OF BULK AT MOST 1048576: true; the input reads as it did. -/
def fnExactPhaseOfUptoRow : OpenClaim := { program := "ytnaabmepjjcpiaa", sum := "cc36f63b95cc2843f98470d54a32b8167a867c897a3a9125903d4e42e5e465bf", func := "loop.example/g01225/laws.FnExactPhaseOf", spec := "fnExactPhaseOf", inPlace := ["math.sqrt"], plainKeys := false, apart := false, narrowed := true }
def FnExactPhaseOfUptoSaid : Prop := fnExactPhaseOfUptoRow.holds Try.pinned (OpenSpec.upto fnExactPhaseOfSpec)

/-- 'laws.FnExactIsPicture', WHERE WHAT IT READS IS OF BULK AT MOST 1048576: true; the input reads as it did. -/
def fnExactIsPictureUptoRow : OpenClaim := { program := "ytnaabmepjjcpiaa", sum := "cc36f63b95cc2843f98470d54a32b8167a867c897a3a9125903d4e42e5e465bf", func := "loop.example/g01225/laws.FnExactIsPicture", spec := "fnExactIsPicture", inPlace := ["math.Float64bits", "math.Float64frombits"], plainKeys := false, apart := false, narrowed := true }
def FnExactIsPictureUptoSaid : Prop := fnExactIsPictureUptoRow.holds Try.pinned (OpenSpec.upto fnExactIsPictureSpec)

/-- 'laws.FnExactPlaneWave', WHERE WHAT IT READS IS OF BULK AT MOST 1048576: true; the input reads as it did. -/
def fnExactPlaneWaveUptoRow : OpenClaim := { program := "ytnaabmepjjcpiaa", sum := "cc36f63b95cc2843f98470d54a32b8167a867c897a3a9125903d4e42e5e465bf", func := "loop.example/g01225/laws.FnExactPlaneWave", spec := "fnExactPlaneWave", inPlace := ["math.sqrt", "math.Float64bits", "math.Float64frombits"], unfollowed := true, recurses := true, plainKeys := false, apart := false, narrowed := true }
def FnExactPlaneWaveUptoSaid : Prop := fnExactPlaneWaveUptoRow.holds Try.pinned (OpenSpec.upto fnExactPlaneWaveSpec)

/-- 'laws.FnTransforms', WHERE WHAT IT READS IS OF BULK AT MOST 1048576: true; the input reads as it did. -/
def fnTransformsUptoRow : OpenClaim := { program := "ytnaabmepjjcpiaa", sum := "cc36f63b95cc2843f98470d54a32b8167a867c897a3a9125903d4e42e5e465bf", func := "loop.example/g01225/laws.FnTransforms", spec := "fnTransforms", inPlace := ["math.Float64bits", "math.Float64frombits", "math.sqrt"], unfollowed := true, recurses := true, plainKeys := false, apart := false, narrowed := true }
def FnTransformsUptoSaid : Prop := fnTransformsUptoRow.holds Try.pinned (OpenSpec.upto fnTransformsSpec)

/-- 'laws.FnConvolutions', WHERE WHAT IT READS IS OF BULK AT MOST 1048576: true; the input reads as it did. -/
def fnConvolutionsUptoRow : OpenClaim := { program := "ytnaabmepjjcpiaa", sum := "cc36f63b95cc2843f98470d54a32b8167a867c897a3a9125903d4e42e5e465bf", func := "loop.example/g01225/laws.FnConvolutions", spec := "fnConvolutions", inPlace := ["math.Float64bits", "math.Float64frombits", "math.sqrt"], unfollowed := true, recurses := true, plainKeys := false, apart := false, narrowed := true }
def FnConvolutionsUptoSaid : Prop := fnConvolutionsUptoRow.holds Try.pinned (OpenSpec.upto fnConvolutionsSpec)

/-- 'laws.FnMoves', WHERE WHAT IT READS IS OF BULK AT MOST 1048576: true; the input reads as it did. -/
def fnMovesUptoRow : OpenClaim := { program := "ytnaabmepjjcpiaa", sum := "cc36f63b95cc2843f98470d54a32b8167a867c897a3a9125903d4e42e5e465bf", func := "loop.example/g01225/laws.FnMoves", spec := "fnMoves", inPlace := ["math.Float64bits", "math.Float64frombits", "math.sqrt"], unfollowed := true, recurses := true, plainKeys := false, apart := false, narrowed := true }
def FnMovesUptoSaid : Prop := fnMovesUptoRow.holds Try.pinned (OpenSpec.upto fnMovesSpec)

end Rows
end Go.Proofs.Ytnaabmepjjcpiaa
