/-
  No cell of these rows narrows 'for every input' (looked for: loops, veiled, ifaces, maps, wideKeys, modest, calm, conditions, laid).
  DERIVED. THE GIVEN ROWS OF THIS SEAT. 11 by the template 'for every input the law returns true; each argument reads behind the call as it read before'; 0 by the template 'total and deterministic' (their statements: YtajbnoofchcaoaaTotals.lean).
  GIVEN WITH THE SEED: the statements are not yours to turn. If you find one false, say at which input.
  Laid BY PROGRAM, IN A SANDBOX (cutbox-rows.mjs): the forced cells as the released guide's own fill.sh prints them over the translation 273b14017f352dad… (all of the seat's roots in one cut). By AI agents, Wed Nov 11 2026. No macro, syntax, notation, axiom, sorry.
-/
import Derived.Test.YtajbnoofchcaoaaChecked
import GoSem.Claim
import GoSem.ClaimJoined
import GoSem.ClaimMapViews
import Derived.JoinedTies
import Derived.KernelRfl
namespace Go.Proofs.Ytajbnoofchcaoaa
/- THE CELL 'sum', in the pinned program and in every row, IS THE sha256 OF THE DUMP (.gsa) THAT YtajbnoofchcaoaaProg.lean LOADS. Nothing in Lean hashes anything: it is a label: what it is worth is what the hold of that sum in a sandbox is worth. -/
noncomputable def Try.pinned : Pinned := { name := "ytajbnoofchcaoaa", sum := "273b14017f352dada5af3938523c5eb30abab0ebfcb070ff2d9cb9dd5b60c013", checked := Try.checked }
namespace Rows
def none {H : Type} : Left H := { results := [], args := [] }

/-- 'laws.FnExactWalshCode': WHATEVER THE INPUT: true; the input reads as it did. -/
def fnExactWalshCodeSpec : ChangeSpec := { name := "fnExactWalshCode", fn := fun _ => fun
  | [d1, d2] => { results := [.lit (.bool true)], args := [d1, d2] }
  | _ => none }
def fnExactWalshCodeRow : OpenClaim := { program := "ytajbnoofchcaoaa", sum := "273b14017f352dada5af3938523c5eb30abab0ebfcb070ff2d9cb9dd5b60c013", func := "loop.example/g01225/laws.FnExactWalshCode", spec := "fnExactWalshCode", unfollowed := true, recurses := true, apart := false }
def FnExactWalshCodeSaid : Prop := fnExactWalshCodeRow.holds Try.pinned (OpenSpec.ofChange fnExactWalshCodeSpec)

/-- ITS FALSE NEIGHBOUR: 'it returns false'. Refute it at one input. -/
def fnExactWalshCodeWrong : ChangeSpec := { name := "fnExactWalshCode", fn := fun _ => fun
  | [d1, d2] => { results := [.lit (.bool false)], args := [d1, d2] }
  | _ => none }
def FnExactWalshCodeWrongFalsely : Prop := fnExactWalshCodeRow.holds Try.pinned (OpenSpec.ofChange fnExactWalshCodeWrong)

/-- 'laws.FnExactSumsByCodes': WHATEVER THE INPUT: true; the input reads as it did. -/
def fnExactSumsByCodesSpec : ChangeSpec := { name := "fnExactSumsByCodes", fn := fun _ => fun
  | [d] => { results := [.lit (.bool true)], args := [d] }
  | _ => none }
def fnExactSumsByCodesRow : OpenClaim := { program := "ytajbnoofchcaoaa", sum := "273b14017f352dada5af3938523c5eb30abab0ebfcb070ff2d9cb9dd5b60c013", func := "loop.example/g01225/laws.FnExactSumsByCodes", spec := "fnExactSumsByCodes", inPlace := ["math.Float64bits", "math.Float64frombits"], unfollowed := true, recurses := true, apart := false }
def FnExactSumsByCodesSaid : Prop := fnExactSumsByCodesRow.holds Try.pinned (OpenSpec.ofChange fnExactSumsByCodesSpec)

/-- ITS FALSE NEIGHBOUR: 'it returns false'. Refute it at one input. -/
def fnExactSumsByCodesWrong : ChangeSpec := { name := "fnExactSumsByCodes", fn := fun _ => fun
  | [d] => { results := [.lit (.bool false)], args := [d] }
  | _ => none }
def FnExactSumsByCodesWrongFalsely : Prop := fnExactSumsByCodesRow.holds Try.pinned (OpenSpec.ofChange fnExactSumsByCodesWrong)

/-- 'laws.FnExactSumsBack': WHATEVER THE INPUT: true; the input reads as it did. -/
def fnExactSumsBackSpec : ChangeSpec := { name := "fnExactSumsBack", fn := fun _ => fun
  | [d] => { results := [.lit (.bool true)], args := [d] }
  | _ => none }
def fnExactSumsBackRow : OpenClaim := { program := "ytajbnoofchcaoaa", sum := "273b14017f352dada5af3938523c5eb30abab0ebfcb070ff2d9cb9dd5b60c013", func := "loop.example/g01225/laws.FnExactSumsBack", spec := "fnExactSumsBack", inPlace := ["math.Float64bits", "math.Float64frombits"], unfollowed := true, recurses := true, apart := false }
def FnExactSumsBackSaid : Prop := fnExactSumsBackRow.holds Try.pinned (OpenSpec.ofChange fnExactSumsBackSpec)

/-- ITS FALSE NEIGHBOUR: 'it returns false'. Refute it at one input. -/
def fnExactSumsBackWrong : ChangeSpec := { name := "fnExactSumsBack", fn := fun _ => fun
  | [d] => { results := [.lit (.bool false)], args := [d] }
  | _ => none }
def FnExactSumsBackWrongFalsely : Prop := fnExactSumsBackRow.holds Try.pinned (OpenSpec.ofChange fnExactSumsBackWrong)

/-- 'laws.FnExactLegendreCode': WHATEVER THE INPUT: true; the input reads as it did. -/
def fnExactLegendreCodeSpec : ChangeSpec := { name := "fnExactLegendreCode", fn := fun _ => fun
  | [d] => { results := [.lit (.bool true)], args := [d] }
  | _ => none }
def fnExactLegendreCodeRow : OpenClaim := { program := "ytajbnoofchcaoaa", sum := "273b14017f352dada5af3938523c5eb30abab0ebfcb070ff2d9cb9dd5b60c013", func := "loop.example/g01225/laws.FnExactLegendreCode", spec := "fnExactLegendreCode", unfollowed := true, recurses := true, apart := false }
def FnExactLegendreCodeSaid : Prop := fnExactLegendreCodeRow.holds Try.pinned (OpenSpec.ofChange fnExactLegendreCodeSpec)

/-- ITS FALSE NEIGHBOUR: 'it returns false'. Refute it at one input. -/
def fnExactLegendreCodeWrong : ChangeSpec := { name := "fnExactLegendreCode", fn := fun _ => fun
  | [d] => { results := [.lit (.bool false)], args := [d] }
  | _ => none }
def FnExactLegendreCodeWrongFalsely : Prop := fnExactLegendreCodeRow.holds Try.pinned (OpenSpec.ofChange fnExactLegendreCodeWrong)

/-- 'laws.FnExactShadowOf': WHATEVER THE INPUT: true; the input reads as it did. -/
def fnExactShadowOfSpec : ChangeSpec := { name := "fnExactShadowOf", fn := fun _ => fun
  | [d] => { results := [.lit (.bool true)], args := [d] }
  | _ => none }
def fnExactShadowOfRow : OpenClaim := { program := "ytajbnoofchcaoaa", sum := "273b14017f352dada5af3938523c5eb30abab0ebfcb070ff2d9cb9dd5b60c013", func := "loop.example/g01225/laws.FnExactShadowOf", spec := "fnExactShadowOf", inPlace := ["math.Float64bits", "math.Float64frombits"], unfollowed := true, recurses := true, apart := false }
def FnExactShadowOfSaid : Prop := fnExactShadowOfRow.holds Try.pinned (OpenSpec.ofChange fnExactShadowOfSpec)

/-- ITS FALSE NEIGHBOUR: 'it returns false'. Refute it at one input. -/
def fnExactShadowOfWrong : ChangeSpec := { name := "fnExactShadowOf", fn := fun _ => fun
  | [d] => { results := [.lit (.bool false)], args := [d] }
  | _ => none }
def FnExactShadowOfWrongFalsely : Prop := fnExactShadowOfRow.holds Try.pinned (OpenSpec.ofChange fnExactShadowOfWrong)

/-- 'laws.FnExactDecodeShadow': WHATEVER THE INPUT: true; the input reads as it did. -/
def fnExactDecodeShadowSpec : ChangeSpec := { name := "fnExactDecodeShadow", fn := fun _ => fun
  | [d] => { results := [.lit (.bool true)], args := [d] }
  | _ => none }
def fnExactDecodeShadowRow : OpenClaim := { program := "ytajbnoofchcaoaa", sum := "273b14017f352dada5af3938523c5eb30abab0ebfcb070ff2d9cb9dd5b60c013", func := "loop.example/g01225/laws.FnExactDecodeShadow", spec := "fnExactDecodeShadow", inPlace := ["math.Float64bits", "math.Float64frombits"], unfollowed := true, recurses := true, apart := false }
def FnExactDecodeShadowSaid : Prop := fnExactDecodeShadowRow.holds Try.pinned (OpenSpec.ofChange fnExactDecodeShadowSpec)

/-- ITS FALSE NEIGHBOUR: 'it returns false'. Refute it at one input. -/
def fnExactDecodeShadowWrong : ChangeSpec := { name := "fnExactDecodeShadow", fn := fun _ => fun
  | [d] => { results := [.lit (.bool false)], args := [d] }
  | _ => none }
def FnExactDecodeShadowWrongFalsely : Prop := fnExactDecodeShadowRow.holds Try.pinned (OpenSpec.ofChange fnExactDecodeShadowWrong)

/-- 'laws.FnExactCorrelateLists': WHATEVER THE INPUT: true; the input reads as it did. -/
def fnExactCorrelateListsSpec : ChangeSpec := { name := "fnExactCorrelateLists", fn := fun _ => fun
  | [d1, d2] => { results := [.lit (.bool true)], args := [d1, d2] }
  | _ => none }
def fnExactCorrelateListsRow : OpenClaim := { program := "ytajbnoofchcaoaa", sum := "273b14017f352dada5af3938523c5eb30abab0ebfcb070ff2d9cb9dd5b60c013", func := "loop.example/g01225/laws.FnExactCorrelateLists", spec := "fnExactCorrelateLists", inPlace := ["math.Float64bits", "math.Float64frombits"], unfollowed := true, recurses := true, apart := false }
def FnExactCorrelateListsSaid : Prop := fnExactCorrelateListsRow.holds Try.pinned (OpenSpec.ofChange fnExactCorrelateListsSpec)

/-- ITS FALSE NEIGHBOUR: 'it returns false'. Refute it at one input. -/
def fnExactCorrelateListsWrong : ChangeSpec := { name := "fnExactCorrelateLists", fn := fun _ => fun
  | [d1, d2] => { results := [.lit (.bool false)], args := [d1, d2] }
  | _ => none }
def FnExactCorrelateListsWrongFalsely : Prop := fnExactCorrelateListsRow.holds Try.pinned (OpenSpec.ofChange fnExactCorrelateListsWrong)

/-- 'laws.FnExactIsBalanced': WHATEVER THE INPUT: true; the input reads as it did. -/
def fnExactIsBalancedSpec : ChangeSpec := { name := "fnExactIsBalanced", fn := fun _ => fun
  | [d] => { results := [.lit (.bool true)], args := [d] }
  | _ => none }
def fnExactIsBalancedRow : OpenClaim := { program := "ytajbnoofchcaoaa", sum := "273b14017f352dada5af3938523c5eb30abab0ebfcb070ff2d9cb9dd5b60c013", func := "loop.example/g01225/laws.FnExactIsBalanced", spec := "fnExactIsBalanced", inPlace := ["math.Float64bits", "math.Float64frombits"], unfollowed := true, recurses := true, apart := false }
def FnExactIsBalancedSaid : Prop := fnExactIsBalancedRow.holds Try.pinned (OpenSpec.ofChange fnExactIsBalancedSpec)

/-- ITS FALSE NEIGHBOUR: 'it returns false'. Refute it at one input. -/
def fnExactIsBalancedWrong : ChangeSpec := { name := "fnExactIsBalanced", fn := fun _ => fun
  | [d] => { results := [.lit (.bool false)], args := [d] }
  | _ => none }
def FnExactIsBalancedWrongFalsely : Prop := fnExactIsBalancedRow.holds Try.pinned (OpenSpec.ofChange fnExactIsBalancedWrong)

/-- 'laws.FnExactCodeWave': WHATEVER THE INPUT: true; the input reads as it did. -/
def fnExactCodeWaveSpec : ChangeSpec := { name := "fnExactCodeWave", fn := fun _ => fun
  | [d1, d2] => { results := [.lit (.bool true)], args := [d1, d2] }
  | _ => none }
def fnExactCodeWaveRow : OpenClaim := { program := "ytajbnoofchcaoaa", sum := "273b14017f352dada5af3938523c5eb30abab0ebfcb070ff2d9cb9dd5b60c013", func := "loop.example/g01225/laws.FnExactCodeWave", spec := "fnExactCodeWave", unfollowed := true, recurses := true, apart := false }
def FnExactCodeWaveSaid : Prop := fnExactCodeWaveRow.holds Try.pinned (OpenSpec.ofChange fnExactCodeWaveSpec)

/-- ITS FALSE NEIGHBOUR: 'it returns false'. Refute it at one input. -/
def fnExactCodeWaveWrong : ChangeSpec := { name := "fnExactCodeWave", fn := fun _ => fun
  | [d1, d2] => { results := [.lit (.bool false)], args := [d1, d2] }
  | _ => none }
def FnExactCodeWaveWrongFalsely : Prop := fnExactCodeWaveRow.holds Try.pinned (OpenSpec.ofChange fnExactCodeWaveWrong)

/-- 'laws.FnExactSumOfPicture': WHATEVER THE INPUT: true; the input reads as it did. -/
def fnExactSumOfPictureSpec : ChangeSpec := { name := "fnExactSumOfPicture", fn := fun _ => fun
  | [d1, d2] => { results := [.lit (.bool true)], args := [d1, d2] }
  | _ => none }
def fnExactSumOfPictureRow : OpenClaim := { program := "ytajbnoofchcaoaa", sum := "273b14017f352dada5af3938523c5eb30abab0ebfcb070ff2d9cb9dd5b60c013", func := "loop.example/g01225/laws.FnExactSumOfPicture", spec := "fnExactSumOfPicture", inPlace := ["math.Float64bits", "math.Float64frombits"], unfollowed := true, recurses := true, apart := false }
def FnExactSumOfPictureSaid : Prop := fnExactSumOfPictureRow.holds Try.pinned (OpenSpec.ofChange fnExactSumOfPictureSpec)

/-- ITS FALSE NEIGHBOUR: 'it returns false'. Refute it at one input. -/
def fnExactSumOfPictureWrong : ChangeSpec := { name := "fnExactSumOfPicture", fn := fun _ => fun
  | [d1, d2] => { results := [.lit (.bool false)], args := [d1, d2] }
  | _ => none }
def FnExactSumOfPictureWrongFalsely : Prop := fnExactSumOfPictureRow.holds Try.pinned (OpenSpec.ofChange fnExactSumOfPictureWrong)

/-- 'laws.FnApertures': WHATEVER THE INPUT: true; the input reads as it did. -/
def fnAperturesSpec : ChangeSpec := { name := "fnApertures", fn := fun _ => fun
  | [d] => { results := [.lit (.bool true)], args := [d] }
  | _ => none }
def fnAperturesRow : OpenClaim := { program := "ytajbnoofchcaoaa", sum := "273b14017f352dada5af3938523c5eb30abab0ebfcb070ff2d9cb9dd5b60c013", func := "loop.example/g01225/laws.FnApertures", spec := "fnApertures", inPlace := ["math.Float64bits", "math.Float64frombits"], unfollowed := true, recurses := true, apart := false }
def FnAperturesSaid : Prop := fnAperturesRow.holds Try.pinned (OpenSpec.ofChange fnAperturesSpec)

/-- ITS FALSE NEIGHBOUR: 'it returns false'. Refute it at one input. -/
def fnAperturesWrong : ChangeSpec := { name := "fnApertures", fn := fun _ => fun
  | [d] => { results := [.lit (.bool false)], args := [d] }
  | _ => none }
def FnAperturesWrongFalsely : Prop := fnAperturesRow.holds Try.pinned (OpenSpec.ofChange fnAperturesWrong)

/- THE SECOND FORM. 'bulk': how many values and letters a reading holds, each counted each time it is reached (what is shared counts as often as it is met; a slice's spare places count too). A statement '..UptoSaid' is the law's where the arguments, and the package variables that the reading takes, are together of bulk at most 1048576: NARROWER than '..Said'. Prove '..Said' where nothing that the law and all that it calls make is longer than what came in: it says more and counts as full. Else prove '..UptoSaid'. A law counts once. -/
mutual
def uptoBulk {H : Type} : DataW H → Nat
  | .lit (.string bytes) => bytes.length + 1
  | .lit _ => 1
  | .nil => 1
  | .ptr d => uptoBulk d + 1
  | .slice elems spare => uptoBulkAll elems + uptoBulkAll spare + 1
  | .agg parts => uptoBulkAll parts + 1
  | .iface _ d => uptoBulk d + 1
  | .map entries => uptoBulkEntries entries + 1
  | .held _ => 1
def uptoBulkAll {H : Type} : List (DataW H) → Nat
  | [] => 0
  | d :: r => uptoBulk d + uptoBulkAll r
def uptoBulkEntries {H : Type} : List (Lit × DataW H) → Nat
  | [] => 0
  | x :: r => uptoBulkEntry x + uptoBulkEntries r
def uptoBulkEntry {H : Type} : Lit × DataW H → Nat
  | (.string bytes, d) => bytes.length + uptoBulk d + 1
  | (_, d) => uptoBulk d + 1
 end
def uptoSmall : (H : Type) → List (DataW H) → Bool := fun _ ds => decide (uptoBulkAll ds ≤ 1048576)
def OpenSpec.upto (s : _root_.Go.ChangeSpec) : _root_.Go.OpenSpec := { _root_.Go.OpenSpec.ofChange s with cond := some uptoSmall }

/-- 'laws.FnExactWalshCode', WHERE WHAT IT READS IS OF BULK AT MOST 1048576: true; the input reads as it did. -/
def fnExactWalshCodeUptoRow : OpenClaim := { program := "ytajbnoofchcaoaa", sum := "273b14017f352dada5af3938523c5eb30abab0ebfcb070ff2d9cb9dd5b60c013", func := "loop.example/g01225/laws.FnExactWalshCode", spec := "fnExactWalshCode", unfollowed := true, recurses := true, apart := false, narrowed := true }
def FnExactWalshCodeUptoSaid : Prop := fnExactWalshCodeUptoRow.holds Try.pinned (OpenSpec.upto fnExactWalshCodeSpec)

/-- 'laws.FnExactSumsByCodes', WHERE WHAT IT READS IS OF BULK AT MOST 1048576: true; the input reads as it did. -/
def fnExactSumsByCodesUptoRow : OpenClaim := { program := "ytajbnoofchcaoaa", sum := "273b14017f352dada5af3938523c5eb30abab0ebfcb070ff2d9cb9dd5b60c013", func := "loop.example/g01225/laws.FnExactSumsByCodes", spec := "fnExactSumsByCodes", inPlace := ["math.Float64bits", "math.Float64frombits"], unfollowed := true, recurses := true, apart := false, narrowed := true }
def FnExactSumsByCodesUptoSaid : Prop := fnExactSumsByCodesUptoRow.holds Try.pinned (OpenSpec.upto fnExactSumsByCodesSpec)

/-- 'laws.FnExactSumsBack', WHERE WHAT IT READS IS OF BULK AT MOST 1048576: true; the input reads as it did. -/
def fnExactSumsBackUptoRow : OpenClaim := { program := "ytajbnoofchcaoaa", sum := "273b14017f352dada5af3938523c5eb30abab0ebfcb070ff2d9cb9dd5b60c013", func := "loop.example/g01225/laws.FnExactSumsBack", spec := "fnExactSumsBack", inPlace := ["math.Float64bits", "math.Float64frombits"], unfollowed := true, recurses := true, apart := false, narrowed := true }
def FnExactSumsBackUptoSaid : Prop := fnExactSumsBackUptoRow.holds Try.pinned (OpenSpec.upto fnExactSumsBackSpec)

/-- 'laws.FnExactLegendreCode', WHERE WHAT IT READS IS OF BULK AT MOST 1048576: true; the input reads as it did. -/
def fnExactLegendreCodeUptoRow : OpenClaim := { program := "ytajbnoofchcaoaa", sum := "273b14017f352dada5af3938523c5eb30abab0ebfcb070ff2d9cb9dd5b60c013", func := "loop.example/g01225/laws.FnExactLegendreCode", spec := "fnExactLegendreCode", unfollowed := true, recurses := true, apart := false, narrowed := true }
def FnExactLegendreCodeUptoSaid : Prop := fnExactLegendreCodeUptoRow.holds Try.pinned (OpenSpec.upto fnExactLegendreCodeSpec)

/-- 'laws.FnExactShadowOf', WHERE WHAT IT READS IS OF BULK AT MOST 1048576: true; the input reads as it did. -/
def fnExactShadowOfUptoRow : OpenClaim := { program := "ytajbnoofchcaoaa", sum := "273b14017f352dada5af3938523c5eb30abab0ebfcb070ff2d9cb9dd5b60c013", func := "loop.example/g01225/laws.FnExactShadowOf", spec := "fnExactShadowOf", inPlace := ["math.Float64bits", "math.Float64frombits"], unfollowed := true, recurses := true, apart := false, narrowed := true }
def FnExactShadowOfUptoSaid : Prop := fnExactShadowOfUptoRow.holds Try.pinned (OpenSpec.upto fnExactShadowOfSpec)

/-- 'laws.FnExactDecodeShadow', WHERE WHAT IT READS IS OF BULK AT MOST 1048576: true; the input reads as it did. -/
def fnExactDecodeShadowUptoRow : OpenClaim := { program := "ytajbnoofchcaoaa", sum := "273b14017f352dada5af3938523c5eb30abab0ebfcb070ff2d9cb9dd5b60c013", func := "loop.example/g01225/laws.FnExactDecodeShadow", spec := "fnExactDecodeShadow", inPlace := ["math.Float64bits", "math.Float64frombits"], unfollowed := true, recurses := true, apart := false, narrowed := true }
def FnExactDecodeShadowUptoSaid : Prop := fnExactDecodeShadowUptoRow.holds Try.pinned (OpenSpec.upto fnExactDecodeShadowSpec)

/-- 'laws.FnExactCorrelateLists', WHERE WHAT IT READS IS OF BULK AT MOST 1048576: true; the input reads as it did. -/
def fnExactCorrelateListsUptoRow : OpenClaim := { program := "ytajbnoofchcaoaa", sum := "273b14017f352dada5af3938523c5eb30abab0ebfcb070ff2d9cb9dd5b60c013", func := "loop.example/g01225/laws.FnExactCorrelateLists", spec := "fnExactCorrelateLists", inPlace := ["math.Float64bits", "math.Float64frombits"], unfollowed := true, recurses := true, apart := false, narrowed := true }
def FnExactCorrelateListsUptoSaid : Prop := fnExactCorrelateListsUptoRow.holds Try.pinned (OpenSpec.upto fnExactCorrelateListsSpec)

/-- 'laws.FnExactIsBalanced', WHERE WHAT IT READS IS OF BULK AT MOST 1048576: true; the input reads as it did. -/
def fnExactIsBalancedUptoRow : OpenClaim := { program := "ytajbnoofchcaoaa", sum := "273b14017f352dada5af3938523c5eb30abab0ebfcb070ff2d9cb9dd5b60c013", func := "loop.example/g01225/laws.FnExactIsBalanced", spec := "fnExactIsBalanced", inPlace := ["math.Float64bits", "math.Float64frombits"], unfollowed := true, recurses := true, apart := false, narrowed := true }
def FnExactIsBalancedUptoSaid : Prop := fnExactIsBalancedUptoRow.holds Try.pinned (OpenSpec.upto fnExactIsBalancedSpec)

/-- 'laws.FnExactCodeWave', WHERE WHAT IT READS IS OF BULK AT MOST 1048576: true; the input reads as it did. -/
def fnExactCodeWaveUptoRow : OpenClaim := { program := "ytajbnoofchcaoaa", sum := "273b14017f352dada5af3938523c5eb30abab0ebfcb070ff2d9cb9dd5b60c013", func := "loop.example/g01225/laws.FnExactCodeWave", spec := "fnExactCodeWave", unfollowed := true, recurses := true, apart := false, narrowed := true }
def FnExactCodeWaveUptoSaid : Prop := fnExactCodeWaveUptoRow.holds Try.pinned (OpenSpec.upto fnExactCodeWaveSpec)

/-- 'laws.FnExactSumOfPicture', WHERE WHAT IT READS IS OF BULK AT MOST 1048576: true; the input reads as it did. -/
def fnExactSumOfPictureUptoRow : OpenClaim := { program := "ytajbnoofchcaoaa", sum := "273b14017f352dada5af3938523c5eb30abab0ebfcb070ff2d9cb9dd5b60c013", func := "loop.example/g01225/laws.FnExactSumOfPicture", spec := "fnExactSumOfPicture", inPlace := ["math.Float64bits", "math.Float64frombits"], unfollowed := true, recurses := true, apart := false, narrowed := true }
def FnExactSumOfPictureUptoSaid : Prop := fnExactSumOfPictureUptoRow.holds Try.pinned (OpenSpec.upto fnExactSumOfPictureSpec)

/-- 'laws.FnApertures', WHERE WHAT IT READS IS OF BULK AT MOST 1048576: true; the input reads as it did. -/
def fnAperturesUptoRow : OpenClaim := { program := "ytajbnoofchcaoaa", sum := "273b14017f352dada5af3938523c5eb30abab0ebfcb070ff2d9cb9dd5b60c013", func := "loop.example/g01225/laws.FnApertures", spec := "fnApertures", inPlace := ["math.Float64bits", "math.Float64frombits"], unfollowed := true, recurses := true, apart := false, narrowed := true }
def FnAperturesUptoSaid : Prop := fnAperturesUptoRow.holds Try.pinned (OpenSpec.upto fnAperturesSpec)

end Rows
end Go.Proofs.Ytajbnoofchcaoaa
