/-
  No cell of these rows narrows 'for every input' (looked for: loops, veiled, ifaces, maps, wideKeys, modest, calm, conditions, laid).
  DERIVED. THE GIVEN ROWS OF THIS SEAT. 8 by the template 'for every input the law returns true; each argument reads behind the call as it read before'; 0 by the template 'total and deterministic' (their statements: YtlkgdfednejhiaaTotals.lean).
  GIVEN WITH THE SEED: the statements are not yours to turn. If you find one false, say at which input.
  Laid BY PROGRAM, IN A SANDBOX (cutbox-rows.mjs): the forced cells as the released guide's own fill.sh prints them over the translation 276e619bceb29cb5… (all of the seat's roots in one cut). By AI agents, Wed Nov 11 2026. No macro, syntax, notation, axiom, sorry.
-/
import Derived.Test.YtlkgdfednejhiaaChecked
import GoSem.Claim
import GoSem.ClaimJoined
import GoSem.ClaimMapViews
import Derived.JoinedTies
import Derived.KernelRfl
namespace Go.Proofs.Ytlkgdfednejhiaa
/- THE CELL 'sum', in the pinned program and in every row, IS THE sha256 OF THE DUMP (.gsa) THAT YtlkgdfednejhiaaProg.lean LOADS. Nothing in Lean hashes anything: it is a label: what it is worth is what the hold of that sum in a sandbox is worth. -/
noncomputable def Try.pinned : Pinned := { name := "ytlkgdfednejhiaa", sum := "276e619bceb29cb5518232942d7f3b57fc7a27a4d34c5129aa36dcfcf2f8db2a", checked := Try.checked }
namespace Rows
def none {H : Type} : Left H := { results := [], args := [] }

/-- 'laws.FnUnwraps': WHATEVER THE INPUT: true; the input reads as it did. -/
def fnUnwrapsSpec : ChangeSpec := { name := "fnUnwraps", fn := fun _ => fun
  | [d] => { results := [.lit (.bool true)], args := [d] }
  | _ => none }
def fnUnwrapsRow : OpenClaim := { program := "ytlkgdfednejhiaa", sum := "276e619bceb29cb5518232942d7f3b57fc7a27a4d34c5129aa36dcfcf2f8db2a", func := "loop.example/g01225/laws.FnUnwraps", spec := "fnUnwraps", inPlace := ["math.Float64bits", "math.Float64frombits"], unfollowed := true, recurses := true, apart := false }
def FnUnwrapsSaid : Prop := fnUnwrapsRow.holds Try.pinned (OpenSpec.ofChange fnUnwrapsSpec)

/-- ITS FALSE NEIGHBOUR: 'it returns false'. Refute it at one input. -/
def fnUnwrapsWrong : ChangeSpec := { name := "fnUnwraps", fn := fun _ => fun
  | [d] => { results := [.lit (.bool false)], args := [d] }
  | _ => none }
def FnUnwrapsWrongFalsely : Prop := fnUnwrapsRow.holds Try.pinned (OpenSpec.ofChange fnUnwrapsWrong)

/-- 'laws.FnExactWrappedDifference': WHATEVER THE INPUT: true; the input reads as it did. -/
def fnExactWrappedDifferenceSpec : ChangeSpec := { name := "fnExactWrappedDifference", fn := fun _ => fun
  | [d1, d2] => { results := [.lit (.bool true)], args := [d1, d2] }
  | _ => none }
def fnExactWrappedDifferenceRow : OpenClaim := { program := "ytlkgdfednejhiaa", sum := "276e619bceb29cb5518232942d7f3b57fc7a27a4d34c5129aa36dcfcf2f8db2a", func := "loop.example/g01225/laws.FnExactWrappedDifference", spec := "fnExactWrappedDifference", apart := false }
def FnExactWrappedDifferenceSaid : Prop := fnExactWrappedDifferenceRow.holds Try.pinned (OpenSpec.ofChange fnExactWrappedDifferenceSpec)

/-- ITS FALSE NEIGHBOUR: 'it returns false'. Refute it at one input. -/
def fnExactWrappedDifferenceWrong : ChangeSpec := { name := "fnExactWrappedDifference", fn := fun _ => fun
  | [d1, d2] => { results := [.lit (.bool false)], args := [d1, d2] }
  | _ => none }
def FnExactWrappedDifferenceWrongFalsely : Prop := fnExactWrappedDifferenceRow.holds Try.pinned (OpenSpec.ofChange fnExactWrappedDifferenceWrong)

/-- 'laws.FnExactIsHeightMap': WHATEVER THE INPUT: true; the input reads as it did. -/
def fnExactIsHeightMapSpec : ChangeSpec := { name := "fnExactIsHeightMap", fn := fun _ => fun
  | [d1, d2] => { results := [.lit (.bool true)], args := [d1, d2] }
  | _ => none }
def fnExactIsHeightMapRow : OpenClaim := { program := "ytlkgdfednejhiaa", sum := "276e619bceb29cb5518232942d7f3b57fc7a27a4d34c5129aa36dcfcf2f8db2a", func := "loop.example/g01225/laws.FnExactIsHeightMap", spec := "fnExactIsHeightMap", unfollowed := true, recurses := true, apart := false }
def FnExactIsHeightMapSaid : Prop := fnExactIsHeightMapRow.holds Try.pinned (OpenSpec.ofChange fnExactIsHeightMapSpec)

/-- ITS FALSE NEIGHBOUR: 'it returns false'. Refute it at one input. -/
def fnExactIsHeightMapWrong : ChangeSpec := { name := "fnExactIsHeightMap", fn := fun _ => fun
  | [d1, d2] => { results := [.lit (.bool false)], args := [d1, d2] }
  | _ => none }
def FnExactIsHeightMapWrongFalsely : Prop := fnExactIsHeightMapRow.holds Try.pinned (OpenSpec.ofChange fnExactIsHeightMapWrong)

/-- 'laws.FnExactWrapHeights': WHATEVER THE INPUT: true; the input reads as it did. -/
def fnExactWrapHeightsSpec : ChangeSpec := { name := "fnExactWrapHeights", fn := fun _ => fun
  | [d1, d2] => { results := [.lit (.bool true)], args := [d1, d2] }
  | _ => none }
def fnExactWrapHeightsRow : OpenClaim := { program := "ytlkgdfednejhiaa", sum := "276e619bceb29cb5518232942d7f3b57fc7a27a4d34c5129aa36dcfcf2f8db2a", func := "loop.example/g01225/laws.FnExactWrapHeights", spec := "fnExactWrapHeights", unfollowed := true, recurses := true, apart := false }
def FnExactWrapHeightsSaid : Prop := fnExactWrapHeightsRow.holds Try.pinned (OpenSpec.ofChange fnExactWrapHeightsSpec)

/-- ITS FALSE NEIGHBOUR: 'it returns false'. Refute it at one input. -/
def fnExactWrapHeightsWrong : ChangeSpec := { name := "fnExactWrapHeights", fn := fun _ => fun
  | [d1, d2] => { results := [.lit (.bool false)], args := [d1, d2] }
  | _ => none }
def FnExactWrapHeightsWrongFalsely : Prop := fnExactWrapHeightsRow.holds Try.pinned (OpenSpec.ofChange fnExactWrapHeightsWrong)

/-- 'laws.FnExactResiduesOf': WHATEVER THE INPUT: true; the input reads as it did. -/
def fnExactResiduesOfSpec : ChangeSpec := { name := "fnExactResiduesOf", fn := fun _ => fun
  | [d1, d2] => { results := [.lit (.bool true)], args := [d1, d2] }
  | _ => none }
def fnExactResiduesOfRow : OpenClaim := { program := "ytlkgdfednejhiaa", sum := "276e619bceb29cb5518232942d7f3b57fc7a27a4d34c5129aa36dcfcf2f8db2a", func := "loop.example/g01225/laws.FnExactResiduesOf", spec := "fnExactResiduesOf", unfollowed := true, recurses := true, apart := false }
def FnExactResiduesOfSaid : Prop := fnExactResiduesOfRow.holds Try.pinned (OpenSpec.ofChange fnExactResiduesOfSpec)

/-- ITS FALSE NEIGHBOUR: 'it returns false'. Refute it at one input. -/
def fnExactResiduesOfWrong : ChangeSpec := { name := "fnExactResiduesOf", fn := fun _ => fun
  | [d1, d2] => { results := [.lit (.bool false)], args := [d1, d2] }
  | _ => none }
def FnExactResiduesOfWrongFalsely : Prop := fnExactResiduesOfRow.holds Try.pinned (OpenSpec.ofChange fnExactResiduesOfWrong)

/-- 'laws.FnExactUnwrapRows': WHATEVER THE INPUT: true; the input reads as it did. -/
def fnExactUnwrapRowsSpec : ChangeSpec := { name := "fnExactUnwrapRows", fn := fun _ => fun
  | [d1, d2] => { results := [.lit (.bool true)], args := [d1, d2] }
  | _ => none }
def fnExactUnwrapRowsRow : OpenClaim := { program := "ytlkgdfednejhiaa", sum := "276e619bceb29cb5518232942d7f3b57fc7a27a4d34c5129aa36dcfcf2f8db2a", func := "loop.example/g01225/laws.FnExactUnwrapRows", spec := "fnExactUnwrapRows", unfollowed := true, recurses := true, apart := false }
def FnExactUnwrapRowsSaid : Prop := fnExactUnwrapRowsRow.holds Try.pinned (OpenSpec.ofChange fnExactUnwrapRowsSpec)

/-- ITS FALSE NEIGHBOUR: 'it returns false'. Refute it at one input. -/
def fnExactUnwrapRowsWrong : ChangeSpec := { name := "fnExactUnwrapRows", fn := fun _ => fun
  | [d1, d2] => { results := [.lit (.bool false)], args := [d1, d2] }
  | _ => none }
def FnExactUnwrapRowsWrongFalsely : Prop := fnExactUnwrapRowsRow.holds Try.pinned (OpenSpec.ofChange fnExactUnwrapRowsWrong)

/-- 'laws.FnExactSlopesOf': WHATEVER THE INPUT: true; the input reads as it did. -/
def fnExactSlopesOfSpec : ChangeSpec := { name := "fnExactSlopesOf", fn := fun _ => fun
  | [d1, d2] => { results := [.lit (.bool true)], args := [d1, d2] }
  | _ => none }
def fnExactSlopesOfRow : OpenClaim := { program := "ytlkgdfednejhiaa", sum := "276e619bceb29cb5518232942d7f3b57fc7a27a4d34c5129aa36dcfcf2f8db2a", func := "loop.example/g01225/laws.FnExactSlopesOf", spec := "fnExactSlopesOf", unfollowed := true, recurses := true, apart := false }
def FnExactSlopesOfSaid : Prop := fnExactSlopesOfRow.holds Try.pinned (OpenSpec.ofChange fnExactSlopesOfSpec)

/-- ITS FALSE NEIGHBOUR: 'it returns false'. Refute it at one input. -/
def fnExactSlopesOfWrong : ChangeSpec := { name := "fnExactSlopesOf", fn := fun _ => fun
  | [d1, d2] => { results := [.lit (.bool false)], args := [d1, d2] }
  | _ => none }
def FnExactSlopesOfWrongFalsely : Prop := fnExactSlopesOfRow.holds Try.pinned (OpenSpec.ofChange fnExactSlopesOfWrong)

/-- 'laws.FnExactWaveOfHeights': WHATEVER THE INPUT: true; the input reads as it did. -/
def fnExactWaveOfHeightsSpec : ChangeSpec := { name := "fnExactWaveOfHeights", fn := fun _ => fun
  | [d1, d2] => { results := [.lit (.bool true)], args := [d1, d2] }
  | _ => none }
def fnExactWaveOfHeightsRow : OpenClaim := { program := "ytlkgdfednejhiaa", sum := "276e619bceb29cb5518232942d7f3b57fc7a27a4d34c5129aa36dcfcf2f8db2a", func := "loop.example/g01225/laws.FnExactWaveOfHeights", spec := "fnExactWaveOfHeights", inPlace := ["math.sqrt", "math.Float64bits", "math.Float64frombits"], unfollowed := true, recurses := true, apart := false }
def FnExactWaveOfHeightsSaid : Prop := fnExactWaveOfHeightsRow.holds Try.pinned (OpenSpec.ofChange fnExactWaveOfHeightsSpec)

/-- ITS FALSE NEIGHBOUR: 'it returns false'. Refute it at one input. -/
def fnExactWaveOfHeightsWrong : ChangeSpec := { name := "fnExactWaveOfHeights", fn := fun _ => fun
  | [d1, d2] => { results := [.lit (.bool false)], args := [d1, d2] }
  | _ => none }
def FnExactWaveOfHeightsWrongFalsely : Prop := fnExactWaveOfHeightsRow.holds Try.pinned (OpenSpec.ofChange fnExactWaveOfHeightsWrong)

/- THE SECOND FORM. 'bulk': how many values and letters a reading holds, each counted each time it is reached (what is shared counts as often as it is met; a slice's spare places count too). A statement '..UptoSaid' is the law's where the arguments, and the package variables that the reading takes, are together of bulk at most 1048576: NARROWER than '..Said'. Prove '..Said' where nothing that the law and all that it calls make is longer than what came in: it says more and counts as full. Else prove '..UptoSaid'. A law counts once. -/
mutual
def uptoBulk {H : Type} : DataW H → Nat
  | .lit (.string bytes) => bytes.length + 1
  | .lit _ => 1
  | .nil => 1
  | .ptr d => uptoBulk d + 1
  | .slice elems spare => uptoBulkAll elems + uptoBulkAll spare + 1
  | .agg parts => uptoBulkAll parts + 1
  | .iface _ d => uptoBulk d + 1
  | .map entries => uptoBulkEntries entries + 1
  | .held _ => 1
def uptoBulkAll {H : Type} : List (DataW H) → Nat
  | [] => 0
  | d :: r => uptoBulk d + uptoBulkAll r
def uptoBulkEntries {H : Type} : List (Lit × DataW H) → Nat
  | [] => 0
  | x :: r => uptoBulkEntry x + uptoBulkEntries r
def uptoBulkEntry {H : Type} : Lit × DataW H → Nat
  | (.string bytes, d) => bytes.length + uptoBulk d + 1
  | (_, d) => uptoBulk d + 1
 end
def uptoSmall : (H : Type) → List (DataW H) → Bool := fun _ ds => decide (uptoBulkAll ds ≤ 1048576)
def OpenSpec.upto (s : _root_.Go.ChangeSpec) : _root_.Go.OpenSpec := { _root_.Go.OpenSpec.ofChange s with cond := some uptoSmall }

/-- 'laws.FnUnwraps', WHERE WHAT IT READS IS OF BULK AT MOST 1048576: true; the input reads as it did. -/
def fnUnwrapsUptoRow : OpenClaim := { program := "ytlkgdfednejhiaa", sum := "276e619bceb29cb5518232942d7f3b57fc7a27a4d34c5129aa36dcfcf2f8db2a", func := "loop.example/g01225/laws.FnUnwraps", spec := "fnUnwraps", inPlace := ["math.Float64bits", "math.Float64frombits"], unfollowed := true, recurses := true, apart := false, narrowed := true }
def FnUnwrapsUptoSaid : Prop := fnUnwrapsUptoRow.holds Try.pinned (OpenSpec.upto fnUnwrapsSpec)

/-- 'laws.FnExactWrappedDifference', WHERE WHAT IT READS IS OF BULK AT MOST 1048576: true; the input reads as it did. -/
def fnExactWrappedDifferenceUptoRow : OpenClaim := { program := "ytlkgdfednejhiaa", sum := "276e619bceb29cb5518232942d7f3b57fc7a27a4d34c5129aa36dcfcf2f8db2a", func := "loop.example/g01225/laws.FnExactWrappedDifference", spec := "fnExactWrappedDifference", apart := false, narrowed := true }
def FnExactWrappedDifferenceUptoSaid : Prop := fnExactWrappedDifferenceUptoRow.holds Try.pinned (OpenSpec.upto fnExactWrappedDifferenceSpec)

/-- 'laws.FnExactIsHeightMap', WHERE WHAT IT READS IS OF BULK AT MOST 1048576: true; the input reads as it did. -/
def fnExactIsHeightMapUptoRow : OpenClaim := { program := "ytlkgdfednejhiaa", sum := "276e619bceb29cb5518232942d7f3b57fc7a27a4d34c5129aa36dcfcf2f8db2a", func := "loop.example/g01225/laws.FnExactIsHeightMap", spec := "fnExactIsHeightMap", unfollowed := true, recurses := true, apart := false, narrowed := true }
def FnExactIsHeightMapUptoSaid : Prop := fnExactIsHeightMapUptoRow.holds Try.pinned (OpenSpec.upto fnExactIsHeightMapSpec)

/-- 'laws.FnExactWrapHeights', WHERE WHAT IT READS IS OF BULK AT MOST 1048576: true; the input reads as it did. -/
def fnExactWrapHeightsUptoRow : OpenClaim := { program := "ytlkgdfednejhiaa", sum := "276e619bceb29cb5518232942d7f3b57fc7a27a4d34c5129aa36dcfcf2f8db2a", func := "loop.example/g01225/laws.FnExactWrapHeights", spec := "fnExactWrapHeights", unfollowed := true, recurses := true, apart := false, narrowed := true }
def FnExactWrapHeightsUptoSaid : Prop := fnExactWrapHeightsUptoRow.holds Try.pinned (OpenSpec.upto fnExactWrapHeightsSpec)

/-- 'laws.FnExactResiduesOf', WHERE WHAT IT READS IS OF BULK AT MOST 1048576: true; the input reads as it did. -/
def fnExactResiduesOfUptoRow : OpenClaim := { program := "ytlkgdfednejhiaa", sum := "276e619bceb29cb5518232942d7f3b57fc7a27a4d34c5129aa36dcfcf2f8db2a", func := "loop.example/g01225/laws.FnExactResiduesOf", spec := "fnExactResiduesOf", unfollowed := true, recurses := true, apart := false, narrowed := true }
def FnExactResiduesOfUptoSaid : Prop := fnExactResiduesOfUptoRow.holds Try.pinned (OpenSpec.upto fnExactResiduesOfSpec)

/-- 'laws.FnExactUnwrapRows', WHERE WHAT IT READS IS OF BULK AT MOST 1048576: true; the input reads as it did. -/
def fnExactUnwrapRowsUptoRow : OpenClaim := { program := "ytlkgdfednejhiaa", sum := "276e619bceb29cb5518232942d7f3b57fc7a27a4d34c5129aa36dcfcf2f8db2a", func := "loop.example/g01225/laws.FnExactUnwrapRows", spec := "fnExactUnwrapRows", unfollowed := true, recurses := true, apart := false, narrowed := true }
def FnExactUnwrapRowsUptoSaid : Prop := fnExactUnwrapRowsUptoRow.holds Try.pinned (OpenSpec.upto fnExactUnwrapRowsSpec)

/-- 'laws.FnExactSlopesOf', WHERE WHAT IT READS IS OF BULK AT MOST 1048576: true; the input reads as it did. -/
def fnExactSlopesOfUptoRow : OpenClaim := { program := "ytlkgdfednejhiaa", sum := "276e619bceb29cb5518232942d7f3b57fc7a27a4d34c5129aa36dcfcf2f8db2a", func := "loop.example/g01225/laws.FnExactSlopesOf", spec := "fnExactSlopesOf", unfollowed := true, recurses := true, apart := false, narrowed := true }
def FnExactSlopesOfUptoSaid : Prop := fnExactSlopesOfUptoRow.holds Try.pinned (OpenSpec.upto fnExactSlopesOfSpec)

/-- 'laws.FnExactWaveOfHeights', WHERE WHAT IT READS IS OF BULK AT MOST 1048576: true; the input reads as it did. -/
def fnExactWaveOfHeightsUptoRow : OpenClaim := { program := "ytlkgdfednejhiaa", sum := "276e619bceb29cb5518232942d7f3b57fc7a27a4d34c5129aa36dcfcf2f8db2a", func := "loop.example/g01225/laws.FnExactWaveOfHeights", spec := "fnExactWaveOfHeights", inPlace := ["math.sqrt", "math.Float64bits", "math.Float64frombits"], unfollowed := true, recurses := true, apart := false, narrowed := true }
def FnExactWaveOfHeightsUptoSaid : Prop := fnExactWaveOfHeightsUptoRow.holds Try.pinned (OpenSpec.upto fnExactWaveOfHeightsSpec)

end Rows
end Go.Proofs.Ytlkgdfednejhiaa
