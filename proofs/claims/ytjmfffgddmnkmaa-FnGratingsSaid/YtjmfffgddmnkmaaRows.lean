/-
  No cell of these rows narrows 'for every input' (looked for: loops, veiled, ifaces, maps, wideKeys, modest, calm, conditions, laid).
  DERIVED. THE GIVEN ROWS OF THIS SEAT. 12 by the template 'for every input the law returns true; each argument reads behind the call as it read before'; 0 by the template 'total and deterministic' (their statements: YtjmfffgddmnkmaaTotals.lean).
  GIVEN WITH THE SEED: the statements are not yours to turn. If you find one false, say at which input.
  Laid BY PROGRAM, IN A SANDBOX (cutbox-rows.mjs): the forced cells as the released guide's own fill.sh prints them over the translation 83505f1ddea1efc3… (all of the seat's roots in one cut). By AI agents, Wed Nov 11 2026. No macro, syntax, notation, axiom, sorry.
-/
import Derived.Test.YtjmfffgddmnkmaaChecked
import GoSem.Claim
import GoSem.ClaimJoined
import GoSem.ClaimMapViews
import Derived.JoinedTies
import Derived.KernelRfl
namespace Go.Proofs.Ytjmfffgddmnkmaa
/- THE CELL 'sum', in the pinned program and in every row, IS THE sha256 OF THE DUMP (.gsa) THAT YtjmfffgddmnkmaaProg.lean LOADS. Nothing in Lean hashes anything: it is a label: what it is worth is what the hold of that sum in a sandbox is worth. -/
noncomputable def Try.pinned : Pinned := { name := "ytjmfffgddmnkmaa", sum := "83505f1ddea1efc3febd00a354640cfaf340af6bd5c91bae024eed4fc7d77e16", checked := Try.checked }
namespace Rows
def none {H : Type} : Left H := { results := [], args := [] }

/-- 'laws.FnPhases': WHATEVER THE INPUT: true; the input reads as it did. -/
def fnPhasesSpec : ChangeSpec := { name := "fnPhases", fn := fun _ => fun
  | [d] => { results := [.lit (.bool true)], args := [d] }
  | _ => none }
def fnPhasesRow : OpenClaim := { program := "ytjmfffgddmnkmaa", sum := "83505f1ddea1efc3febd00a354640cfaf340af6bd5c91bae024eed4fc7d77e16", func := "loop.example/g01225/laws.FnPhases", spec := "fnPhases", inPlace := ["math.sqrt", "math.Float64bits", "math.Float64frombits"], unfollowed := true, recurses := true, apart := false }
def FnPhasesSaid : Prop := fnPhasesRow.holds Try.pinned (OpenSpec.ofChange fnPhasesSpec)

/-- ITS FALSE NEIGHBOUR: 'it returns false'. Refute it at one input. -/
def fnPhasesWrong : ChangeSpec := { name := "fnPhases", fn := fun _ => fun
  | [d] => { results := [.lit (.bool false)], args := [d] }
  | _ => none }
def FnPhasesWrongFalsely : Prop := fnPhasesRow.holds Try.pinned (OpenSpec.ofChange fnPhasesWrong)

/-- 'laws.FnExactPhaseOf': WHATEVER THE INPUT: true; the input reads as it did. -/
def fnExactPhaseOfSpec : ChangeSpec := { name := "fnExactPhaseOf", fn := fun _ => fun
  | [d] => { results := [.lit (.bool true)], args := [d] }
  | _ => none }
def fnExactPhaseOfRow : OpenClaim := { program := "ytjmfffgddmnkmaa", sum := "83505f1ddea1efc3febd00a354640cfaf340af6bd5c91bae024eed4fc7d77e16", func := "loop.example/g01225/laws.FnExactPhaseOf", spec := "fnExactPhaseOf", inPlace := ["math.sqrt"], apart := false }
def FnExactPhaseOfSaid : Prop := fnExactPhaseOfRow.holds Try.pinned (OpenSpec.ofChange fnExactPhaseOfSpec)

/-- ITS FALSE NEIGHBOUR: 'it returns false'. Refute it at one input. -/
def fnExactPhaseOfWrong : ChangeSpec := { name := "fnExactPhaseOf", fn := fun _ => fun
  | [d] => { results := [.lit (.bool false)], args := [d] }
  | _ => none }
def FnExactPhaseOfWrongFalsely : Prop := fnExactPhaseOfRow.holds Try.pinned (OpenSpec.ofChange fnExactPhaseOfWrong)

/-- 'laws.FnExactIsPicture': WHATEVER THE INPUT: true; the input reads as it did. -/
def fnExactIsPictureSpec : ChangeSpec := { name := "fnExactIsPicture", fn := fun _ => fun
  | [d] => { results := [.lit (.bool true)], args := [d] }
  | _ => none }
def fnExactIsPictureRow : OpenClaim := { program := "ytjmfffgddmnkmaa", sum := "83505f1ddea1efc3febd00a354640cfaf340af6bd5c91bae024eed4fc7d77e16", func := "loop.example/g01225/laws.FnExactIsPicture", spec := "fnExactIsPicture", inPlace := ["math.Float64bits", "math.Float64frombits"], apart := false }
def FnExactIsPictureSaid : Prop := fnExactIsPictureRow.holds Try.pinned (OpenSpec.ofChange fnExactIsPictureSpec)

/-- ITS FALSE NEIGHBOUR: 'it returns false'. Refute it at one input. -/
def fnExactIsPictureWrong : ChangeSpec := { name := "fnExactIsPicture", fn := fun _ => fun
  | [d] => { results := [.lit (.bool false)], args := [d] }
  | _ => none }
def FnExactIsPictureWrongFalsely : Prop := fnExactIsPictureRow.holds Try.pinned (OpenSpec.ofChange fnExactIsPictureWrong)

/-- 'laws.FnExactPlaneWave': WHATEVER THE INPUT: true; the input reads as it did. -/
def fnExactPlaneWaveSpec : ChangeSpec := { name := "fnExactPlaneWave", fn := fun _ => fun
  | [d1, d2, d3] => { results := [.lit (.bool true)], args := [d1, d2, d3] }
  | _ => none }
def fnExactPlaneWaveRow : OpenClaim := { program := "ytjmfffgddmnkmaa", sum := "83505f1ddea1efc3febd00a354640cfaf340af6bd5c91bae024eed4fc7d77e16", func := "loop.example/g01225/laws.FnExactPlaneWave", spec := "fnExactPlaneWave", inPlace := ["math.sqrt", "math.Float64bits", "math.Float64frombits"], unfollowed := true, recurses := true, apart := false }
def FnExactPlaneWaveSaid : Prop := fnExactPlaneWaveRow.holds Try.pinned (OpenSpec.ofChange fnExactPlaneWaveSpec)

/-- ITS FALSE NEIGHBOUR: 'it returns false'. Refute it at one input. -/
def fnExactPlaneWaveWrong : ChangeSpec := { name := "fnExactPlaneWave", fn := fun _ => fun
  | [d1, d2, d3] => { results := [.lit (.bool false)], args := [d1, d2, d3] }
  | _ => none }
def FnExactPlaneWaveWrongFalsely : Prop := fnExactPlaneWaveRow.holds Try.pinned (OpenSpec.ofChange fnExactPlaneWaveWrong)

/-- 'laws.FnGratings': WHATEVER THE INPUT: true; the input reads as it did. -/
def fnGratingsSpec : ChangeSpec := { name := "fnGratings", fn := fun _ => fun
  | [d] => { results := [.lit (.bool true)], args := [d] }
  | _ => none }
def fnGratingsRow : OpenClaim := { program := "ytjmfffgddmnkmaa", sum := "83505f1ddea1efc3febd00a354640cfaf340af6bd5c91bae024eed4fc7d77e16", func := "loop.example/g01225/laws.FnGratings", spec := "fnGratings", inPlace := ["math.Float64bits", "math.Float64frombits", "math.sqrt"], unfollowed := true, recurses := true, apart := false }
def FnGratingsSaid : Prop := fnGratingsRow.holds Try.pinned (OpenSpec.ofChange fnGratingsSpec)

/-- ITS FALSE NEIGHBOUR: 'it returns false'. Refute it at one input. -/
def fnGratingsWrong : ChangeSpec := { name := "fnGratings", fn := fun _ => fun
  | [d] => { results := [.lit (.bool false)], args := [d] }
  | _ => none }
def FnGratingsWrongFalsely : Prop := fnGratingsRow.holds Try.pinned (OpenSpec.ofChange fnGratingsWrong)

/-- 'laws.FnExactSlitMask': WHATEVER THE INPUT: true; the input reads as it did. -/
def fnExactSlitMaskSpec : ChangeSpec := { name := "fnExactSlitMask", fn := fun _ => fun
  | [d1, d2, d3] => { results := [.lit (.bool true)], args := [d1, d2, d3] }
  | _ => none }
def fnExactSlitMaskRow : OpenClaim := { program := "ytjmfffgddmnkmaa", sum := "83505f1ddea1efc3febd00a354640cfaf340af6bd5c91bae024eed4fc7d77e16", func := "loop.example/g01225/laws.FnExactSlitMask", spec := "fnExactSlitMask", inPlace := ["math.Float64bits", "math.Float64frombits"], unfollowed := true, recurses := true, apart := false }
def FnExactSlitMaskSaid : Prop := fnExactSlitMaskRow.holds Try.pinned (OpenSpec.ofChange fnExactSlitMaskSpec)

/-- ITS FALSE NEIGHBOUR: 'it returns false'. Refute it at one input. -/
def fnExactSlitMaskWrong : ChangeSpec := { name := "fnExactSlitMask", fn := fun _ => fun
  | [d1, d2, d3] => { results := [.lit (.bool false)], args := [d1, d2, d3] }
  | _ => none }
def FnExactSlitMaskWrongFalsely : Prop := fnExactSlitMaskRow.holds Try.pinned (OpenSpec.ofChange fnExactSlitMaskWrong)

/-- 'laws.FnExactDiscMask': WHATEVER THE INPUT: true; the input reads as it did. -/
def fnExactDiscMaskSpec : ChangeSpec := { name := "fnExactDiscMask", fn := fun _ => fun
  | [d1, d2, d3, d4] => { results := [.lit (.bool true)], args := [d1, d2, d3, d4] }
  | _ => none }
def fnExactDiscMaskRow : OpenClaim := { program := "ytjmfffgddmnkmaa", sum := "83505f1ddea1efc3febd00a354640cfaf340af6bd5c91bae024eed4fc7d77e16", func := "loop.example/g01225/laws.FnExactDiscMask", spec := "fnExactDiscMask", inPlace := ["math.Float64bits", "math.Float64frombits"], unfollowed := true, recurses := true, apart := false }
def FnExactDiscMaskSaid : Prop := fnExactDiscMaskRow.holds Try.pinned (OpenSpec.ofChange fnExactDiscMaskSpec)

/-- ITS FALSE NEIGHBOUR: 'it returns false'. Refute it at one input. -/
def fnExactDiscMaskWrong : ChangeSpec := { name := "fnExactDiscMask", fn := fun _ => fun
  | [d1, d2, d3, d4] => { results := [.lit (.bool false)], args := [d1, d2, d3, d4] }
  | _ => none }
def FnExactDiscMaskWrongFalsely : Prop := fnExactDiscMaskRow.holds Try.pinned (OpenSpec.ofChange fnExactDiscMaskWrong)

/-- 'laws.FnExactGratingMask': WHATEVER THE INPUT: true; the input reads as it did. -/
def fnExactGratingMaskSpec : ChangeSpec := { name := "fnExactGratingMask", fn := fun _ => fun
  | [d1, d2, d3] => { results := [.lit (.bool true)], args := [d1, d2, d3] }
  | _ => none }
def fnExactGratingMaskRow : OpenClaim := { program := "ytjmfffgddmnkmaa", sum := "83505f1ddea1efc3febd00a354640cfaf340af6bd5c91bae024eed4fc7d77e16", func := "loop.example/g01225/laws.FnExactGratingMask", spec := "fnExactGratingMask", inPlace := ["math.Float64bits", "math.Float64frombits"], unfollowed := true, recurses := true, apart := false }
def FnExactGratingMaskSaid : Prop := fnExactGratingMaskRow.holds Try.pinned (OpenSpec.ofChange fnExactGratingMaskSpec)

/-- ITS FALSE NEIGHBOUR: 'it returns false'. Refute it at one input. -/
def fnExactGratingMaskWrong : ChangeSpec := { name := "fnExactGratingMask", fn := fun _ => fun
  | [d1, d2, d3] => { results := [.lit (.bool false)], args := [d1, d2, d3] }
  | _ => none }
def FnExactGratingMaskWrongFalsely : Prop := fnExactGratingMaskRow.holds Try.pinned (OpenSpec.ofChange fnExactGratingMaskWrong)

/-- 'laws.FnExactCheckMask': WHATEVER THE INPUT: true; the input reads as it did. -/
def fnExactCheckMaskSpec : ChangeSpec := { name := "fnExactCheckMask", fn := fun _ => fun
  | [d1, d2] => { results := [.lit (.bool true)], args := [d1, d2] }
  | _ => none }
def fnExactCheckMaskRow : OpenClaim := { program := "ytjmfffgddmnkmaa", sum := "83505f1ddea1efc3febd00a354640cfaf340af6bd5c91bae024eed4fc7d77e16", func := "loop.example/g01225/laws.FnExactCheckMask", spec := "fnExactCheckMask", inPlace := ["math.Float64bits", "math.Float64frombits"], unfollowed := true, recurses := true, apart := false }
def FnExactCheckMaskSaid : Prop := fnExactCheckMaskRow.holds Try.pinned (OpenSpec.ofChange fnExactCheckMaskSpec)

/-- ITS FALSE NEIGHBOUR: 'it returns false'. Refute it at one input. -/
def fnExactCheckMaskWrong : ChangeSpec := { name := "fnExactCheckMask", fn := fun _ => fun
  | [d1, d2] => { results := [.lit (.bool false)], args := [d1, d2] }
  | _ => none }
def FnExactCheckMaskWrongFalsely : Prop := fnExactCheckMaskRow.holds Try.pinned (OpenSpec.ofChange fnExactCheckMaskWrong)

/-- 'laws.FnExactZoneMask': WHATEVER THE INPUT: true; the input reads as it did. -/
def fnExactZoneMaskSpec : ChangeSpec := { name := "fnExactZoneMask", fn := fun _ => fun
  | [d1, d2, d3, d4] => { results := [.lit (.bool true)], args := [d1, d2, d3, d4] }
  | _ => none }
def fnExactZoneMaskRow : OpenClaim := { program := "ytjmfffgddmnkmaa", sum := "83505f1ddea1efc3febd00a354640cfaf340af6bd5c91bae024eed4fc7d77e16", func := "loop.example/g01225/laws.FnExactZoneMask", spec := "fnExactZoneMask", inPlace := ["math.Float64bits", "math.Float64frombits"], unfollowed := true, recurses := true, apart := false }
def FnExactZoneMaskSaid : Prop := fnExactZoneMaskRow.holds Try.pinned (OpenSpec.ofChange fnExactZoneMaskSpec)

/-- ITS FALSE NEIGHBOUR: 'it returns false'. Refute it at one input. -/
def fnExactZoneMaskWrong : ChangeSpec := { name := "fnExactZoneMask", fn := fun _ => fun
  | [d1, d2, d3, d4] => { results := [.lit (.bool false)], args := [d1, d2, d3, d4] }
  | _ => none }
def FnExactZoneMaskWrongFalsely : Prop := fnExactZoneMaskRow.holds Try.pinned (OpenSpec.ofChange fnExactZoneMaskWrong)

/-- 'laws.FnExactBlazedWave': WHATEVER THE INPUT: true; the input reads as it did. -/
def fnExactBlazedWaveSpec : ChangeSpec := { name := "fnExactBlazedWave", fn := fun _ => fun
  | [d1, d2, d3] => { results := [.lit (.bool true)], args := [d1, d2, d3] }
  | _ => none }
def fnExactBlazedWaveRow : OpenClaim := { program := "ytjmfffgddmnkmaa", sum := "83505f1ddea1efc3febd00a354640cfaf340af6bd5c91bae024eed4fc7d77e16", func := "loop.example/g01225/laws.FnExactBlazedWave", spec := "fnExactBlazedWave", inPlace := ["math.sqrt", "math.Float64bits", "math.Float64frombits"], unfollowed := true, recurses := true, apart := false }
def FnExactBlazedWaveSaid : Prop := fnExactBlazedWaveRow.holds Try.pinned (OpenSpec.ofChange fnExactBlazedWaveSpec)

/-- ITS FALSE NEIGHBOUR: 'it returns false'. Refute it at one input. -/
def fnExactBlazedWaveWrong : ChangeSpec := { name := "fnExactBlazedWave", fn := fun _ => fun
  | [d1, d2, d3] => { results := [.lit (.bool false)], args := [d1, d2, d3] }
  | _ => none }
def FnExactBlazedWaveWrongFalsely : Prop := fnExactBlazedWaveRow.holds Try.pinned (OpenSpec.ofChange fnExactBlazedWaveWrong)

/-- 'laws.FnExactLensWave': WHATEVER THE INPUT: true; the input reads as it did. -/
def fnExactLensWaveSpec : ChangeSpec := { name := "fnExactLensWave", fn := fun _ => fun
  | [d1, d2, d3, d4] => { results := [.lit (.bool true)], args := [d1, d2, d3, d4] }
  | _ => none }
def fnExactLensWaveRow : OpenClaim := { program := "ytjmfffgddmnkmaa", sum := "83505f1ddea1efc3febd00a354640cfaf340af6bd5c91bae024eed4fc7d77e16", func := "loop.example/g01225/laws.FnExactLensWave", spec := "fnExactLensWave", inPlace := ["math.sqrt", "math.Float64bits", "math.Float64frombits"], unfollowed := true, recurses := true, apart := false }
def FnExactLensWaveSaid : Prop := fnExactLensWaveRow.holds Try.pinned (OpenSpec.ofChange fnExactLensWaveSpec)

/-- ITS FALSE NEIGHBOUR: 'it returns false'. Refute it at one input. -/
def fnExactLensWaveWrong : ChangeSpec := { name := "fnExactLensWave", fn := fun _ => fun
  | [d1, d2, d3, d4] => { results := [.lit (.bool false)], args := [d1, d2, d3, d4] }
  | _ => none }
def FnExactLensWaveWrongFalsely : Prop := fnExactLensWaveRow.holds Try.pinned (OpenSpec.ofChange fnExactLensWaveWrong)

/- THE SECOND FORM. 'bulk': how many values and letters a reading holds, each counted each time it is reached (what is shared counts as often as it is met; a slice's spare places count too). A statement '..UptoSaid' is the law's where the arguments, and the package variables that the reading takes, are together of bulk at most 1048576: NARROWER than '..Said'. Prove '..Said' where nothing that the law and all that it calls make is longer than what came in: it says more and counts as full. Else prove '..UptoSaid'. A law counts once. -/
mutual
def uptoBulk {H : Type} : DataW H → Nat
  | .lit (.string bytes) => bytes.length + 1
  | .lit _ => 1
  | .nil => 1
  | .ptr d => uptoBulk d + 1
  | .slice elems spare => uptoBulkAll elems + uptoBulkAll spare + 1
  | .agg parts => uptoBulkAll parts + 1
  | .iface _ d => uptoBulk d + 1
  | .map entries => uptoBulkEntries entries + 1
  | .held _ => 1
def uptoBulkAll {H : Type} : List (DataW H) → Nat
  | [] => 0
  | d :: r => uptoBulk d + uptoBulkAll r
def uptoBulkEntries {H : Type} : List (Lit × DataW H) → Nat
  | [] => 0
  | x :: r => uptoBulkEntry x + uptoBulkEntries r
def uptoBulkEntry {H : Type} : Lit × DataW H → Nat
  | (.string bytes, d) => bytes.length + uptoBulk d + 1
  | (_, d) => uptoBulk d + 1
 end
def uptoSmall : (H : Type) → List (DataW H) → Bool := fun _ ds => decide (uptoBulkAll ds ≤ 1048576)
def OpenSpec.upto (s : _root_.Go.ChangeSpec) : _root_.Go.OpenSpec := { _root_.Go.OpenSpec.ofChange s with cond := some uptoSmall }

/-- 'laws.FnPhases', WHERE WHAT IT READS IS OF BULK AT MOST 1048576: true; the input reads as it did. -/
def fnPhasesUptoRow : OpenClaim := { program := "ytjmfffgddmnkmaa", sum := "83505f1ddea1efc3febd00a354640cfaf340af6bd5c91bae024eed4fc7d77e16", func := "loop.example/g01225/laws.FnPhases", spec := "fnPhases", inPlace := ["math.sqrt", "math.Float64bits", "math.Float64frombits"], unfollowed := true, recurses := true, apart := false, narrowed := true }
def FnPhasesUptoSaid : Prop := fnPhasesUptoRow.holds Try.pinned (OpenSpec.upto fnPhasesSpec)

/-- 'laws.FnExactPhaseOf', WHERE WHAT IT READS IS OF BULK AT MOST 1048576: true; the input reads as it did. -/
def fnExactPhaseOfUptoRow : OpenClaim := { program := "ytjmfffgddmnkmaa", sum := "83505f1ddea1efc3febd00a354640cfaf340af6bd5c91bae024eed4fc7d77e16", func := "loop.example/g01225/laws.FnExactPhaseOf", spec := "fnExactPhaseOf", inPlace := ["math.sqrt"], apart := false, narrowed := true }
def FnExactPhaseOfUptoSaid : Prop := fnExactPhaseOfUptoRow.holds Try.pinned (OpenSpec.upto fnExactPhaseOfSpec)

/-- 'laws.FnExactIsPicture', WHERE WHAT IT READS IS OF BULK AT MOST 1048576: true; the input reads as it did. -/
def fnExactIsPictureUptoRow : OpenClaim := { program := "ytjmfffgddmnkmaa", sum := "83505f1ddea1efc3febd00a354640cfaf340af6bd5c91bae024eed4fc7d77e16", func := "loop.example/g01225/laws.FnExactIsPicture", spec := "fnExactIsPicture", inPlace := ["math.Float64bits", "math.Float64frombits"], apart := false, narrowed := true }
def FnExactIsPictureUptoSaid : Prop := fnExactIsPictureUptoRow.holds Try.pinned (OpenSpec.upto fnExactIsPictureSpec)

/-- 'laws.FnExactPlaneWave', WHERE WHAT IT READS IS OF BULK AT MOST 1048576: true; the input reads as it did. -/
def fnExactPlaneWaveUptoRow : OpenClaim := { program := "ytjmfffgddmnkmaa", sum := "83505f1ddea1efc3febd00a354640cfaf340af6bd5c91bae024eed4fc7d77e16", func := "loop.example/g01225/laws.FnExactPlaneWave", spec := "fnExactPlaneWave", inPlace := ["math.sqrt", "math.Float64bits", "math.Float64frombits"], unfollowed := true, recurses := true, apart := false, narrowed := true }
def FnExactPlaneWaveUptoSaid : Prop := fnExactPlaneWaveUptoRow.holds Try.pinned (OpenSpec.upto fnExactPlaneWaveSpec)

/-- 'laws.FnGratings', WHERE WHAT IT READS IS OF BULK AT MOST 1048576: true; the input reads as it did. -/
def fnGratingsUptoRow : OpenClaim := { program := "ytjmfffgddmnkmaa", sum := "83505f1ddea1efc3febd00a354640cfaf340af6bd5c91bae024eed4fc7d77e16", func := "loop.example/g01225/laws.FnGratings", spec := "fnGratings", inPlace := ["math.Float64bits", "math.Float64frombits", "math.sqrt"], unfollowed := true, recurses := true, apart := false, narrowed := true }
def FnGratingsUptoSaid : Prop := fnGratingsUptoRow.holds Try.pinned (OpenSpec.upto fnGratingsSpec)

/-- 'laws.FnExactSlitMask', WHERE WHAT IT READS IS OF BULK AT MOST 1048576: true; the input reads as it did. -/
def fnExactSlitMaskUptoRow : OpenClaim := { program := "ytjmfffgddmnkmaa", sum := "83505f1ddea1efc3febd00a354640cfaf340af6bd5c91bae024eed4fc7d77e16", func := "loop.example/g01225/laws.FnExactSlitMask", spec := "fnExactSlitMask", inPlace := ["math.Float64bits", "math.Float64frombits"], unfollowed := true, recurses := true, apart := false, narrowed := true }
def FnExactSlitMaskUptoSaid : Prop := fnExactSlitMaskUptoRow.holds Try.pinned (OpenSpec.upto fnExactSlitMaskSpec)

/-- 'laws.FnExactDiscMask', WHERE WHAT IT READS IS OF BULK AT MOST 1048576: true; the input reads as it did. -/
def fnExactDiscMaskUptoRow : OpenClaim := { program := "ytjmfffgddmnkmaa", sum := "83505f1ddea1efc3febd00a354640cfaf340af6bd5c91bae024eed4fc7d77e16", func := "loop.example/g01225/laws.FnExactDiscMask", spec := "fnExactDiscMask", inPlace := ["math.Float64bits", "math.Float64frombits"], unfollowed := true, recurses := true, apart := false, narrowed := true }
def FnExactDiscMaskUptoSaid : Prop := fnExactDiscMaskUptoRow.holds Try.pinned (OpenSpec.upto fnExactDiscMaskSpec)

/-- 'laws.FnExactGratingMask', WHERE WHAT IT READS IS OF BULK AT MOST 1048576: true; the input reads as it did. -/
def fnExactGratingMaskUptoRow : OpenClaim := { program := "ytjmfffgddmnkmaa", sum := "83505f1ddea1efc3febd00a354640cfaf340af6bd5c91bae024eed4fc7d77e16", func := "loop.example/g01225/laws.FnExactGratingMask", spec := "fnExactGratingMask", inPlace := ["math.Float64bits", "math.Float64frombits"], unfollowed := true, recurses := true, apart := false, narrowed := true }
def FnExactGratingMaskUptoSaid : Prop := fnExactGratingMaskUptoRow.holds Try.pinned (OpenSpec.upto fnExactGratingMaskSpec)

/-- 'laws.FnExactCheckMask', WHERE WHAT IT READS IS OF BULK AT MOST 1048576: true; the input reads as it did. -/
def fnExactCheckMaskUptoRow : OpenClaim := { program := "ytjmfffgddmnkmaa", sum := "83505f1ddea1efc3febd00a354640cfaf340af6bd5c91bae024eed4fc7d77e16", func := "loop.example/g01225/laws.FnExactCheckMask", spec := "fnExactCheckMask", inPlace := ["math.Float64bits", "math.Float64frombits"], unfollowed := true, recurses := true, apart := false, narrowed := true }
def FnExactCheckMaskUptoSaid : Prop := fnExactCheckMaskUptoRow.holds Try.pinned (OpenSpec.upto fnExactCheckMaskSpec)

/-- 'laws.FnExactZoneMask', WHERE WHAT IT READS IS OF BULK AT MOST 1048576: true; the input reads as it did. -/
def fnExactZoneMaskUptoRow : OpenClaim := { program := "ytjmfffgddmnkmaa", sum := "83505f1ddea1efc3febd00a354640cfaf340af6bd5c91bae024eed4fc7d77e16", func := "loop.example/g01225/laws.FnExactZoneMask", spec := "fnExactZoneMask", inPlace := ["math.Float64bits", "math.Float64frombits"], unfollowed := true, recurses := true, apart := false, narrowed := true }
def FnExactZoneMaskUptoSaid : Prop := fnExactZoneMaskUptoRow.holds Try.pinned (OpenSpec.upto fnExactZoneMaskSpec)

/-- 'laws.FnExactBlazedWave', WHERE WHAT IT READS IS OF BULK AT MOST 1048576: true; the input reads as it did. -/
def fnExactBlazedWaveUptoRow : OpenClaim := { program := "ytjmfffgddmnkmaa", sum := "83505f1ddea1efc3febd00a354640cfaf340af6bd5c91bae024eed4fc7d77e16", func := "loop.example/g01225/laws.FnExactBlazedWave", spec := "fnExactBlazedWave", inPlace := ["math.sqrt", "math.Float64bits", "math.Float64frombits"], unfollowed := true, recurses := true, apart := false, narrowed := true }
def FnExactBlazedWaveUptoSaid : Prop := fnExactBlazedWaveUptoRow.holds Try.pinned (OpenSpec.upto fnExactBlazedWaveSpec)

/-- 'laws.FnExactLensWave', WHERE WHAT IT READS IS OF BULK AT MOST 1048576: true; the input reads as it did. -/
def fnExactLensWaveUptoRow : OpenClaim := { program := "ytjmfffgddmnkmaa", sum := "83505f1ddea1efc3febd00a354640cfaf340af6bd5c91bae024eed4fc7d77e16", func := "loop.example/g01225/laws.FnExactLensWave", spec := "fnExactLensWave", inPlace := ["math.sqrt", "math.Float64bits", "math.Float64frombits"], unfollowed := true, recurses := true, apart := false, narrowed := true }
def FnExactLensWaveUptoSaid : Prop := fnExactLensWaveUptoRow.holds Try.pinned (OpenSpec.upto fnExactLensWaveSpec)

end Rows
end Go.Proofs.Ytjmfffgddmnkmaa
