/-
  NARROWER THAN 'FOR EVERY INPUT', by the rows' own cells (each row's printed sentence says how): FnWalshCodes: ifaces, laid · FnExactPictureOfSums: ifaces, laid.
  DERIVED. THE GIVEN ROWS OF THIS SEAT. 2 by the template 'for every input the law returns true; each argument reads behind the call as it read before'; 0 by the template 'total and deterministic' (their statements: YtclflnpbiiimiaaDoorTotals.lean).
  GIVEN WITH THE SEED: the statements are not yours to turn. If you find one false, say at which input.
  Laid BY PROGRAM, IN A SANDBOX (cutbox-rows.mjs): the forced cells as the released guide's own fill.sh prints them over the translation bd76d6266dcc553e… (all of the seat's roots in one cut). By AI agents, Wed Nov 11 2026. No macro, syntax, notation, axiom, sorry.
-/
import Derived.Test.YtclflnpbiiimiaaDoorChecked
import GoSem.Claim
import GoSem.ClaimJoined
import GoSem.ClaimMapViews
import Derived.JoinedTies
import Derived.KernelRfl
namespace Go.Proofs.YtclflnpbiiimiaaDoor
/- THE CELL 'sum', in the pinned program and in every row, IS THE sha256 OF THE DUMP (.gsa) THAT YtclflnpbiiimiaaDoorProg.lean LOADS. Nothing in Lean hashes anything: it is a label: what it is worth is what the hold of that sum in a sandbox is worth. -/
noncomputable def Tryd.pinned : Pinned := { name := "ytclflnpbiiimiaadoor", sum := "bd76d6266dcc553ea255c500938d860a97f2bf1229ecc969c7487544d770ad44", checked := Tryd.checked }
namespace Rows
def none {H : Type} : Left H := { results := [], args := [] }

/- WHAT THE LISTED PACKAGE-LEVEL VARIABLES READ AS WHEN THE CALL BEGINS. Each datum BY PROGRAM (the guide's laid-datum.mjs) off the statement by which the dump's own 'gosem.cut.vars' lays the variable. In a bare row this is a premise. The card (YtclflnpbiiimiaaDoorCards.lean) ties it to the program's text. -/
def laid_loop_example_g01225_impl_errNotFinite {H : Type} : DataW H := .iface "*errors.errorString" (.ptr (.agg [.lit (.string [119, 104, 97, 116, 32, 97, 114, 105, 115, 101, 115, 32, 105, 115, 32, 110, 111, 116, 32, 102, 105, 110, 105, 116, 101])]))

/-- 'laws.FnWalshCodes': WHATEVER THE INPUT: true; the input reads as it did. -/
def fnWalshCodesSpec : ChangeSpec := { name := "fnWalshCodes", vars := ["loop.example/g01225/impl.errNotFinite"], fn := fun _ => fun
  | [d, g1] => { results := [.lit (.bool true)], args := [d], vars := [g1] }
  | _ => none }
def fnWalshCodesRow : OpenClaim := { program := "ytclflnpbiiimiaadoor", sum := "bd76d6266dcc553ea255c500938d860a97f2bf1229ecc969c7487544d770ad44", func := "loop.example/g01225/laws.FnWalshCodes", spec := "fnWalshCodes", inPlace := ["math.Float64bits", "math.Float64frombits", "internal/reflectlite.TypeOf"], unfollowed := true, recurses := true, named := ["loop.example/g01225/impl.errNotFinite"], ifaces := true, apart := false, laid := [("loop.example/g01225/impl.errNotFinite", laid_loop_example_g01225_impl_errNotFinite)] }
def FnWalshCodesSaid : Prop := fnWalshCodesRow.holds Tryd.pinned (OpenSpec.ofChange fnWalshCodesSpec)

/-- ITS FALSE NEIGHBOUR: 'it returns false'. Refute it at one input. -/
def fnWalshCodesWrong : ChangeSpec := { name := "fnWalshCodes", vars := ["loop.example/g01225/impl.errNotFinite"], fn := fun _ => fun
  | [d, g1] => { results := [.lit (.bool false)], args := [d], vars := [g1] }
  | _ => none }
def FnWalshCodesWrongFalsely : Prop := fnWalshCodesRow.holds Tryd.pinned (OpenSpec.ofChange fnWalshCodesWrong)

/-- 'laws.FnExactPictureOfSums': WHATEVER THE INPUT: true; the input reads as it did. -/
def fnExactPictureOfSumsSpec : ChangeSpec := { name := "fnExactPictureOfSums", vars := ["loop.example/g01225/impl.errNotFinite"], fn := fun _ => fun
  | [d1, d2, g1] => { results := [.lit (.bool true)], args := [d1, d2], vars := [g1] }
  | _ => none }
def fnExactPictureOfSumsRow : OpenClaim := { program := "ytclflnpbiiimiaadoor", sum := "bd76d6266dcc553ea255c500938d860a97f2bf1229ecc969c7487544d770ad44", func := "loop.example/g01225/laws.FnExactPictureOfSums", spec := "fnExactPictureOfSums", inPlace := ["math.Float64bits", "math.Float64frombits", "internal/reflectlite.TypeOf"], unfollowed := true, recurses := true, named := ["loop.example/g01225/impl.errNotFinite"], ifaces := true, apart := false, laid := [("loop.example/g01225/impl.errNotFinite", laid_loop_example_g01225_impl_errNotFinite)] }
def FnExactPictureOfSumsSaid : Prop := fnExactPictureOfSumsRow.holds Tryd.pinned (OpenSpec.ofChange fnExactPictureOfSumsSpec)

/-- ITS FALSE NEIGHBOUR: 'it returns false'. Refute it at one input. -/
def fnExactPictureOfSumsWrong : ChangeSpec := { name := "fnExactPictureOfSums", vars := ["loop.example/g01225/impl.errNotFinite"], fn := fun _ => fun
  | [d1, d2, g1] => { results := [.lit (.bool false)], args := [d1, d2], vars := [g1] }
  | _ => none }
def FnExactPictureOfSumsWrongFalsely : Prop := fnExactPictureOfSumsRow.holds Tryd.pinned (OpenSpec.ofChange fnExactPictureOfSumsWrong)

/- THE SECOND FORM. 'bulk': how many values and letters a reading holds, each counted each time it is reached (what is shared counts as often as it is met; a slice's spare places count too). A statement '..UptoSaid' is the law's where the arguments, and the package variables that the reading takes, are together of bulk at most 1048576: NARROWER than '..Said'. Prove '..Said' where nothing that the law and all that it calls make is longer than what came in: it says more and counts as full. Else prove '..UptoSaid'. A law counts once. -/
mutual
def uptoBulk {H : Type} : DataW H → Nat
  | .lit (.string bytes) => bytes.length + 1
  | .lit _ => 1
  | .nil => 1
  | .ptr d => uptoBulk d + 1
  | .slice elems spare => uptoBulkAll elems + uptoBulkAll spare + 1
  | .agg parts => uptoBulkAll parts + 1
  | .iface _ d => uptoBulk d + 1
  | .map entries => uptoBulkEntries entries + 1
  | .held _ => 1
def uptoBulkAll {H : Type} : List (DataW H) → Nat
  | [] => 0
  | d :: r => uptoBulk d + uptoBulkAll r
def uptoBulkEntries {H : Type} : List (Lit × DataW H) → Nat
  | [] => 0
  | x :: r => uptoBulkEntry x + uptoBulkEntries r
def uptoBulkEntry {H : Type} : Lit × DataW H → Nat
  | (.string bytes, d) => bytes.length + uptoBulk d + 1
  | (_, d) => uptoBulk d + 1
 end
def uptoSmall : (H : Type) → List (DataW H) → Bool := fun _ ds => decide (uptoBulkAll ds ≤ 1048576)
def OpenSpec.upto (s : _root_.Go.ChangeSpec) : _root_.Go.OpenSpec := { _root_.Go.OpenSpec.ofChange s with cond := some uptoSmall }

/-- 'laws.FnWalshCodes', WHERE WHAT IT READS IS OF BULK AT MOST 1048576: true; the input reads as it did. -/
def fnWalshCodesUptoRow : OpenClaim := { program := "ytclflnpbiiimiaadoor", sum := "bd76d6266dcc553ea255c500938d860a97f2bf1229ecc969c7487544d770ad44", func := "loop.example/g01225/laws.FnWalshCodes", spec := "fnWalshCodes", inPlace := ["math.Float64bits", "math.Float64frombits", "internal/reflectlite.TypeOf"], unfollowed := true, recurses := true, named := ["loop.example/g01225/impl.errNotFinite"], ifaces := true, apart := false, laid := [("loop.example/g01225/impl.errNotFinite", laid_loop_example_g01225_impl_errNotFinite)], narrowed := true }
def FnWalshCodesUptoSaid : Prop := fnWalshCodesUptoRow.holds Tryd.pinned (OpenSpec.upto fnWalshCodesSpec)

/-- 'laws.FnExactPictureOfSums', WHERE WHAT IT READS IS OF BULK AT MOST 1048576: true; the input reads as it did. -/
def fnExactPictureOfSumsUptoRow : OpenClaim := { program := "ytclflnpbiiimiaadoor", sum := "bd76d6266dcc553ea255c500938d860a97f2bf1229ecc969c7487544d770ad44", func := "loop.example/g01225/laws.FnExactPictureOfSums", spec := "fnExactPictureOfSums", inPlace := ["math.Float64bits", "math.Float64frombits", "internal/reflectlite.TypeOf"], unfollowed := true, recurses := true, named := ["loop.example/g01225/impl.errNotFinite"], ifaces := true, apart := false, laid := [("loop.example/g01225/impl.errNotFinite", laid_loop_example_g01225_impl_errNotFinite)], narrowed := true }
def FnExactPictureOfSumsUptoSaid : Prop := fnExactPictureOfSumsUptoRow.holds Tryd.pinned (OpenSpec.upto fnExactPictureOfSumsSpec)

end Rows
end Go.Proofs.YtclflnpbiiimiaaDoor
