/- The model's IsBalanced: the answer and the code. Condition: as many numbers as a law lets in. -/
import Derived.Test.YtclflnpbiiimiaaDoorM19
namespace Go.Proofs.YtclflnpbiiimiaaDoor
open Go Go.RowKit Ieee

/-- is a number 1 or -1 -/
def pmOne (x : Nat) : Bool := (FloatKind.f32.format.order x plusOne == some .eq) || (FloatKind.f32.format.order x minusOne == some .eq)
/-- is a list's number the same from the second on -/
def sameTo (R : List Nat) (n : Nat) : Bool := (List.range n).all (fun k => decide (k < 2) || (FloatKind.f32.format.order (R.getD k 0) (R.getD 1 0) == some .eq))
theorem same_succ (R : List Nat) (n : Nat) : sameTo R (n + 1) = (sameTo R n && (decide (n < 2) || (FloatKind.f32.format.order (R.getD n 0) (R.getD 1 0) == some .eq))) := by
  unfold sameTo
  rw [List.range_succ, List.all_append]
  simp
theorem same_two (R : List Nat) : sameTo R 2 = true := rfl
def ibOk (A : List Nat) : Bool := decide (1 ≤ A.length) && decide (A.length ≤ 64)
def ibCode (A : List Nat) : Int := if A.all fin = false then 1 else if ibOk A = false then 2 else if A.all pmOne = false then 0 else ansC (cor A A)
def ibAns (A : List Nat) : Bool := A.all fin && ibOk A && A.all pmOne && sameTo (ansL (cor A A)) (ansL (cor A A)).length
/-- what is asked of a function that answers whether, and a code -/
def BoolF (f : FuncId) (A : List Nat) (b : Bool) (c : Int) : Prop :=
  A.length ≤ 1048576 → ∀ v w, OwnF 0 v A w → Calls Tryd.prog f #[v] w fun e w' => e = .returned (.tuple #[.bool b, .int .i64 c]) ∧ Below w.heap.size w w'
theorem same_small (R : List Nat) (n : Nat) (h : n ≤ 2) : sameTo R n = true := by
  unfold sameTo
  rw [List.all_eq_true]
  intro k hk
  have : k < n := List.mem_range.1 hk
  simp
  omega
theorem same_stop (R : List Nat) (k n : Nat) (hk : k < n) (h2 : 2 ≤ k) (h : (FloatKind.f32.format.order (R.getD k 0) (R.getD 1 0) == some .eq) = false) : sameTo R n = false := by
  unfold sameTo
  rw [List.all_eq_false]
  refine ⟨k, List.mem_range.2 hk, ?_⟩
  rw [h, decide_eq_false (by omega)]
  decide
theorem neq_of (x y : Nat) : (FloatKind.f32.format.order x y != some .eq) = !(FloatKind.f32.format.order x y == some .eq) := rfl

end Go.Proofs.YtclflnpbiiimiaaDoor
