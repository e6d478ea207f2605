/- The places that lists of float32's of a call lie in are apart: what is written in one leaves the others. Condition: none. -/
import Derived.Test.YtajbnoofchcaoaaFc
import Derived.Test.YtajbnoofchcaoaaHk
import Derived.Lib.Hide
namespace Go.Proofs.Ytajbnoofchcaoaa
open Go Go.RowKit

theorem OwnF.rng {B : Nat} {v : Value} {L : List Nat} {w : World} (h : OwnF B v L w) : Rng v B w.heap.size := World.ownsRow.lt h
theorem OwnF.grown {B lo hi : Nat} {v : Value} {L : List Nat} {w w' : World} {row : Option Nat} (h : OwnF B v L w) (g : w.grownBy w' row) (r : Rng v lo hi) (a : ∀ k, row = some k → k < lo ∨ hi ≤ k) : OwnF B v L w' := by
  refine World.ownsRow.kept h g ?_
  cases hb : v.ownBlock
  · exact .inl rfl
  · right
    intro e
    have := r _ hb
    have := a _ e.symm
    omega

/-- what is asked of program and model: a list and a code, in memory of their own -/
def ListsF (f : FuncId) (L R : List Nat) (c : Int) : Prop :=
  L.length ≤ 1048576 → ∀ v w, OwnF 0 v L w → Calls Try.prog f #[v] w fun e w' => ∃ r, e = .returned (.tuple #[r, .int .i64 c]) ∧ OwnF w.heap.size r R w' ∧ Below w.heap.size w w'

end Go.Proofs.Ytajbnoofchcaoaa
