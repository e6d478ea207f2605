/- The places that lists of a call lie in are apart: what is written in one leaves the others. Condition: none. -/
import Derived.Test.YtjmfffgddmnkmabOc
import Derived.Lib.Hide
namespace Go.Proofs.Ytjmfffgddmnkmab
open Go Go.RowKit

/-- a list's block lies between two numbers -/
def Rng (v : Value) (lo hi : Nat) : Prop := ∀ k, v.ownBlock = some k → lo ≤ k ∧ k < hi
theorem Own.rng {B : Nat} {v : Value} {L : List Int} {w : World} (h : Own B v L w) : Rng v B w.heap.size := World.ownsRow.lt h
theorem Own.grown {B lo hi : Nat} {v : Value} {L : List Int} {w w' : World} {row : Option Nat} (h : Own B v L w) (g : w.grownBy w' row) (r : Rng v lo hi) (a : ∀ k, row = some k → k < lo ∨ hi ≤ k) : Own B v L w' := by
  refine World.ownsRow.kept h g ?_
  cases hb : v.ownBlock
  · exact .inl rfl
  · right
    intro e
    have := r _ hb
    have := a _ e.symm
    omega

/-- what is asked of program and model: a list and a code, in memory of their own -/
def Lists (f : FuncId) (n : Int) (L R : List Int) (c : Int) : Prop :=
  L.length ≤ 1048576 → ∀ v w, Own 0 v L w → Calls Try.prog f #[.int .i64 n, v] w fun e w' => ∃ r, e = .returned (.tuple #[r, .int .i64 c]) ∧ Own w.heap.size r R w' ∧ Below w.heap.size w w'

end Go.Proofs.Ytjmfffgddmnkmab
