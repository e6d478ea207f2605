/- The model's way to ask whether a number lies within two. Condition: none. -/
import Derived.Test.YtjmfffgddmnkmabPlane
namespace Go.Proofs.Ytjmfffgddmnkmab
open Go Go.RowKit

def inside (k a b : Int) : Bool := decide (a ≤ k) && decide (k ≤ b)

set_option maxRecDepth 100000 in
set_option maxHeartbeats 400000 in
theorem l01In_gen (k a b : Int) (w : World) : Calls Try.prog 63 #[.int .i64 k, .int .i64 a, .int .i64 b] w fun e w' => e = .returned (.bool (inside k a b)) ∧ w = w' := by
  by_cases h1 : a ≤ k
  · by_cases h2 : k ≤ b
    · have e : inside k a b = true := by simp [inside, h1, h2]
      rw [e]
      go_enter Try.func63, Try.ntmps63
      go_wp2
      go_ret
      exact ⟨rfl, rfl⟩
    · have e : inside k a b = false := by simp [inside, h2]
      rw [e]
      go_enter Try.func63, Try.ntmps63
      go_wp2
      go_ret
      exact ⟨rfl, rfl⟩
  · have e : inside k a b = false := by simp [inside, h1]
    rw [e]
    go_enter Try.func63, Try.ntmps63
    go_wp2
    go_ret
    exact ⟨rfl, rfl⟩

end Go.Proofs.Ytjmfffgddmnkmab
