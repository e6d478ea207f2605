/- UnwrapRows: program and model answer one list and one code. Condition: none. -/
import Derived.Test.YtfjgffbefhohfaaUs
import Derived.Test.YtfjgffbefhohfaaUi
namespace Go.Proofs.Ytfjgffbefhohfaa
open Go Go.RowKit

theorem specUr (n : Int) (L : List Int) : Lists 23 n L (resUr n L) (codeW n L) := by
  unfold resUr
  by_cases h : codeW n L = 0
  · rw [if_pos h, h]; exact specUr_yes n L h
  · rw [if_neg h]; exact specUr_no n L h
theorem implUr (n : Int) (L : List Int) : Lists 24 n L (resUr n L) (codeW n L) := by
  unfold resUr
  by_cases h : codeW n L = 0
  · rw [if_pos h, h]; exact implUr_yes n L h
  · rw [if_neg h]; exact implUr_no n L h
end Go.Proofs.Ytfjgffbefhohfaa
