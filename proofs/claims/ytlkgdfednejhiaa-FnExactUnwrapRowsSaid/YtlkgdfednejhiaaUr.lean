/- UnwrapRows: program and model answer one list and one code. Condition: none. -/
import Derived.Test.YtlkgdfednejhiaaUs
import Derived.Test.YtlkgdfednejhiaaUi
namespace Go.Proofs.Ytlkgdfednejhiaa
open Go Go.RowKit

theorem specUr (n : Int) (L : List Int) : Lists 14 n L (resUr n L) (codeW n L) := by
  unfold resUr
  by_cases h : codeW n L = 0
  · rw [if_pos h, h]; exact specUr_yes n L h
  · rw [if_neg h]; exact specUr_no n L h
theorem implUr (n : Int) (L : List Int) : Lists 13 n L (resUr n L) (codeW n L) := by
  unfold resUr
  by_cases h : codeW n L = 0
  · rw [if_pos h, h]; exact implUr_yes n L h
  · rw [if_neg h]; exact implUr_no n L h
end Go.Proofs.Ytlkgdfednejhiaa
