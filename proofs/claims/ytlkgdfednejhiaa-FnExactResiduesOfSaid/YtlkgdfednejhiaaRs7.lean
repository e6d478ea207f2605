/- ResiduesOf: program and model answer one list and one code. Condition: none. -/
import Derived.Test.YtlkgdfednejhiaaRm
import Derived.Test.YtlkgdfednejhiaaRi
namespace Go.Proofs.Ytlkgdfednejhiaa
open Go Go.RowKit

theorem specRs (n : Int) (L : List Int) : Lists 16 n L (resRs n L) (codeW n L) := by
  unfold resRs
  by_cases h : codeW n L = 0
  · rw [if_pos h, h]; exact specRs_yes n L h
  · rw [if_neg h]; exact specRs_no n L h
theorem implRs (n : Int) (L : List Int) : Lists 15 n L (resRs n L) (codeW n L) := by
  unfold resRs
  by_cases h : codeW n L = 0
  · rw [if_pos h, h]; exact implRs_yes n L h
  · rw [if_neg h]; exact implRs_no n L h
end Go.Proofs.Ytlkgdfednejhiaa
