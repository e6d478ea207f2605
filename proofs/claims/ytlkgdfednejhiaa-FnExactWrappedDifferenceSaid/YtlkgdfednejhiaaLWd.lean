/- The law of WrappedDifference returns true. Condition: none. -/
import Derived.Test.YtlkgdfednejhiaaHrr
namespace Go.Proofs.Ytlkgdfednejhiaa
open Go Go.RowKit

def wdA (h k : Int) : Int := if isH h && isH k then lessH h k else 0
def wdC (h k : Int) : Int := if isH h && isH k then 0 else 2
theorem ansWD_eq (h k : Int) : ansWD h k = .tuple #[.int .i64 (wdA h k), .int .i64 (wdC h k)] := by
  unfold ansWD wdA wdC
  split <;> rfl

set_option maxRecDepth 100000 in
theorem lawWD (h k : Int) (w : World) : Calls Try.prog 4 #[.int .i64 h, .int .i64 k] w fun e w' => e = .returned (.bool true) ∧ Below w.heap.size w w' := by
  have HS := Lib.hid (fun w => specWD_any h k w)
  have HI := Lib.hid (fun w => implWD_any h k w)
  rw [ansWD_eq] at HS HI
  generalize wdA h k = a at *
  generalize wdC h k = c at *
  have ha : (a != a) = false := by simp
  have hc : (c != c) = false := by simp
  go_enter Try.func4, Try.ntmps4
  go_wp2_with fail
  refine (HS.out _).mono ?_
  rintro e w1 ⟨rfl, rfl⟩
  go_wp2_with fail
  refine (HI.out _).mono ?_
  rintro e w1 ⟨rfl, rfl⟩
  go_wp2_with fail
  go_ret
  exact ⟨rfl, Below.refl _ _⟩

end Go.Proofs.Ytlkgdfednejhiaa
