/- errors.Is at the sentinel itself. Condition: a pointer to the library's error. -/
import Derived.Test.YtjmfffgddmnkmabDoorChecked
import Derived.WalkKit
import Derived.LaidEql
import Derived.Stop.Asserts
import Derived.RowKitTokens
namespace Go.Proofs.YtjmfffgddmnkmabDoor
open Go Go.RowKit

theorem isTypeOf (v : Value) (w : World) : (callFunc 78 #[.iface 159 v]).run Tryd.prog w = .ok (.value (.iface 135 (.agg #[.pointer (some ⟨10, 159, none⟩)]))) w := by kernel_rfl
theorem isComparable (w : World) : (callFunc 137 #[.agg #[.pointer (some ⟨10, 159, none⟩)]]).run Tryd.prog w = .ok (.value (.bool true)) w := by kernel_rfl
theorem isMethodComparable (v : Value) (w : World) : (Go.method 301 135 v "Comparable").run Tryd.prog w = .ok (137, v) w := by kernel_rfl
theorem isComp : (Tryd.prog.info? 159).map (·.comparable) = some true := by kernel_rfl
theorem isSize : (Tryd.prog.info? 161).map (·.size) = some 1 := by kernel_rfl

set_option maxRecDepth 100000 in
/-- errors.Is(x, x), x a pointer to an errors.errorString. -/
theorem is_same (a : Addr) (w : World) :
    Calls Tryd.prog 64 #[.iface 159 (.pointer (some a)), .iface 159 (.pointer (some a))] w fun e w' => e = .returned (.bool true) ∧ w' = w := by
  obtain ⟨i, hi, hcmp⟩ := Option.map_eq_some_iff.1 isComp
  obtain ⟨j, hj, hjs⟩ := Option.map_eq_some_iff.1 isSize
  have tT := isTypeOf
  have cT := isComparable
  have mR := isMethodComparable
  have heq := run_eql_iface_ptr_same (P := Tryd.prog) w a Tryd.underlying81 Tryd.underlying159 hi hcmp hj
  go_enter Tryd.func64, Tryd.ntmps64
  go_wp2
  refine wp_loop_rounds 1 ?_
  rw [rounds_succ]
  go_wp2
  go_ret
  exact ⟨rfl, rfl⟩
end Go.Proofs.YtjmfffgddmnkmabDoor
