/- errors.Is at the sentinel itself. Condition: a pointer to the library's error. The law holds a wave of finite cells equal to itself. Condition: 64 finite cells. -/
import Derived.Test.YtlhlhbcdibmagaaDoorChecked
import Derived.WalkKit
import Derived.LaidEql
import Derived.Stop.Asserts
import Derived.RowKitTokens
import Derived.Test.YtlhlhbcdibmagaaDoorM8
import Derived.Test.YtlhlhbcdibmagaaDoorM7
namespace Go.Proofs.YtlhlhbcdibmagaaDoor
open Go Go.RowKit

theorem isTypeOf (v : Value) (w : World) : (callFunc 31 #[.iface 83 v]).run Tryd.prog w = .ok (.value (.iface 73 (.agg #[.pointer (some ⟨2, 83, none⟩)]))) w := by kernel_rfl
theorem isComparable (w : World) : (callFunc 52 #[.agg #[.pointer (some ⟨2, 83, none⟩)]]).run Tryd.prog w = .ok (.value (.bool true)) w := by kernel_rfl
theorem isMethodComparable (v : Value) (w : World) : (Go.method 221 73 v "Comparable").run Tryd.prog w = .ok (52, v) w := by kernel_rfl
theorem isComp : (Tryd.prog.info? 83).map (·.comparable) = some true := by kernel_rfl
theorem isSize : (Tryd.prog.info? 109).map (·.size) = some 1 := by kernel_rfl

set_option maxRecDepth 100000 in
/-- errors.Is(x, x), x a pointer to an errors.errorString. -/
theorem is_same (a : Addr) (w : World) :
    Calls Tryd.prog 25 #[.iface 83 (.pointer (some a)), .iface 83 (.pointer (some a))] w fun e w' => e = .returned (.bool true) ∧ w' = w := by
  obtain ⟨i, hi, hcmp⟩ := Option.map_eq_some_iff.1 isComp
  obtain ⟨j, hj, hjs⟩ := Option.map_eq_some_iff.1 isSize
  have tT := isTypeOf
  have cT := isComparable
  have mR := isMethodComparable
  have heq := run_eql_iface_ptr_same (P := Tryd.prog) w a Tryd.underlying54 Tryd.underlying83 hi hcmp hj
  go_enter Tryd.func25, Tryd.ntmps25
  go_wp2
  refine wp_loop_rounds 1 ?_
  rw [rounds_succ]
  go_wp2
  go_ret
  exact ⟨rfl, rfl⟩
end Go.Proofs.YtlhlhbcdibmagaaDoor

namespace Go.Proofs.YtlhlhbcdibmagaaDoor
open Go Go.RowKit

set_option maxRecDepth 100000 in
set_option maxHeartbeats 400000 in
theorem eqWave_refl (n : Int) (zs : Array Value) (hz : Cells zs) (w : World) : Calls Tryd.prog 7 #[.agg (pic n zs), .agg (pic n zs)] w fun e w' => e = .returned (.bool true) ∧ Below w.heap.size w w' := by
  have h0 := pic_zero n zs
  have HP := Lib.hid (pic_part n zs)
  have HS : Hid ((Tryd.prog.info? 27).map (·.size) = some zs.size) := Lib.hid (by rw [hz.1]; exact size35)
  have HE := Lib.hid (eqCells zs hz)
  have hnn : (n != n) = false := by simp
  generalize pic n zs = cs at *
  clear hz
  go_enter Tryd.func7, Tryd.ntmps7
  go_wp2_with (first | fail | (refine wpList_load_part rfl 27 (.tmp 10) rfl w.heap.size 1 rfl zs _ 29 cs (0, 0) (h2_0 _ _ _) HP.out Tryd.underlying27 rfl HS.out ?_) | (refine wpList_load_part rfl 27 (.tmp 12) rfl (w.heap.size + 1) 1 rfl zs _ 29 cs (0, 0) (h2_1 _ _ _) HP.out Tryd.underlying27 rfl HS.out ?_))
  refine (HE.out _).mono ?_
  rintro e w1 ⟨rfl, b1⟩
  have B1 := Lib.hid b1
  clear b1
  go_wp2
  go_ret
  refine ⟨rfl, ((((Below.refl _ _).alloc (Nat.le_refl _) _).alloc (by rw [size_al]; omega) _).trans (B1.out.mono ?_))⟩
  rw [size_al, size_al]; omega

end Go.Proofs.YtlhlhbcdibmagaaDoor
