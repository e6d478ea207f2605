/- The law holds a wave of finite cells equal to itself. Condition: 64 finite cells. -/
import Derived.Test.YtjmfffgddmnkmabEqW
import Derived.Test.YtjmfffgddmnkmabIn
namespace Go.Proofs.Ytjmfffgddmnkmab
open Go Go.RowKit

set_option maxRecDepth 100000 in
set_option maxHeartbeats 400000 in
theorem eqWave_refl (n : Int) (zs : Array Value) (hz : Cells zs) (w : World) : Calls Try.prog 35 #[.agg (pic n zs), .agg (pic n zs)] w fun e w' => e = .returned (.bool true) ∧ Below w.heap.size w w' := by
  have h0 := pic_zero n zs
  have HP := Lib.hid (pic_part n zs)
  have HS : Hid ((Try.prog.info? 28).map (·.size) = some zs.size) := Lib.hid (by rw [hz.1]; exact size35)
  have HE := Lib.hid (eqCells zs hz)
  have hnn : (n != n) = false := by simp
  generalize pic n zs = cs at *
  clear hz
  go_enter Try.func35, Try.ntmps35
  go_wp2_with (first | fail | (refine wpList_load_part rfl 28 (.tmp 10) rfl w.heap.size 1 rfl zs _ 30 cs (0, 0) (h2_0 _ _ _) HP.out Try.underlying28 rfl HS.out ?_) | (refine wpList_load_part rfl 28 (.tmp 12) rfl (w.heap.size + 1) 1 rfl zs _ 30 cs (0, 0) (h2_1 _ _ _) HP.out Try.underlying28 rfl HS.out ?_))
  refine (HE.out _).mono ?_
  rintro e w1 ⟨rfl, b1⟩
  have B1 := Lib.hid b1
  clear b1
  go_wp2
  go_ret
  refine ⟨rfl, ((((Below.refl _ _).alloc (Nat.le_refl _) _).alloc (by rw [size_al]; omega) _).trans (B1.out.mono ?_))⟩
  rw [size_al, size_al]; omega

end Go.Proofs.Ytjmfffgddmnkmab
