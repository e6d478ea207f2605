/- The law holds a wave of finite cells equal to itself; what is a number in the program's ways to ask. Condition: 64 finite cells. -/
import Derived.Test.YtokdhggajpklcaaEqW
import Derived.Test.YtokdhggajpklcaaSide
import Derived.Test.YtokdhggajpklcaaLaw
import Derived.Test.YtokdhggajpklcaaImpl
namespace Go.Proofs.Ytokdhggajpklcaa
open Go Go.RowKit

theorem size35 : (Try.prog.info? 35).map (·.size) = some 64 := by kernel_rfl
theorem info37 : (Try.prog.info? 37).map (fun i => (i.zero, i.size)) = some (some (.agg (pic 0 (Array.replicate 64 (.complex .f32 0 0)))), 65) := by kernel_rfl

set_option maxRecDepth 100000 in
set_option maxHeartbeats 400000 in
theorem eqWave_refl (n : Int) (zs : Array Value) (hz : Cells zs) (w : World) : Calls Try.prog 14 #[.agg (pic n zs), .agg (pic n zs)] w fun e w' => e = .returned (.bool true) ∧ Below w.heap.size w w' := by
  have h0 := pic_zero n zs
  have HP := Lib.hid (pic_part n zs)
  have HS : Hid ((Try.prog.info? 35).map (·.size) = some zs.size) := Lib.hid (by rw [hz.1]; exact size35)
  have HE := Lib.hid (eqCells zs hz)
  have hnn : (n != n) = false := by simp
  generalize pic n zs = cs at *
  clear hz
  go_enter Try.func14, Try.ntmps14
  go_wp2_with (first | fail | (refine wpList_load_part rfl 35 (.tmp 10) rfl w.heap.size 1 rfl zs _ 37 cs (0, 0) (h2_0 _ _ _) HP.out Try.underlying35 rfl HS.out ?_) | (refine wpList_load_part rfl 35 (.tmp 12) rfl (w.heap.size + 1) 1 rfl zs _ 37 cs (0, 0) (h2_1 _ _ _) HP.out Try.underlying35 rfl HS.out ?_))
  refine (HE.out _).mono ?_
  rintro e w1 ⟨rfl, b1⟩
  have B1 := Lib.hid b1
  clear b1
  go_wp2
  go_ret
  refine ⟨rfl, ((((Below.refl _ _).alloc (Nat.le_refl _) _).alloc (by rw [size_al]; omega) _).trans (B1.out.mono ?_))⟩
  rw [size_al, size_al]; omega

theorem isComplex_yes (x y : Nat) (hx : fin x = true) (hy : fin y = true) (w : World) : Calls Try.prog 38 #[.complex .f32 x y] w fun e w' => e = .returned (.bool true) ∧ ∃ n, w' = w.drewN n := by
  have HX := Lib.hid (finite_yes x hx)
  have HY := Lib.hid (finite_yes y hy)
  clear hx hy
  go_enter Try.func38, Try.ntmps38
  go_wp2_with fail
  refine (HX.out _).mono ?_
  rintro e w1 ⟨rfl, n1, rfl⟩
  go_wp2_with fail
  refine (HY.out _).mono ?_
  rintro e w1 ⟨rfl, n2, rfl⟩
  go_wp2
  go_ret
  exact ⟨rfl, _, rfl⟩

/-- within -64 and 64 -/
def within (k : Int) : Bool := decide (-64 ≤ k) && decide (k ≤ 64)

theorem within_any (k : Int) (w : World) : Calls Try.prog 27 #[.int .i64 k, .int .i64 64] w fun e w' => e = .returned (.bool (within k)) ∧ w = w' := by
  by_cases h1 : -64 ≤ k
  · by_cases h2 : k ≤ 64
    · have e : within k = true := by simp [within, h1, h2]
      rw [e]
      go_enter Try.func27, Try.ntmps27
      go_wp2
      go_ret
      exact ⟨rfl, rfl⟩
    · have e : within k = false := by simp [within, h2]
      rw [e]
      go_enter Try.func27, Try.ntmps27
      go_wp2
      go_ret
      exact ⟨rfl, rfl⟩
  · have e : within k = false := by simp [within, h1]
    rw [e]
    go_enter Try.func27, Try.ntmps27
    go_wp2
    go_ret
    exact ⟨rfl, rfl⟩

theorem l01In_any (k : Int) (w : World) : Calls Try.prog 25 #[.int .i64 k, .int .i64 (-64), .int .i64 64] w fun e w' => e = .returned (.bool (within k)) ∧ w = w' := by
  by_cases h1 : -64 ≤ k
  · by_cases h2 : k ≤ 64
    · have e : within k = true := by simp [within, h1, h2]
      rw [e]
      go_enter Try.func25, Try.ntmps25
      go_wp2
      go_ret
      exact ⟨rfl, rfl⟩
    · have e : within k = false := by simp [within, h2]
      rw [e]
      go_enter Try.func25, Try.ntmps25
      go_wp2
      go_ret
      exact ⟨rfl, rfl⟩
  · have e : within k = false := by simp [within, h1]
    rw [e]
    go_enter Try.func25, Try.ntmps25
    go_wp2
    go_ret
    exact ⟨rfl, rfl⟩

end Go.Proofs.Ytokdhggajpklcaa
