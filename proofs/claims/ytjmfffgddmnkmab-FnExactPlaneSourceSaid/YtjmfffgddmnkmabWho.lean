/- Whether a complex number is one, in both ways to ask. Condition: none. -/
import Derived.Test.YtjmfffgddmnkmabIn
namespace Go.Proofs.Ytjmfffgddmnkmab
open Go Go.RowKit

set_option maxRecDepth 100000 in
set_option maxHeartbeats 400000 in
theorem isComplex_any (x y : Nat) (w : World) : Calls Try.prog 119 #[.complex .f32 x y] w fun e w' => e = .returned (.bool (fin x && fin y)) ∧ ∃ n, w' = w.drewN n := by
  have HX := Lib.hid (finite_any x)
  have HY := Lib.hid (finite_any y)
  cases hx : fin x <;> rw [hx] at HX
  · go_enter Try.func119, Try.ntmps119
    go_wp2_with fail
    refine (HX.out _).mono ?_
    rintro e w1 ⟨rfl, n1, rfl⟩
    go_wp2
    go_ret
    exact ⟨rfl, _, rfl⟩
  · go_enter Try.func119, Try.ntmps119
    go_wp2_with fail
    refine (HX.out _).mono ?_
    rintro e w1 ⟨rfl, n1, rfl⟩
    go_wp2_with fail
    refine (HY.out _).mono ?_
    rintro e w1 ⟨rfl, n2, rfl⟩
    go_wp2
    go_ret
    exact ⟨by simp, _, rfl⟩

set_option maxRecDepth 100000 in
set_option maxHeartbeats 400000 in
theorem whole_any (x y : Nat) (w : World) : Calls Try.prog 124 #[.complex .f32 x y] w fun e w' => e = .returned (.bool (fin x && fin y)) ∧ ∃ n, w' = w.drewN n := by
  have HX := Lib.hid (fine_any x)
  have HY := Lib.hid (fine_any y)
  cases hx : fin x <;> rw [hx] at HX
  · go_enter Try.func124, Try.ntmps124
    go_wp2_with fail
    refine (HX.out _).mono ?_
    rintro e w1 ⟨rfl, n1, rfl⟩
    go_wp2
    go_ret
    exact ⟨rfl, _, rfl⟩
  · go_enter Try.func124, Try.ntmps124
    go_wp2_with fail
    refine (HX.out _).mono ?_
    rintro e w1 ⟨rfl, n1, rfl⟩
    go_wp2_with fail
    refine (HY.out _).mono ?_
    rintro e w1 ⟨rfl, n2, rfl⟩
    go_wp2
    go_ret
    exact ⟨by simp, _, rfl⟩
end Go.Proofs.Ytjmfffgddmnkmab
