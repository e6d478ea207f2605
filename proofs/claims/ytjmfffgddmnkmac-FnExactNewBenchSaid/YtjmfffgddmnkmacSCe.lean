/- The model's cell of a wave. Condition: 64 complex numbers. -/
import Derived.Test.YtjmfffgddmnkmacIs
import Derived.Test.YtjmfffgddmnkmacIns
namespace Go.Proofs.Ytjmfffgddmnkmac
open Go Go.RowKit

/-- the answer that is asked for a cell -/
def cellAns (s : Int) (D : Array Value) (y x : Int) : Value :=
  if isWav s D then
    if inside y 0 (s - 1) && inside x 0 (s - 1) then .tuple #[.complex .f32 (reAt D (s * y + x).toNat) (imAt D (s * y + x).toNat), .int .i64 0]
    else .tuple #[.complex .f32 0 0, .int .i64 2]
  else .tuple #[.complex .f32 0 0, .int .i64 1]

theorem cell_place (s y x : Int) (hs : 1 ≤ s ∧ s ≤ 8) (hy : inside y 0 (s - 1) = true) (hx : inside x 0 (s - 1) = true) :
    ∃ k : Nat, k < 64 ∧ (s * y + x).toNat = k ∧ IntKind.i64.wrap (s * y) = s * y ∧ IntKind.i64.wrap (s * y + x) = (k : Int) := by
  have hyx : 0 ≤ y ∧ y ≤ s - 1 ∧ 0 ≤ x ∧ x ≤ s - 1 := by simp [inside] at hy hx; omega
  have hm0 : 0 ≤ s * y := Int.mul_nonneg (by omega) (by omega)
  have h7 : s * y ≤ s * (s - 1) := Int.mul_le_mul_of_nonneg_left hyx.2.1 (by omega)
  have h8 : s * (s - 1) ≤ 8 * (s - 1) := Int.mul_le_mul_of_nonneg_right hs.2 (by omega)
  refine ⟨(s * y + x).toNat, by omega, rfl, IntWalk.i64_in _ (by omega), ?_⟩
  rw [IntWalk.i64_in _ (by omega)]
  omega

end Go.Proofs.Ytjmfffgddmnkmac
