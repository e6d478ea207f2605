/- The laws' comparison of two floats, of two complex numbers, holds one that is no NaN equal to itself. Condition: no NaN. What is a complex number, and what lies within 64, in the program's ways to ask. Condition: none. -/
import Derived.Test.YtclflnpbiiimiaaDoorFinW
import Derived.Laws.ComplexArith
import Derived.Test.YtclflnpbiiimiaaDoorSide
namespace Go.Proofs.YtclflnpbiiimiaaDoor
open Go Go.RowKit

/-- equal to itself -/
def own (x : Nat) : Bool := FloatKind.f64.format.order x x == some .eq
def zer (x : Nat) : Bool := FloatKind.f64.format.order x 0 == some .eq

theorem int_cmp_self (a : Int) : compare a a = .eq := by
  show compareOfLessAndEq a a = .eq
  unfold compareOfLessAndEq
  rw [if_neg (by omega), if_pos rfl]

theorem own_number (x : Nat) (s : Bool) (m : Nat) (p : Int) (h : Ieee.double.read x = .number s m p) : own x = true := by
  unfold own
  have : FloatKind.f64.format.order x x = some .eq := by
    show (Ieee.double.read x).order (Ieee.double.read x) = _
    rw [h]
    simp only [Ieee.Datum.order, int_cmp_self]
  rw [this]
  rfl

theorem zer_div (x : Nat) (h : zer x = true) : ∃ r, floatBits .quo .f64 4607182418800017408 x = some r := by
  have h1 : FloatKind.f64.format.order x 0 = some .eq := by simpa [zer] using h
  have h2 : (Ieee.double.read x).order (Ieee.double.read 0) = some .eq := h1
  have h0 : Ieee.double.read 0 = .number false 0 (-1074) := by decide
  have h3 : Ieee.double.read 4607182418800017408 = .number false 4503599627370496 (-52) := by decide
  rw [h0] at h2
  unfold floatBits
  show ∃ r, Ieee.double.div 4607182418800017408 x = some r
  unfold Ieee.Format.div
  rw [h3]
  cases hr : Ieee.double.read x with
  | number s m p =>
    simp only [Ieee.Datum.quotient]
    split
    · exact ⟨_, rfl⟩
    · exact ⟨_, rfl⟩
  | infinity s => exact ⟨_, rfl⟩
  | nan s t =>
    rw [hr] at h2
    simp [Ieee.Datum.order] at h2

theorem sameFloat_refl (x : Nat) (h : own x = true) (w : World) : Calls Tryd.prog 63 #[.float .f64 x, .float .f64 x] w fun e w' => e = .returned (.bool true) ∧ w = w' := by
  have h1 : (FloatKind.f64.format.order x x == some .eq) = true := h
  have h2 : (FloatKind.f64.format.order x x != some .eq) = false := by rw [bne, h1]; rfl
  cases hz : zer x
  · have h3 : (FloatKind.f64.format.order x 0 == some .eq) = false := hz
    clear h hz
    go_enter Tryd.func63, Tryd.ntmps63
    go_wp2
    go_ret
    exact ⟨rfl, rfl⟩
  · have h3 : (FloatKind.f64.format.order x 0 == some .eq) = true := hz
    obtain ⟨r, hr⟩ := zer_div x hz
    have h4 := fun w => run_float_arith (P := Tryd.prog) w .quo 85 .f64 _ x r hr
    have h5 : ((FloatKind.f64.format.order r 0 == some .gt) == (FloatKind.f64.format.order r 0 == some .gt)) = true := by simp
    clear h hz hr
    go_enter Tryd.func63, Tryd.ntmps63
    go_wp2
    go_ret
    exact ⟨rfl, rfl⟩

end Go.Proofs.YtclflnpbiiimiaaDoor

namespace Go.Proofs.YtclflnpbiiimiaaDoor
open Go Go.RowKit

/-- 64 finite complex numbers -/
def Cells (zs : Array Value) : Prop := zs.size = 64 ∧ ∀ k, k < 64 → ∃ x y, fin x = true ∧ fin y = true ∧ zs[k]? = some (.complex .f32 x y)

theorem size35 : (Tryd.prog.info? 33).map (·.size) = some 64 := by kernel_rfl
theorem info37 : (Tryd.prog.info? 35).map (fun i => (i.zero, i.size)) = some (some (.agg (pic 0 (Array.replicate 64 (.complex .f32 0 0)))), 65) := by kernel_rfl

/-- within -64 and 64 -/
def within (k : Int) : Bool := decide (-64 ≤ k) && decide (k ≤ 64)

theorem l01In_any (k : Int) (w : World) : Calls Tryd.prog 40 #[.int .i64 k, .int .i64 (-64), .int .i64 64] w fun e w' => e = .returned (.bool (within k)) ∧ w = w' := by
  by_cases h1 : -64 ≤ k
  · by_cases h2 : k ≤ 64
    · have e : within k = true := by simp [within, h1, h2]
      rw [e]
      go_enter Tryd.func40, Tryd.ntmps40
      go_wp2
      go_ret
      exact ⟨rfl, rfl⟩
    · have e : within k = false := by simp [within, h2]
      rw [e]
      go_enter Tryd.func40, Tryd.ntmps40
      go_wp2
      go_ret
      exact ⟨rfl, rfl⟩
  · have e : within k = false := by simp [within, h1]
    rw [e]
    go_enter Tryd.func40, Tryd.ntmps40
    go_wp2
    go_ret
    exact ⟨rfl, rfl⟩

end Go.Proofs.YtclflnpbiiimiaaDoor
