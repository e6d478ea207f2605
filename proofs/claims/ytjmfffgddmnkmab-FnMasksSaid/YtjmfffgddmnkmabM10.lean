/- The program's phase behind the remainder: the entries 48 to 63 of the table. Condition: none. The phases of the program and of the model, called with any integer, are the table's entry at its remainder by 64. Condition: none. -/
import Derived.Test.YtjmfffgddmnkmabM7
import Derived.Test.YtjmfffgddmnkmabM6
import Derived.Test.YtjmfffgddmnkmabM8
import Derived.Test.YtjmfffgddmnkmabM9
namespace Go.Proofs.Ytjmfffgddmnkmab
open Go
theorem impl_48 (w : World) (k : Int) (cs : List Frame) :
    outM Try.prog (fun _ => false) (fun _ _ => none) 9999 95 (frImpl w k 48) cs w = some (.complex .f32 (tre 48) (tim 48), cs, w, w) := by kernel_rfl
theorem impl_49 (w : World) (k : Int) (cs : List Frame) :
    outM Try.prog (fun _ => false) (fun _ _ => none) 9999 95 (frImpl w k 49) cs w = some (.complex .f32 (tre 49) (tim 49), cs, w, w) := by kernel_rfl
theorem impl_50 (w : World) (k : Int) (cs : List Frame) :
    outM Try.prog (fun _ => false) (fun _ _ => none) 9999 95 (frImpl w k 50) cs w = some (.complex .f32 (tre 50) (tim 50), cs, w, w) := by kernel_rfl
theorem impl_51 (w : World) (k : Int) (cs : List Frame) :
    outM Try.prog (fun _ => false) (fun _ _ => none) 9999 95 (frImpl w k 51) cs w = some (.complex .f32 (tre 51) (tim 51), cs, w, w) := by kernel_rfl
theorem impl_52 (w : World) (k : Int) (cs : List Frame) :
    outM Try.prog (fun _ => false) (fun _ _ => none) 9999 95 (frImpl w k 52) cs w = some (.complex .f32 (tre 52) (tim 52), cs, w, w) := by kernel_rfl
theorem impl_53 (w : World) (k : Int) (cs : List Frame) :
    outM Try.prog (fun _ => false) (fun _ _ => none) 9999 95 (frImpl w k 53) cs w = some (.complex .f32 (tre 53) (tim 53), cs, w, w) := by kernel_rfl
theorem impl_54 (w : World) (k : Int) (cs : List Frame) :
    outM Try.prog (fun _ => false) (fun _ _ => none) 9999 95 (frImpl w k 54) cs w = some (.complex .f32 (tre 54) (tim 54), cs, w, w) := by kernel_rfl
theorem impl_55 (w : World) (k : Int) (cs : List Frame) :
    outM Try.prog (fun _ => false) (fun _ _ => none) 9999 95 (frImpl w k 55) cs w = some (.complex .f32 (tre 55) (tim 55), cs, w, w) := by kernel_rfl
theorem impl_56 (w : World) (k : Int) (cs : List Frame) :
    outM Try.prog (fun _ => false) (fun _ _ => none) 9999 95 (frImpl w k 56) cs w = some (.complex .f32 (tre 56) (tim 56), cs, w, w) := by kernel_rfl
theorem impl_57 (w : World) (k : Int) (cs : List Frame) :
    outM Try.prog (fun _ => false) (fun _ _ => none) 9999 95 (frImpl w k 57) cs w = some (.complex .f32 (tre 57) (tim 57), cs, w, w) := by kernel_rfl
theorem impl_58 (w : World) (k : Int) (cs : List Frame) :
    outM Try.prog (fun _ => false) (fun _ _ => none) 9999 95 (frImpl w k 58) cs w = some (.complex .f32 (tre 58) (tim 58), cs, w, w) := by kernel_rfl
theorem impl_59 (w : World) (k : Int) (cs : List Frame) :
    outM Try.prog (fun _ => false) (fun _ _ => none) 9999 95 (frImpl w k 59) cs w = some (.complex .f32 (tre 59) (tim 59), cs, w, w) := by kernel_rfl
theorem impl_60 (w : World) (k : Int) (cs : List Frame) :
    outM Try.prog (fun _ => false) (fun _ _ => none) 9999 95 (frImpl w k 60) cs w = some (.complex .f32 (tre 60) (tim 60), cs, w, w) := by kernel_rfl
theorem impl_61 (w : World) (k : Int) (cs : List Frame) :
    outM Try.prog (fun _ => false) (fun _ _ => none) 9999 95 (frImpl w k 61) cs w = some (.complex .f32 (tre 61) (tim 61), cs, w, w) := by kernel_rfl
theorem impl_62 (w : World) (k : Int) (cs : List Frame) :
    outM Try.prog (fun _ => false) (fun _ _ => none) 9999 95 (frImpl w k 62) cs w = some (.complex .f32 (tre 62) (tim 62), cs, w, w) := by kernel_rfl
theorem impl_63 (w : World) (k : Int) (cs : List Frame) :
    outM Try.prog (fun _ => false) (fun _ _ => none) 9999 95 (frImpl w k 63) cs w = some (.complex .f32 (tre 63) (tim 63), cs, w, w) := by kernel_rfl
end Go.Proofs.Ytjmfffgddmnkmab

namespace Go.Proofs.Ytjmfffgddmnkmab
open Go
theorem spec_all (w : World) (k x y : Int) (cs : List Frame) (m : Nat) (hm : m < 64) :
    outM Try.prog (fun g => g == 138) memoHalf 9999 125 (frSpec w k x y (m : Nat)) cs w = some (.complex .f32 (tre m) (tim m), cs, w, w) := by
  exact match m, hm with
  | 0, _ => spec_0 w k x y cs
  | 1, _ => spec_1 w k x y cs
  | 2, _ => spec_2 w k x y cs
  | 3, _ => spec_3 w k x y cs
  | 4, _ => spec_4 w k x y cs
  | 5, _ => spec_5 w k x y cs
  | 6, _ => spec_6 w k x y cs
  | 7, _ => spec_7 w k x y cs
  | 8, _ => spec_8 w k x y cs
  | 9, _ => spec_9 w k x y cs
  | 10, _ => spec_10 w k x y cs
  | 11, _ => spec_11 w k x y cs
  | 12, _ => spec_12 w k x y cs
  | 13, _ => spec_13 w k x y cs
  | 14, _ => spec_14 w k x y cs
  | 15, _ => spec_15 w k x y cs
  | 16, _ => spec_16 w k x y cs
  | 17, _ => spec_17 w k x y cs
  | 18, _ => spec_18 w k x y cs
  | 19, _ => spec_19 w k x y cs
  | 20, _ => spec_20 w k x y cs
  | 21, _ => spec_21 w k x y cs
  | 22, _ => spec_22 w k x y cs
  | 23, _ => spec_23 w k x y cs
  | 24, _ => spec_24 w k x y cs
  | 25, _ => spec_25 w k x y cs
  | 26, _ => spec_26 w k x y cs
  | 27, _ => spec_27 w k x y cs
  | 28, _ => spec_28 w k x y cs
  | 29, _ => spec_29 w k x y cs
  | 30, _ => spec_30 w k x y cs
  | 31, _ => spec_31 w k x y cs
  | 32, _ => spec_32 w k x y cs
  | 33, _ => spec_33 w k x y cs
  | 34, _ => spec_34 w k x y cs
  | 35, _ => spec_35 w k x y cs
  | 36, _ => spec_36 w k x y cs
  | 37, _ => spec_37 w k x y cs
  | 38, _ => spec_38 w k x y cs
  | 39, _ => spec_39 w k x y cs
  | 40, _ => spec_40 w k x y cs
  | 41, _ => spec_41 w k x y cs
  | 42, _ => spec_42 w k x y cs
  | 43, _ => spec_43 w k x y cs
  | 44, _ => spec_44 w k x y cs
  | 45, _ => spec_45 w k x y cs
  | 46, _ => spec_46 w k x y cs
  | 47, _ => spec_47 w k x y cs
  | 48, _ => spec_48 w k x y cs
  | 49, _ => spec_49 w k x y cs
  | 50, _ => spec_50 w k x y cs
  | 51, _ => spec_51 w k x y cs
  | 52, _ => spec_52 w k x y cs
  | 53, _ => spec_53 w k x y cs
  | 54, _ => spec_54 w k x y cs
  | 55, _ => spec_55 w k x y cs
  | 56, _ => spec_56 w k x y cs
  | 57, _ => spec_57 w k x y cs
  | 58, _ => spec_58 w k x y cs
  | 59, _ => spec_59 w k x y cs
  | 60, _ => spec_60 w k x y cs
  | 61, _ => spec_61 w k x y cs
  | 62, _ => spec_62 w k x y cs
  | 63, _ => spec_63 w k x y cs
  | m + 64, h => absurd h (by omega)
theorem impl_all (w : World) (k : Int) (cs : List Frame) (m : Nat) (hm : m < 64) :
    outM Try.prog (fun _ => false) (fun _ _ => none) 9999 95 (frImpl w k (m : Nat)) cs w = some (.complex .f32 (tre m) (tim m), cs, w, w) := by
  exact match m, hm with
  | 0, _ => impl_0 w k cs
  | 1, _ => impl_1 w k cs
  | 2, _ => impl_2 w k cs
  | 3, _ => impl_3 w k cs
  | 4, _ => impl_4 w k cs
  | 5, _ => impl_5 w k cs
  | 6, _ => impl_6 w k cs
  | 7, _ => impl_7 w k cs
  | 8, _ => impl_8 w k cs
  | 9, _ => impl_9 w k cs
  | 10, _ => impl_10 w k cs
  | 11, _ => impl_11 w k cs
  | 12, _ => impl_12 w k cs
  | 13, _ => impl_13 w k cs
  | 14, _ => impl_14 w k cs
  | 15, _ => impl_15 w k cs
  | 16, _ => impl_16 w k cs
  | 17, _ => impl_17 w k cs
  | 18, _ => impl_18 w k cs
  | 19, _ => impl_19 w k cs
  | 20, _ => impl_20 w k cs
  | 21, _ => impl_21 w k cs
  | 22, _ => impl_22 w k cs
  | 23, _ => impl_23 w k cs
  | 24, _ => impl_24 w k cs
  | 25, _ => impl_25 w k cs
  | 26, _ => impl_26 w k cs
  | 27, _ => impl_27 w k cs
  | 28, _ => impl_28 w k cs
  | 29, _ => impl_29 w k cs
  | 30, _ => impl_30 w k cs
  | 31, _ => impl_31 w k cs
  | 32, _ => impl_32 w k cs
  | 33, _ => impl_33 w k cs
  | 34, _ => impl_34 w k cs
  | 35, _ => impl_35 w k cs
  | 36, _ => impl_36 w k cs
  | 37, _ => impl_37 w k cs
  | 38, _ => impl_38 w k cs
  | 39, _ => impl_39 w k cs
  | 40, _ => impl_40 w k cs
  | 41, _ => impl_41 w k cs
  | 42, _ => impl_42 w k cs
  | 43, _ => impl_43 w k cs
  | 44, _ => impl_44 w k cs
  | 45, _ => impl_45 w k cs
  | 46, _ => impl_46 w k cs
  | 47, _ => impl_47 w k cs
  | 48, _ => impl_48 w k cs
  | 49, _ => impl_49 w k cs
  | 50, _ => impl_50 w k cs
  | 51, _ => impl_51 w k cs
  | 52, _ => impl_52 w k cs
  | 53, _ => impl_53 w k cs
  | 54, _ => impl_54 w k cs
  | 55, _ => impl_55 w k cs
  | 56, _ => impl_56 w k cs
  | 57, _ => impl_57 w k cs
  | 58, _ => impl_58 w k cs
  | 59, _ => impl_59 w k cs
  | 60, _ => impl_60 w k cs
  | 61, _ => impl_61 w k cs
  | 62, _ => impl_62 w k cs
  | 63, _ => impl_63 w k cs
  | m + 64, h => absurd h (by omega)

theorem toNat64 (k : Int) : ((k % 64).toNat : Int) = k % 64 ∧ (k % 64).toNat < 64 := by omega

theorem spec_phase (k : Int) (w : World) : Calls Try.prog 125 #[.int .i64 k] w fun e w' => e = .returned (.complex .f32 (tre (k % 64).toNat) (tim (k % 64).toNat)) ∧ w = w' := by
  refine calls_from (is := fun g => g == 138) known_half 9999 (frSpec w k (k.tmod 64) (IntKind.i64.wrap (k.tmod 64 + 64)) (k % 64)) (fun cs => ?_) (fun cs => ?_)
  · have h := runM_steps (known_none _) 99 (spec_head w k cs)
    rw [spec_rest] at h
    exact h
  · have h := spec_all w k (k.tmod 64) (IntKind.i64.wrap (k.tmod 64 + 64)) cs (k % 64).toNat (toNat64 k).2
    rw [(toNat64 k).1] at h
    exact h

theorem impl_phase (k : Int) (w : World) : Calls Try.prog 95 #[.int .i64 k] w fun e w' => e = .returned (.complex .f32 (tre (k % 64).toNat) (tim (k % 64).toNat)) ∧ w = w' := by
  refine calls_from (is := fun _ => false) (known_none _) 9999 (frImpl w k (k % 64)) (fun cs => ?_) (fun cs => ?_)
  · exact runM_steps known_rem 99 (impl_head w k cs)
  · have h := impl_all w k cs (k % 64).toNat (toNat64 k).2
    rw [(toNat64 k).1] at h
    exact h

end Go.Proofs.Ytjmfffgddmnkmab
