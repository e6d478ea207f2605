/- The phases of the program and of the model, called with any integer, are the table's entry at its remainder by 64. Condition: none. -/
import Derived.Test.YtdmeinaonliphabSpecT0
import Derived.Test.YtdmeinaonliphabM11
import Derived.Test.YtdmeinaonliphabSpecT1
import Derived.Test.YtdmeinaonliphabSpecT2
import Derived.Test.YtdmeinaonliphabSpecT3
namespace Go.Proofs.Ytdmeinaonliphab
open Go
theorem spec_all (w : World) (k x y : Int) (cs : List Frame) (m : Nat) (hm : m < 64) :
    outM Try.prog (fun g => g == 78) memoHalf 9999 77 (frSpec w k x y (m : Nat)) cs w = some (.complex .f32 (tre m) (tim m), cs, w, w) := by
  exact match m, hm with
  | 0, _ => spec_0 w k x y cs
  | 1, _ => spec_1 w k x y cs
  | 2, _ => spec_2 w k x y cs
  | 3, _ => spec_3 w k x y cs
  | 4, _ => spec_4 w k x y cs
  | 5, _ => spec_5 w k x y cs
  | 6, _ => spec_6 w k x y cs
  | 7, _ => spec_7 w k x y cs
  | 8, _ => spec_8 w k x y cs
  | 9, _ => spec_9 w k x y cs
  | 10, _ => spec_10 w k x y cs
  | 11, _ => spec_11 w k x y cs
  | 12, _ => spec_12 w k x y cs
  | 13, _ => spec_13 w k x y cs
  | 14, _ => spec_14 w k x y cs
  | 15, _ => spec_15 w k x y cs
  | 16, _ => spec_16 w k x y cs
  | 17, _ => spec_17 w k x y cs
  | 18, _ => spec_18 w k x y cs
  | 19, _ => spec_19 w k x y cs
  | 20, _ => spec_20 w k x y cs
  | 21, _ => spec_21 w k x y cs
  | 22, _ => spec_22 w k x y cs
  | 23, _ => spec_23 w k x y cs
  | 24, _ => spec_24 w k x y cs
  | 25, _ => spec_25 w k x y cs
  | 26, _ => spec_26 w k x y cs
  | 27, _ => spec_27 w k x y cs
  | 28, _ => spec_28 w k x y cs
  | 29, _ => spec_29 w k x y cs
  | 30, _ => spec_30 w k x y cs
  | 31, _ => spec_31 w k x y cs
  | 32, _ => spec_32 w k x y cs
  | 33, _ => spec_33 w k x y cs
  | 34, _ => spec_34 w k x y cs
  | 35, _ => spec_35 w k x y cs
  | 36, _ => spec_36 w k x y cs
  | 37, _ => spec_37 w k x y cs
  | 38, _ => spec_38 w k x y cs
  | 39, _ => spec_39 w k x y cs
  | 40, _ => spec_40 w k x y cs
  | 41, _ => spec_41 w k x y cs
  | 42, _ => spec_42 w k x y cs
  | 43, _ => spec_43 w k x y cs
  | 44, _ => spec_44 w k x y cs
  | 45, _ => spec_45 w k x y cs
  | 46, _ => spec_46 w k x y cs
  | 47, _ => spec_47 w k x y cs
  | 48, _ => spec_48 w k x y cs
  | 49, _ => spec_49 w k x y cs
  | 50, _ => spec_50 w k x y cs
  | 51, _ => spec_51 w k x y cs
  | 52, _ => spec_52 w k x y cs
  | 53, _ => spec_53 w k x y cs
  | 54, _ => spec_54 w k x y cs
  | 55, _ => spec_55 w k x y cs
  | 56, _ => spec_56 w k x y cs
  | 57, _ => spec_57 w k x y cs
  | 58, _ => spec_58 w k x y cs
  | 59, _ => spec_59 w k x y cs
  | 60, _ => spec_60 w k x y cs
  | 61, _ => spec_61 w k x y cs
  | 62, _ => spec_62 w k x y cs
  | 63, _ => spec_63 w k x y cs
  | m + 64, h => absurd h (by omega)
theorem toNat64 (k : Int) : ((k % 64).toNat : Int) = k % 64 ∧ (k % 64).toNat < 64 := by omega

theorem spec_phase (k : Int) (w : World) : Calls Try.prog 77 #[.int .i64 k] w fun e w' => e = .returned (.complex .f32 (tre (k % 64).toNat) (tim (k % 64).toNat)) ∧ w = w' := by
  refine calls_from (is := fun g => g == 78) known_half 9999 (frSpec w k (k.tmod 64) (IntKind.i64.wrap (k.tmod 64 + 64)) (k % 64)) (fun cs => ?_) (fun cs => ?_)
  · have h := runM_steps (known_none _) 99 (spec_head w k cs)
    rw [spec_rest] at h
    exact h
  · have h := spec_all w k (k.tmod 64) (IntKind.i64.wrap (k.tmod 64 + 64)) cs (k % 64).toNat (toNat64 k).2
    rw [(toNat64 k).1] at h
    exact h

end Go.Proofs.Ytdmeinaonliphab
