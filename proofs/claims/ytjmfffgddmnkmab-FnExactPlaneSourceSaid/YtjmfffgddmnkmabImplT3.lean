/- The program's phase behind the remainder: the entries 48 to 63 of the table. Condition: none. -/
import Derived.Test.YtjmfffgddmnkmabRem
namespace Go.Proofs.Ytjmfffgddmnkmab
open Go
theorem impl_48 (w : World) (k : Int) (cs : List Frame) :
    outM Try.prog (fun _ => false) (fun _ _ => none) 9999 95 (frImpl w k 48) cs w = some (.complex .f32 (tre 48) (tim 48), cs, w, w) := by kernel_rfl
theorem impl_49 (w : World) (k : Int) (cs : List Frame) :
    outM Try.prog (fun _ => false) (fun _ _ => none) 9999 95 (frImpl w k 49) cs w = some (.complex .f32 (tre 49) (tim 49), cs, w, w) := by kernel_rfl
theorem impl_50 (w : World) (k : Int) (cs : List Frame) :
    outM Try.prog (fun _ => false) (fun _ _ => none) 9999 95 (frImpl w k 50) cs w = some (.complex .f32 (tre 50) (tim 50), cs, w, w) := by kernel_rfl
theorem impl_51 (w : World) (k : Int) (cs : List Frame) :
    outM Try.prog (fun _ => false) (fun _ _ => none) 9999 95 (frImpl w k 51) cs w = some (.complex .f32 (tre 51) (tim 51), cs, w, w) := by kernel_rfl
theorem impl_52 (w : World) (k : Int) (cs : List Frame) :
    outM Try.prog (fun _ => false) (fun _ _ => none) 9999 95 (frImpl w k 52) cs w = some (.complex .f32 (tre 52) (tim 52), cs, w, w) := by kernel_rfl
theorem impl_53 (w : World) (k : Int) (cs : List Frame) :
    outM Try.prog (fun _ => false) (fun _ _ => none) 9999 95 (frImpl w k 53) cs w = some (.complex .f32 (tre 53) (tim 53), cs, w, w) := by kernel_rfl
theorem impl_54 (w : World) (k : Int) (cs : List Frame) :
    outM Try.prog (fun _ => false) (fun _ _ => none) 9999 95 (frImpl w k 54) cs w = some (.complex .f32 (tre 54) (tim 54), cs, w, w) := by kernel_rfl
theorem impl_55 (w : World) (k : Int) (cs : List Frame) :
    outM Try.prog (fun _ => false) (fun _ _ => none) 9999 95 (frImpl w k 55) cs w = some (.complex .f32 (tre 55) (tim 55), cs, w, w) := by kernel_rfl
theorem impl_56 (w : World) (k : Int) (cs : List Frame) :
    outM Try.prog (fun _ => false) (fun _ _ => none) 9999 95 (frImpl w k 56) cs w = some (.complex .f32 (tre 56) (tim 56), cs, w, w) := by kernel_rfl
theorem impl_57 (w : World) (k : Int) (cs : List Frame) :
    outM Try.prog (fun _ => false) (fun _ _ => none) 9999 95 (frImpl w k 57) cs w = some (.complex .f32 (tre 57) (tim 57), cs, w, w) := by kernel_rfl
theorem impl_58 (w : World) (k : Int) (cs : List Frame) :
    outM Try.prog (fun _ => false) (fun _ _ => none) 9999 95 (frImpl w k 58) cs w = some (.complex .f32 (tre 58) (tim 58), cs, w, w) := by kernel_rfl
theorem impl_59 (w : World) (k : Int) (cs : List Frame) :
    outM Try.prog (fun _ => false) (fun _ _ => none) 9999 95 (frImpl w k 59) cs w = some (.complex .f32 (tre 59) (tim 59), cs, w, w) := by kernel_rfl
theorem impl_60 (w : World) (k : Int) (cs : List Frame) :
    outM Try.prog (fun _ => false) (fun _ _ => none) 9999 95 (frImpl w k 60) cs w = some (.complex .f32 (tre 60) (tim 60), cs, w, w) := by kernel_rfl
theorem impl_61 (w : World) (k : Int) (cs : List Frame) :
    outM Try.prog (fun _ => false) (fun _ _ => none) 9999 95 (frImpl w k 61) cs w = some (.complex .f32 (tre 61) (tim 61), cs, w, w) := by kernel_rfl
theorem impl_62 (w : World) (k : Int) (cs : List Frame) :
    outM Try.prog (fun _ => false) (fun _ _ => none) 9999 95 (frImpl w k 62) cs w = some (.complex .f32 (tre 62) (tim 62), cs, w, w) := by kernel_rfl
theorem impl_63 (w : World) (k : Int) (cs : List Frame) :
    outM Try.prog (fun _ => false) (fun _ _ => none) 9999 95 (frImpl w k 63) cs w = some (.complex .f32 (tre 63) (tim 63), cs, w, w) := by kernel_rfl
end Go.Proofs.Ytjmfffgddmnkmab
