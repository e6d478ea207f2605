/- The law of the program's phase behind the program's answer: the entries 32 to 63 of the table. Condition: none. -/
import Derived.Test.YtjmfffgddmnkmaaLaw
namespace Go.Proofs.Ytjmfffgddmnkmaa
open Go
theorem law_32 (w : World) (k : Int) (cs : List Frame) :
    outM Try.prog (fun _ => false) (fun _ _ => none) 9999 4 (frLaw w k (tre 32) (tim 32)) cs w = some (.bool true, cs, w, w) := by kernel_rfl
theorem law_33 (w : World) (k : Int) (cs : List Frame) :
    outM Try.prog (fun _ => false) (fun _ _ => none) 9999 4 (frLaw w k (tre 33) (tim 33)) cs w = some (.bool true, cs, w, w) := by kernel_rfl
theorem law_34 (w : World) (k : Int) (cs : List Frame) :
    outM Try.prog (fun _ => false) (fun _ _ => none) 9999 4 (frLaw w k (tre 34) (tim 34)) cs w = some (.bool true, cs, w, w) := by kernel_rfl
theorem law_35 (w : World) (k : Int) (cs : List Frame) :
    outM Try.prog (fun _ => false) (fun _ _ => none) 9999 4 (frLaw w k (tre 35) (tim 35)) cs w = some (.bool true, cs, w, w) := by kernel_rfl
theorem law_36 (w : World) (k : Int) (cs : List Frame) :
    outM Try.prog (fun _ => false) (fun _ _ => none) 9999 4 (frLaw w k (tre 36) (tim 36)) cs w = some (.bool true, cs, w, w) := by kernel_rfl
theorem law_37 (w : World) (k : Int) (cs : List Frame) :
    outM Try.prog (fun _ => false) (fun _ _ => none) 9999 4 (frLaw w k (tre 37) (tim 37)) cs w = some (.bool true, cs, w, w) := by kernel_rfl
theorem law_38 (w : World) (k : Int) (cs : List Frame) :
    outM Try.prog (fun _ => false) (fun _ _ => none) 9999 4 (frLaw w k (tre 38) (tim 38)) cs w = some (.bool true, cs, w, w) := by kernel_rfl
theorem law_39 (w : World) (k : Int) (cs : List Frame) :
    outM Try.prog (fun _ => false) (fun _ _ => none) 9999 4 (frLaw w k (tre 39) (tim 39)) cs w = some (.bool true, cs, w, w) := by kernel_rfl
theorem law_40 (w : World) (k : Int) (cs : List Frame) :
    outM Try.prog (fun _ => false) (fun _ _ => none) 9999 4 (frLaw w k (tre 40) (tim 40)) cs w = some (.bool true, cs, w, w) := by kernel_rfl
theorem law_41 (w : World) (k : Int) (cs : List Frame) :
    outM Try.prog (fun _ => false) (fun _ _ => none) 9999 4 (frLaw w k (tre 41) (tim 41)) cs w = some (.bool true, cs, w, w) := by kernel_rfl
theorem law_42 (w : World) (k : Int) (cs : List Frame) :
    outM Try.prog (fun _ => false) (fun _ _ => none) 9999 4 (frLaw w k (tre 42) (tim 42)) cs w = some (.bool true, cs, w, w) := by kernel_rfl
theorem law_43 (w : World) (k : Int) (cs : List Frame) :
    outM Try.prog (fun _ => false) (fun _ _ => none) 9999 4 (frLaw w k (tre 43) (tim 43)) cs w = some (.bool true, cs, w, w) := by kernel_rfl
theorem law_44 (w : World) (k : Int) (cs : List Frame) :
    outM Try.prog (fun _ => false) (fun _ _ => none) 9999 4 (frLaw w k (tre 44) (tim 44)) cs w = some (.bool true, cs, w, w) := by kernel_rfl
theorem law_45 (w : World) (k : Int) (cs : List Frame) :
    outM Try.prog (fun _ => false) (fun _ _ => none) 9999 4 (frLaw w k (tre 45) (tim 45)) cs w = some (.bool true, cs, w, w) := by kernel_rfl
theorem law_46 (w : World) (k : Int) (cs : List Frame) :
    outM Try.prog (fun _ => false) (fun _ _ => none) 9999 4 (frLaw w k (tre 46) (tim 46)) cs w = some (.bool true, cs, w, w) := by kernel_rfl
theorem law_47 (w : World) (k : Int) (cs : List Frame) :
    outM Try.prog (fun _ => false) (fun _ _ => none) 9999 4 (frLaw w k (tre 47) (tim 47)) cs w = some (.bool true, cs, w, w) := by kernel_rfl
theorem law_48 (w : World) (k : Int) (cs : List Frame) :
    outM Try.prog (fun _ => false) (fun _ _ => none) 9999 4 (frLaw w k (tre 48) (tim 48)) cs w = some (.bool true, cs, w, w) := by kernel_rfl
theorem law_49 (w : World) (k : Int) (cs : List Frame) :
    outM Try.prog (fun _ => false) (fun _ _ => none) 9999 4 (frLaw w k (tre 49) (tim 49)) cs w = some (.bool true, cs, w, w) := by kernel_rfl
theorem law_50 (w : World) (k : Int) (cs : List Frame) :
    outM Try.prog (fun _ => false) (fun _ _ => none) 9999 4 (frLaw w k (tre 50) (tim 50)) cs w = some (.bool true, cs, w, w) := by kernel_rfl
theorem law_51 (w : World) (k : Int) (cs : List Frame) :
    outM Try.prog (fun _ => false) (fun _ _ => none) 9999 4 (frLaw w k (tre 51) (tim 51)) cs w = some (.bool true, cs, w, w) := by kernel_rfl
theorem law_52 (w : World) (k : Int) (cs : List Frame) :
    outM Try.prog (fun _ => false) (fun _ _ => none) 9999 4 (frLaw w k (tre 52) (tim 52)) cs w = some (.bool true, cs, w, w) := by kernel_rfl
theorem law_53 (w : World) (k : Int) (cs : List Frame) :
    outM Try.prog (fun _ => false) (fun _ _ => none) 9999 4 (frLaw w k (tre 53) (tim 53)) cs w = some (.bool true, cs, w, w) := by kernel_rfl
theorem law_54 (w : World) (k : Int) (cs : List Frame) :
    outM Try.prog (fun _ => false) (fun _ _ => none) 9999 4 (frLaw w k (tre 54) (tim 54)) cs w = some (.bool true, cs, w, w) := by kernel_rfl
theorem law_55 (w : World) (k : Int) (cs : List Frame) :
    outM Try.prog (fun _ => false) (fun _ _ => none) 9999 4 (frLaw w k (tre 55) (tim 55)) cs w = some (.bool true, cs, w, w) := by kernel_rfl
theorem law_56 (w : World) (k : Int) (cs : List Frame) :
    outM Try.prog (fun _ => false) (fun _ _ => none) 9999 4 (frLaw w k (tre 56) (tim 56)) cs w = some (.bool true, cs, w, w) := by kernel_rfl
theorem law_57 (w : World) (k : Int) (cs : List Frame) :
    outM Try.prog (fun _ => false) (fun _ _ => none) 9999 4 (frLaw w k (tre 57) (tim 57)) cs w = some (.bool true, cs, w, w) := by kernel_rfl
theorem law_58 (w : World) (k : Int) (cs : List Frame) :
    outM Try.prog (fun _ => false) (fun _ _ => none) 9999 4 (frLaw w k (tre 58) (tim 58)) cs w = some (.bool true, cs, w, w) := by kernel_rfl
theorem law_59 (w : World) (k : Int) (cs : List Frame) :
    outM Try.prog (fun _ => false) (fun _ _ => none) 9999 4 (frLaw w k (tre 59) (tim 59)) cs w = some (.bool true, cs, w, w) := by kernel_rfl
theorem law_60 (w : World) (k : Int) (cs : List Frame) :
    outM Try.prog (fun _ => false) (fun _ _ => none) 9999 4 (frLaw w k (tre 60) (tim 60)) cs w = some (.bool true, cs, w, w) := by kernel_rfl
theorem law_61 (w : World) (k : Int) (cs : List Frame) :
    outM Try.prog (fun _ => false) (fun _ _ => none) 9999 4 (frLaw w k (tre 61) (tim 61)) cs w = some (.bool true, cs, w, w) := by kernel_rfl
theorem law_62 (w : World) (k : Int) (cs : List Frame) :
    outM Try.prog (fun _ => false) (fun _ _ => none) 9999 4 (frLaw w k (tre 62) (tim 62)) cs w = some (.bool true, cs, w, w) := by kernel_rfl
theorem law_63 (w : World) (k : Int) (cs : List Frame) :
    outM Try.prog (fun _ => false) (fun _ _ => none) 9999 4 (frLaw w k (tre 63) (tim 63)) cs w = some (.bool true, cs, w, w) := by kernel_rfl
end Go.Proofs.Ytjmfffgddmnkmaa
