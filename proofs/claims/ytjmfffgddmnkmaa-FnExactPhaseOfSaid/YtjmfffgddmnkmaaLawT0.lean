/- The law of the program's phase behind the program's answer: the entries 0 to 31 of the table. Condition: none. -/
import Derived.Test.YtjmfffgddmnkmaaLaw
namespace Go.Proofs.Ytjmfffgddmnkmaa
open Go
theorem law_0 (w : World) (k : Int) (cs : List Frame) :
    outM Try.prog (fun _ => false) (fun _ _ => none) 9999 4 (frLaw w k (tre 0) (tim 0)) cs w = some (.bool true, cs, w, w) := by kernel_rfl
theorem law_1 (w : World) (k : Int) (cs : List Frame) :
    outM Try.prog (fun _ => false) (fun _ _ => none) 9999 4 (frLaw w k (tre 1) (tim 1)) cs w = some (.bool true, cs, w, w) := by kernel_rfl
theorem law_2 (w : World) (k : Int) (cs : List Frame) :
    outM Try.prog (fun _ => false) (fun _ _ => none) 9999 4 (frLaw w k (tre 2) (tim 2)) cs w = some (.bool true, cs, w, w) := by kernel_rfl
theorem law_3 (w : World) (k : Int) (cs : List Frame) :
    outM Try.prog (fun _ => false) (fun _ _ => none) 9999 4 (frLaw w k (tre 3) (tim 3)) cs w = some (.bool true, cs, w, w) := by kernel_rfl
theorem law_4 (w : World) (k : Int) (cs : List Frame) :
    outM Try.prog (fun _ => false) (fun _ _ => none) 9999 4 (frLaw w k (tre 4) (tim 4)) cs w = some (.bool true, cs, w, w) := by kernel_rfl
theorem law_5 (w : World) (k : Int) (cs : List Frame) :
    outM Try.prog (fun _ => false) (fun _ _ => none) 9999 4 (frLaw w k (tre 5) (tim 5)) cs w = some (.bool true, cs, w, w) := by kernel_rfl
theorem law_6 (w : World) (k : Int) (cs : List Frame) :
    outM Try.prog (fun _ => false) (fun _ _ => none) 9999 4 (frLaw w k (tre 6) (tim 6)) cs w = some (.bool true, cs, w, w) := by kernel_rfl
theorem law_7 (w : World) (k : Int) (cs : List Frame) :
    outM Try.prog (fun _ => false) (fun _ _ => none) 9999 4 (frLaw w k (tre 7) (tim 7)) cs w = some (.bool true, cs, w, w) := by kernel_rfl
theorem law_8 (w : World) (k : Int) (cs : List Frame) :
    outM Try.prog (fun _ => false) (fun _ _ => none) 9999 4 (frLaw w k (tre 8) (tim 8)) cs w = some (.bool true, cs, w, w) := by kernel_rfl
theorem law_9 (w : World) (k : Int) (cs : List Frame) :
    outM Try.prog (fun _ => false) (fun _ _ => none) 9999 4 (frLaw w k (tre 9) (tim 9)) cs w = some (.bool true, cs, w, w) := by kernel_rfl
theorem law_10 (w : World) (k : Int) (cs : List Frame) :
    outM Try.prog (fun _ => false) (fun _ _ => none) 9999 4 (frLaw w k (tre 10) (tim 10)) cs w = some (.bool true, cs, w, w) := by kernel_rfl
theorem law_11 (w : World) (k : Int) (cs : List Frame) :
    outM Try.prog (fun _ => false) (fun _ _ => none) 9999 4 (frLaw w k (tre 11) (tim 11)) cs w = some (.bool true, cs, w, w) := by kernel_rfl
theorem law_12 (w : World) (k : Int) (cs : List Frame) :
    outM Try.prog (fun _ => false) (fun _ _ => none) 9999 4 (frLaw w k (tre 12) (tim 12)) cs w = some (.bool true, cs, w, w) := by kernel_rfl
theorem law_13 (w : World) (k : Int) (cs : List Frame) :
    outM Try.prog (fun _ => false) (fun _ _ => none) 9999 4 (frLaw w k (tre 13) (tim 13)) cs w = some (.bool true, cs, w, w) := by kernel_rfl
theorem law_14 (w : World) (k : Int) (cs : List Frame) :
    outM Try.prog (fun _ => false) (fun _ _ => none) 9999 4 (frLaw w k (tre 14) (tim 14)) cs w = some (.bool true, cs, w, w) := by kernel_rfl
theorem law_15 (w : World) (k : Int) (cs : List Frame) :
    outM Try.prog (fun _ => false) (fun _ _ => none) 9999 4 (frLaw w k (tre 15) (tim 15)) cs w = some (.bool true, cs, w, w) := by kernel_rfl
theorem law_16 (w : World) (k : Int) (cs : List Frame) :
    outM Try.prog (fun _ => false) (fun _ _ => none) 9999 4 (frLaw w k (tre 16) (tim 16)) cs w = some (.bool true, cs, w, w) := by kernel_rfl
theorem law_17 (w : World) (k : Int) (cs : List Frame) :
    outM Try.prog (fun _ => false) (fun _ _ => none) 9999 4 (frLaw w k (tre 17) (tim 17)) cs w = some (.bool true, cs, w, w) := by kernel_rfl
theorem law_18 (w : World) (k : Int) (cs : List Frame) :
    outM Try.prog (fun _ => false) (fun _ _ => none) 9999 4 (frLaw w k (tre 18) (tim 18)) cs w = some (.bool true, cs, w, w) := by kernel_rfl
theorem law_19 (w : World) (k : Int) (cs : List Frame) :
    outM Try.prog (fun _ => false) (fun _ _ => none) 9999 4 (frLaw w k (tre 19) (tim 19)) cs w = some (.bool true, cs, w, w) := by kernel_rfl
theorem law_20 (w : World) (k : Int) (cs : List Frame) :
    outM Try.prog (fun _ => false) (fun _ _ => none) 9999 4 (frLaw w k (tre 20) (tim 20)) cs w = some (.bool true, cs, w, w) := by kernel_rfl
theorem law_21 (w : World) (k : Int) (cs : List Frame) :
    outM Try.prog (fun _ => false) (fun _ _ => none) 9999 4 (frLaw w k (tre 21) (tim 21)) cs w = some (.bool true, cs, w, w) := by kernel_rfl
theorem law_22 (w : World) (k : Int) (cs : List Frame) :
    outM Try.prog (fun _ => false) (fun _ _ => none) 9999 4 (frLaw w k (tre 22) (tim 22)) cs w = some (.bool true, cs, w, w) := by kernel_rfl
theorem law_23 (w : World) (k : Int) (cs : List Frame) :
    outM Try.prog (fun _ => false) (fun _ _ => none) 9999 4 (frLaw w k (tre 23) (tim 23)) cs w = some (.bool true, cs, w, w) := by kernel_rfl
theorem law_24 (w : World) (k : Int) (cs : List Frame) :
    outM Try.prog (fun _ => false) (fun _ _ => none) 9999 4 (frLaw w k (tre 24) (tim 24)) cs w = some (.bool true, cs, w, w) := by kernel_rfl
theorem law_25 (w : World) (k : Int) (cs : List Frame) :
    outM Try.prog (fun _ => false) (fun _ _ => none) 9999 4 (frLaw w k (tre 25) (tim 25)) cs w = some (.bool true, cs, w, w) := by kernel_rfl
theorem law_26 (w : World) (k : Int) (cs : List Frame) :
    outM Try.prog (fun _ => false) (fun _ _ => none) 9999 4 (frLaw w k (tre 26) (tim 26)) cs w = some (.bool true, cs, w, w) := by kernel_rfl
theorem law_27 (w : World) (k : Int) (cs : List Frame) :
    outM Try.prog (fun _ => false) (fun _ _ => none) 9999 4 (frLaw w k (tre 27) (tim 27)) cs w = some (.bool true, cs, w, w) := by kernel_rfl
theorem law_28 (w : World) (k : Int) (cs : List Frame) :
    outM Try.prog (fun _ => false) (fun _ _ => none) 9999 4 (frLaw w k (tre 28) (tim 28)) cs w = some (.bool true, cs, w, w) := by kernel_rfl
theorem law_29 (w : World) (k : Int) (cs : List Frame) :
    outM Try.prog (fun _ => false) (fun _ _ => none) 9999 4 (frLaw w k (tre 29) (tim 29)) cs w = some (.bool true, cs, w, w) := by kernel_rfl
theorem law_30 (w : World) (k : Int) (cs : List Frame) :
    outM Try.prog (fun _ => false) (fun _ _ => none) 9999 4 (frLaw w k (tre 30) (tim 30)) cs w = some (.bool true, cs, w, w) := by kernel_rfl
theorem law_31 (w : World) (k : Int) (cs : List Frame) :
    outM Try.prog (fun _ => false) (fun _ _ => none) 9999 4 (frLaw w k (tre 31) (tim 31)) cs w = some (.bool true, cs, w, w) := by kernel_rfl
end Go.Proofs.Ytjmfffgddmnkmaa
