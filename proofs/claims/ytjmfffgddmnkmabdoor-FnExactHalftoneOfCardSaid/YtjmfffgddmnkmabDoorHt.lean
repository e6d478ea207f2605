/- The law of HalftoneOf returns true. Condition: 64 floats; the program's error holds the library's. -/
import Derived.Test.YtjmfffgddmnkmabDoorHw
import Derived.Test.YtjmfffgddmnkmabDoorLHt
namespace Go.Proofs.YtjmfffgddmnkmabDoor
open Go Go.RowKit

theorem lawHt_all (s : Int) (zs : Array Value) (t : Nat) (hz : Floats zs) (a : Addr) (w : World) (hE : Err a w) :
    Calls Tryd.prog 5 #[.agg (pic s zs), .float .f32 t] w fun e w' => e = .returned (.bool true) ∧ Below w.heap.size w w' :=
  lawHt_any s zs t hz a (Lib.hid fun u hu => implHt_of s zs t hz a (fun n d hs hH hside _ b c v hv hb hc => by
    subst hs
    have hn : 1 ≤ n ∧ n ≤ 8 := by rcases side_nat n hside with rfl | rfl | rfl | rfl <;> omega
    exact closHt n zs t d hside b c a v hv hb hc fun y q c0 u hy hok hE hb hq hc hqc => row_any n zs t d hz hH hn b a y q c0 u hy hok hE hb hq hc hqc) u hu) w hE
end Go.Proofs.YtjmfffgddmnkmabDoor
