/- The law of IsPicture returns true for every picture's cells. Condition: 64 floats. The model's threshold masks. Condition: 64 floats. -/
import Derived.Test.YtjmfffgddmnkmabDoorImpl
import Derived.Test.YtjmfffgddmnkmabDoorPic
import Derived.Test.YtjmfffgddmnkmabDoorM21
namespace Go.Proofs.YtjmfffgddmnkmabDoor
open Go Go.RowKit

theorem size32 (s : Int) (zs : Array Value) (hz : Floats zs) : (Tryd.prog.info? 36).map (·.size) = some (pic s zs).size := by rw [pic_size s zs hz.1]; exact (zero_of_info info32).2
theorem size30 (s : Int) (zs : Array Value) (hz : Floats zs) : (Tryd.prog.info? 33).map (·.size) = some (pic s zs).size := by rw [pic_size s zs hz.1]; kernel_rfl

end Go.Proofs.YtjmfffgddmnkmabDoor

namespace Go.Proofs.YtjmfffgddmnkmabDoor
open Go Go.RowKit

/-- at least -/
def geF (x t : Nat) : Bool := FloatKind.f32.format.order x t == some .gt || FloatKind.f32.format.order x t == some .eq
/-- the cell at a place -/
def cellTh (zs : Array Value) (t i : Nat) : Nat × Nat := mark (geF (bitsAt zs i) t)
theorem cellTh_fin (zs : Array Value) (t : Nat) : ∀ i, (fin (cellTh zs t i).1 && fin (cellTh zs t i).2) = true := fun _ => mark_fin _
theorem cellTh_at (zs : Array Value) (t k x : Nat) (h : zs[k]? = some (.float .f32 x)) : cellTh zs t k = mark (geF x t) := by
  unfold cellTh; rw [bitsAt_of zs k x h]
def ansTh (s : Int) (zs : Array Value) (t : Nat) : Int × Array Value × Int := if shown s zs && fin t then (s, gf (cellTh zs t) (s.toNat * s.toNat), 0) else (0, zc, 1)
theorem ansTh_no (s : Int) (zs : Array Value) (t : Nat) (h : (shown s zs && fin t) = false) : ansTh s zs t = (0, zc, 1) := by unfold ansTh; rw [h]; rfl
theorem ansTh_yes (s : Int) (zs : Array Value) (t : Nat) (h : (shown s zs && fin t) = true) : ansTh s zs t = (s, gf (cellTh zs t) (s.toNat * s.toNat), 0) := by unfold ansTh; rw [h]; rfl
theorem ansTh_cells (s : Int) (zs : Array Value) (t : Nat) : Cells (ansTh s zs t).2.1 := by
  unfold ansTh; split
  · exact gf_cells _ (cellTh_fin zs t) _
  · exact zc_cells3
theorem ansTh_one (s : Int) (zs : Array Value) (t : Nat) : (pic (ansTh s zs t).1 (ansTh s zs t).2.1).all (·.oneCell') = true := by
  unfold ansTh; split
  · exact gf_wav_one _ _ _
  · exact zc_one 0
theorem shown_side (s : Int) (zs : Array Value) (h : shown s zs = true) : side s = true ∧ ∃ n : Nat, s = n := by
  unfold shown at h
  rw [Bool.and_eq_true] at h
  refine ⟨h.1, s.toNat, ?_⟩
  rcases side_yes s h.1 with rfl | rfl | rfl | rfl <;> rfl

end Go.Proofs.YtjmfffgddmnkmabDoor
