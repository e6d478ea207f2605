/- The law of IsPicture returns true for every picture's cells. Condition: 64 floats. -/
import Derived.Test.YtjmfffgddmnkmaaImpl
import Derived.Test.YtjmfffgddmnkmaaPic
namespace Go.Proofs.Ytjmfffgddmnkmaa
open Go Go.RowKit

theorem size32 (s : Int) (zs : Array Value) (hz : Floats zs) : (Try.prog.info? 54).map (·.size) = some (pic s zs).size := by rw [pic_size s zs hz.1]; exact (zero_of_info info32).2
theorem size30 (s : Int) (zs : Array Value) (hz : Floats zs) : (Try.prog.info? 52).map (·.size) = some (pic s zs).size := by rw [pic_size s zs hz.1]; kernel_rfl

set_option maxHeartbeats 400000 in
theorem spec_isPicture (s : Int) (zs : Array Value) (hz : Floats zs) (w : World) : Calls Try.prog 32 #[.agg (pic s zs)] w fun e w' => e = .returned (.bool (shown s zs)) ∧ Below w.heap.size w w' := by
  have HS := Lib.hid (size32 s zs hz)
  have HC := Lib.hid (shown_any s zs hz)
  generalize pic s zs = cs at *
  go_enter Try.func32, Try.ntmps32
  go_wp2_with (first | (go_at_call 87; refine (HC.out _).mono ?_; rintro e w' ⟨rfl, hb⟩) | (refine wpList_load_row rfl 54 (.tmp 1) rfl w.heap.size rfl 54 cs (0, 0) _ (h1_0 _ _) Try.underlying54 rfl HS.out ?_))
  go_ret
  exact ⟨rfl, ((Below.refl _ _).alloc (Nat.le_refl _) _).trans (by rw [size_al] at *; exact Below.mono ‹_› (by omega))⟩

set_option maxHeartbeats 400000 in
theorem law_isPicture (s : Int) (zs : Array Value) (hz : Floats zs) (w : World) : Calls Try.prog 5 #[.agg (pic s zs)] w fun e w' => e = .returned (.bool true) ∧ Below w.heap.size w w' := by
  have HS := Lib.hid (size30 s zs hz)
  have HA := Lib.hid (toPic_any s zs hz)
  have HB := Lib.hid (spec_isPicture s zs hz)
  have HC := Lib.hid (impl_any s zs hz)
  generalize pic s zs = cs at *
  generalize shown s zs = b at *
  go_enter Try.func5, Try.ntmps5
  go_wp2_with (refine wpList_load_row rfl 52 (.tmp 1) rfl w.heap.size rfl 52 cs (0, 0) _ (h1_0 _ _) Try.underlying52 rfl HS.out ?_)
  refine (HA.out _).mono ?_
  rintro e w1 ⟨rfl, b1⟩
  have s1 := b1.size
  have g1 := b1.block w.heap.size (by rw [size_al]; omega)
  rw [size_al] at s1
  rw [h1_0] at g1
  have G1 := Lib.hid g1
  have B1 := Lib.hid b1
  clear g1 b1
  go_wp2_with fail
  refine (HB.out _).mono ?_
  rintro e w2 ⟨rfl, b2⟩
  have s2 := b2.size
  have g2 := b2.block w.heap.size (by omega)
  rw [G1.out] at g2
  have G2 := Lib.hid g2
  have B2 := Lib.hid b2
  clear g2 b2
  go_wp2_with (refine wpList_load_row rfl 52 (.tmp 1) rfl w.heap.size rfl 52 cs (0, 0) _ G2.out Try.underlying52 rfl HS.out ?_)
  refine (HA.out _).mono ?_
  rintro e w3 ⟨rfl, b3⟩
  have s3 := b3.size
  have B3 := Lib.hid b3
  clear b3
  go_wp2_with fail
  refine (HC.out _).mono ?_
  rintro e w4 ⟨rfl, b4⟩
  have B4 := Lib.hid b4
  clear b4
  have hbb : (b != b) = false := by cases b <;> rfl
  go_wp2
  go_ret
  refine ⟨rfl, ((((((Below.refl _ _).alloc (Nat.le_refl _) _).trans (B1.out.mono ?_)).trans (B2.out.mono ?_)).trans (B3.out.mono ?_)).trans (B4.out.mono ?_))⟩
  · rw [size_al]; omega
  · omega
  · omega
  · omega
end Go.Proofs.Ytjmfffgddmnkmaa
