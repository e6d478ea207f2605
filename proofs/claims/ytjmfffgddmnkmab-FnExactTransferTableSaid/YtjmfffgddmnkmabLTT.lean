/- The law of TransferTable returns true where program and model answer alike. Condition: the two answers are one wave of finite cells, and one code. -/
import Derived.Test.YtjmfffgddmnkmabEqV
import Derived.Test.YtjmfffgddmnkmabRes
namespace Go.Proofs.Ytjmfffgddmnkmab
open Go Go.RowKit

set_option maxRecDepth 100000 in
set_option maxHeartbeats 1000000 in
theorem lawTT_of (a0 a1 m c : Int) (zs : Array Value) (hz : Cells zs) (h1 : (pic m zs).all (·.oneCell') = true)
    (HS : Hid (∀ w, Calls Try.prog 33 #[.int .i64 a0, .int .i64 a1] w fun e w' => e = .returned (.tuple #[.agg (pic m zs), .int .i64 c]) ∧ Below w.heap.size w w'))
    (HI : Hid (∀ w, Calls Try.prog 34 #[.int .i64 a0, .int .i64 a1] w fun e w' => e = .returned (.tuple #[.agg (pic m zs), .int .i64 c]) ∧ Below w.heap.size w w')) (w : World) :
    Calls Try.prog 5 #[.int .i64 a0, .int .i64 a1] w fun e w' => e = .returned (.bool true) ∧ Below w.heap.size w w' := by
  have hz37 := (zero_of_info info37').1
  have HE := Lib.hid (eqWave_refl m zs hz)
  have HF : Hid ((Try.prog.info? 30).map (·.size) = some (pic m zs).size) := Lib.hid (by rw [pic_size _ _ hz.1]; exact (zero_of_info info37').2)
  have HZF : Hid ((pic 0 zc).size = (pic m zs).size) := Lib.hid (by rw [pic_size _ _ hz.1, pic_size 0 zc zc_size])
  have H1 := Lib.hid h1
  have hcc : (c != c) = false := by simp
  generalize pic 0 zc = Z at *
  generalize pic m zs = F at *
  clear hz h1
  go_enter Try.func5, Try.ntmps5
  go_wp2_with fail
  refine (HS.out _).mono ?_
  rintro e w1 ⟨rfl, b1⟩
  have s1 := b1.size
  have B1 := Lib.hid b1
  have G1 : Hid ((w1.alloc (.cells Z 30)).heap[w1.heap.size]? = some (.cells Z 30)) := Lib.hid (h1_0 _ _)
  clear b1
  go_wp2_with (first | fail | (refine wpList_store_row rfl 30 (.tmp 5) (.tmp 13) rfl w1.heap.size F rfl rfl 30 Z G1.out HF.out HZF.out H1.out ?_; rw [World.setRow_alloc_new]))
  refine (HI.out _).mono ?_
  rintro e w2 ⟨rfl, b2⟩
  have s2 := b2.size
  have g2 := b2.block w1.heap.size (by rw [size_al]; omega)
  rw [size_al] at s2
  rw [h1_0] at g2
  have B2 := Lib.hid b2
  have G2 : Hid ((w2.alloc (.cells Z 30)).heap[w2.heap.size]? = some (.cells Z 30)) := Lib.hid (h1_0 _ _)
  have G3 : Hid ((w2.alloc (.cells F 30)).heap[w2.heap.size]? = some (.cells F 30)) := Lib.hid (h1_0 _ _)
  have G4 : Hid ((w2.alloc (.cells F 30)).heap[w1.heap.size]? = some (.cells F 30)) := Lib.hid (by rw [heap_alloc_old _ _ (by omega)]; exact g2)
  clear b2 g2
  go_wp2_with (first | fail | (refine wpList_store_row rfl 30 (.tmp 7) (.tmp 19) rfl w2.heap.size F rfl rfl 30 Z G2.out HF.out HZF.out H1.out ?_; rw [World.setRow_alloc_new]) | (refine wpList_load_row rfl 30 (.tmp 7) rfl w2.heap.size rfl 30 F (0, 0) _ G3.out Try.underlying30 rfl HF.out ?_) | (refine wpList_load_row rfl 30 (.tmp 5) rfl w1.heap.size rfl 30 F (0, 0) _ G4.out Try.underlying30 rfl HF.out ?_))
  refine (HE.out _).mono ?_
  rintro e w3 ⟨rfl, b3⟩
  have B3 := Lib.hid b3
  clear b3
  go_wp2
  go_ret
  refine ⟨rfl, ?_⟩
  have x2 : Below w.heap.size w w2 := (B1.out.alloc s1 _).trans (B2.out.mono (by rw [size_al]; omega))
  exact (x2.alloc (by omega) _).trans (B3.out.mono (by rw [size_al]; omega))
end Go.Proofs.Ytjmfffgddmnkmab
