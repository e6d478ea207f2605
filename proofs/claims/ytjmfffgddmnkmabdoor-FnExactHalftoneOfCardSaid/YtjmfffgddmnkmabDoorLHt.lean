/- The law of HalftoneOf returns true where program and model answer alike. Condition: 64 floats; the program's error holds the library's; the program's answer. -/
import Derived.Test.YtjmfffgddmnkmabDoorSHa
import Derived.Test.YtjmfffgddmnkmabDoorDo
import Derived.Test.YtjmfffgddmnkmabDoorM25
import Derived.Test.YtjmfffgddmnkmabDoorPicI
namespace Go.Proofs.YtjmfffgddmnkmabDoor
open Go Go.RowKit

set_option maxRecDepth 100000 in
set_option maxHeartbeats 1000000 in
theorem lawHt_of (s : Int) (zs : Array Value) (t : Nat) (hz : Floats zs) (m c : Int) (ws : Array Value) (hw : Cells ws) (h1 : (pic m ws).all (·.oneCell') = true)
    (HS : Hid (∀ w, Calls Tryd.prog 14 #[.agg (pic s zs), .float .f32 t] w fun e w' => e = .returned (.tuple #[.agg (pic m ws), .int .i64 c]) ∧ Below w.heap.size w w'))
    (a : Addr) (HI : Hid (∀ w, Err a w → Calls Tryd.prog 15 #[.agg (pic s zs), .float .f32 t] w fun e w' => e = .returned (.tuple #[.agg (pic m ws), .int .i64 c]) ∧ Below w.heap.size w w')) (w : World) (hE : Err a w) :
    Calls Tryd.prog 5 #[.agg (pic s zs), .float .f32 t] w fun e w' => e = .returned (.bool true) ∧ Below w.heap.size w w' := by
  have hz37 := (zero_of_info info37').1
  have HE := Lib.hid (eqWave_refl m ws hw)
  have HF : Hid ((Tryd.prog.info? 25).map (·.size) = some (pic m ws).size) := Lib.hid (by rw [pic_size _ _ hw.1]; exact (zero_of_info info37').2)
  have HZF : Hid ((pic 0 zc).size = (pic m ws).size) := Lib.hid (by rw [pic_size _ _ hw.1, pic_size 0 zc zc_size])
  have H1 := Lib.hid h1
  have HSP := Lib.hid (size30 s zs hz)
  have HA := Lib.hid (toPic_any s zs hz)
  have hcc : (c != c) = false := by simp
  have HEE := Lib.hid hE
  clear hE
  generalize pic 0 zc = Z at *
  generalize pic m ws = F at *
  generalize pic s zs = cs at *
  clear hz h1 hw
  go_enter Tryd.func5, Tryd.ntmps5
  go_wp2_with (first | fail | (refine wpList_load_row rfl 33 (.tmp 2) rfl w.heap.size rfl 33 cs (0, 0) _ (h1_0 _ _) Tryd.underlying33 rfl HSP.out ?_))
  refine (HA.out _).mono ?_
  rintro e w0 ⟨rfl, b0⟩
  have P0 : Hid (w0.heap[w.heap.size]? = some (.cells cs 33 (0, 0))) := Lib.hid (by rw [b0.block _ (by rw [size_al]; omega)]; exact h1_0 _ _)
  have B0 : Hid (Below w.heap.size w w0) := Lib.hid (((Below.refl w.heap.size w).alloc (Nat.le_refl _) _).trans (b0.mono (by rw [size_al]; omega)))
  clear b0
  go_wp2_with fail
  refine (HS.out _).mono ?_
  rintro e w1 ⟨rfl, b1⟩
  have P1 : Hid (w1.heap[w.heap.size]? = some (.cells cs 33 (0, 0))) := Lib.hid (by rw [b1.block _ (Array.getElem?_eq_some_iff.1 P0.out).1]; exact P0.out)
  have B1 : Hid (Below w.heap.size w w1) := Lib.hid (B0.out.trans (b1.mono B0.out.size))
  have l1 := (Array.getElem?_eq_some_iff.1 P1.out).1
  have G1 : Hid ((w1.alloc (.cells Z 25)).heap[w1.heap.size]? = some (.cells Z 25 (0, 0))) := Lib.hid (h1_0 _ _)
  have P2 : Hid ((w1.alloc (.cells F 25)).heap[w.heap.size]? = some (.cells cs 33 (0, 0))) := Lib.hid (by rw [heap_alloc_old _ _ l1]; exact P1.out)
  clear b1 P0 B0
  go_wp2_with (first | fail | (refine wpList_store_row rfl 25 (.tmp 5) (.tmp 14) rfl w1.heap.size F rfl rfl 25 Z G1.out HF.out HZF.out H1.out ?_; rw [World.setRow_alloc_new]) | (refine wpList_load_row rfl 33 (.tmp 2) rfl w.heap.size rfl 33 cs (0, 0) _ P2.out Tryd.underlying33 rfl HSP.out ?_))
  have F2 : Hid ((w1.alloc (.cells F 25)).heap[w1.heap.size]? = some (.cells F 25 (0, 0))) := Lib.hid (h1_0 _ _)
  have B2 : Hid (Below w.heap.size w (w1.alloc (.cells F 25))) := Lib.hid (B1.out.alloc B1.out.size _)
  refine (HA.out _).mono ?_
  rintro e w3 ⟨rfl, b3⟩
  have F3 : Hid (w3.heap[w1.heap.size]? = some (.cells F 25 (0, 0))) := Lib.hid (by rw [b3.block _ (by rw [size_al]; omega)]; exact F2.out)
  have B3 : Hid (Below w.heap.size w w3) := Lib.hid (B2.out.trans (b3.mono B2.out.size))
  clear b3 F2 B2
  go_wp2_with fail
  refine (HI.out _ (HEE.out.cell B3.out)).mono ?_
  rintro e w4 ⟨rfl, b4⟩
  have F4 : Hid (w4.heap[w1.heap.size]? = some (.cells F 25 (0, 0))) := Lib.hid (by rw [b4.block _ (Array.getElem?_eq_some_iff.1 F3.out).1]; exact F3.out)
  have B4 : Hid (Below w.heap.size w w4) := Lib.hid (B3.out.trans (b4.mono B3.out.size))
  have l4 := (Array.getElem?_eq_some_iff.1 F4.out).1
  have G5 : Hid ((w4.alloc (.cells Z 25)).heap[w4.heap.size]? = some (.cells Z 25 (0, 0))) := Lib.hid (h1_0 _ _)
  have F5 : Hid ((w4.alloc (.cells F 25)).heap[w1.heap.size]? = some (.cells F 25 (0, 0))) := Lib.hid (by rw [heap_alloc_old _ _ l4]; exact F4.out)
  have F6 : Hid ((w4.alloc (.cells F 25)).heap[w4.heap.size]? = some (.cells F 25 (0, 0))) := Lib.hid (h1_0 _ _)
  clear b4 F3 B3
  go_wp2_with (first | fail | (refine wpList_store_row rfl 25 (.tmp 7) (.tmp 21) rfl w4.heap.size F rfl rfl 25 Z G5.out HF.out HZF.out H1.out ?_; rw [World.setRow_alloc_new]) | (refine wpList_load_row rfl 25 (.tmp 7) rfl w4.heap.size rfl 25 F (0, 0) _ F6.out Tryd.underlying25 rfl HF.out ?_) | (refine wpList_load_row rfl 25 (.tmp 5) rfl w1.heap.size rfl 25 F (0, 0) _ F5.out Tryd.underlying25 rfl HF.out ?_))
  refine (HE.out _).mono ?_
  rintro e w5 ⟨rfl, b5⟩
  have B5 : Hid (Below w.heap.size w w5) := Lib.hid ((B4.out.alloc B4.out.size _).trans (b5.mono (by rw [size_al]; have := B4.out.size; omega)))
  clear b5
  go_wp2
  go_ret
  exact ⟨rfl, B5.out⟩

theorem lawHt_any (s : Int) (zs : Array Value) (t : Nat) (hz : Floats zs) (a : Addr)
    (HI : Hid (∀ w, Err a w → Calls Tryd.prog 15 #[.agg (pic s zs), .float .f32 t] w fun e w' => e = .returned (.tuple #[.agg (pic (ansHt s zs t).1 (ansHt s zs t).2.1), .int .i64 (ansHt s zs t).2.2]) ∧ Below w.heap.size w w')) (w : World) (hE : Err a w) :
    Calls Tryd.prog 5 #[.agg (pic s zs), .float .f32 t] w fun e w' => e = .returned (.bool true) ∧ Below w.heap.size w w' :=
  lawHt_of s zs t hz _ _ _ (ansHt_cells s zs t) (ansHt_one s zs t) (Lib.hid (specHt_any s zs t hz)) a HI w hE
end Go.Proofs.YtjmfffgddmnkmabDoor
