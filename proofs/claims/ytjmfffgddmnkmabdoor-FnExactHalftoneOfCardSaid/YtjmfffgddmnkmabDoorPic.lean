/- The law's copy of a picture hands back the same picture and leaves all older memory alone. Condition: 64 floats. -/
import Derived.Test.YtjmfffgddmnkmabDoorMid
import Derived.Test.YtjmfffgddmnkmabDoorCopy
import Derived.Test.YtjmfffgddmnkmabDoorPicI
namespace Go.Proofs.YtjmfffgddmnkmabDoor
open Go Go.RowKit

set_option maxRecDepth 100000 in
set_option maxHeartbeats 400000 in
theorem toPic_any (s : Int) (zs : Array Value) (hz : Floats zs) (w : World) : Calls Tryd.prog 11 #[.agg (pic s zs)] w fun e w' => e = .returned (.agg (pic s zs)) ∧ Below w.heap.size w w' := by
  have HZ := Lib.hid hz
  have h0 := pic_zero s zs
  have hz32 := (zero_of_info info32).1
  have HS32 := Lib.hid (zero_of_info info32).2
  have hZ0 := pic_zero 0 zero64
  have HP := Lib.hid (pic_part s zs)
  have HS : Hid ((pic s zs).size = 65) := Lib.hid (pic_size s zs hz.1)
  have HS' : Hid ((pic 0 zero64).size = 65) := Lib.hid (pic_size 0 zero64 (by simp [zero64]))
  have HO := Lib.hid (pic_onto s zs (pic 0 zero64) hz.1 HS'.out)
  have H1 := Lib.hid (pic_one s zs hz)
  generalize pic s zs = cs at *
  generalize pic 0 zero64 = Z at *
  have HS28 : Hid ((Tryd.prog.info? 31).map (·.size) = some zs.size) := Lib.hid (by rw [hz.1]; exact size28)
  have HC32 : Hid ((Tryd.prog.info? 36).map (·.size) = some cs.size) := Lib.hid (by rw [HS.out]; exact HS32.out)
  clear hz
  go_enter Tryd.func11, Tryd.ntmps11
  go_wp2_with (first | fail | (refine wpList_load_part rfl 31 (.tmp 7) rfl w.heap.size 1 rfl zs _ 33 cs (0, 0) (h3_0 _ _ _ _) HP.out Tryd.underlying31 rfl HS28.out ?_))
  refine (copy_any zs HZ.out _).mono ?_
  rintro e w1 ⟨rfl, hb⟩
  have hC := hb.block (w.heap.size + 1 + 1) (by rw [size_al, size_al, size_al]; omega)
  have hB := hb.block (w.heap.size + 1) (by rw [size_al, size_al, size_al]; omega)
  rw [h3_2] at hC
  rw [h3_1] at hB
  rw [size_al, size_al, size_al] at hb
  have hB1 : (w1.setRow (w.heap.size + 1 + 1) cs).heap[w.heap.size + 1]? = some (.cells Z 36) := by rw [setRow_other _ _ _ _ (by omega)]; exact hB
  have HC1 := Lib.hid (setRow_heap w1 (w.heap.size + 1 + 1) _ cs 36 (0, 0) hC)
  have HC := Lib.hid hC
  have HB1 := Lib.hid hB1
  have HZs : Hid (Z.size = cs.size) := Lib.hid (by rw [HS'.out, HS.out])
  have HL : Hid (1 + zs.size ≤ (Z.setIfInBounds 0 (Value.int IntKind.i64 s)).size) := Lib.hid (by simp [HS'.out, HZ.out.1])
  clear hC hB hB1 h0 hZ0 HS HS' HP
  go_wp2_with (first | (refine wpList_store_onto rfl 31 (.tmp 10) (.tmp 9) rfl (w.heap.size + 1 + 1) 1 zs rfl rfl 36 _ HC.out HL.out HS28.out (floats_one zs HZ.out) ?_; rw [HO.out]) | (refine wpList_load_row rfl 36 (.tmp 3) rfl (w.heap.size + 1 + 1) rfl 36 cs (0, 0) _ HC1.out Tryd.underlying36 rfl HC32.out ?_) | (refine wpList_store_row rfl 36 (.tmp 2) (.tmp 11) rfl (w.heap.size + 1) cs rfl rfl 36 Z HB1.out HC32.out HZs.out H1.out ?_))
  refine bodyPost_ret (v := .agg cs) (results_cell_row (fn := Tryd.f11) (p := 2) (ty := 36) rfl _ _ (w.heap.size + 1) 36 cs (0, 0) _ rfl (setRow_heap _ _ _ _ _ _ HB1.out) Tryd.underlying36 rfl HC32.out) rfl ⟨rfl, ?_⟩
  exact below_setRow (below_setRow (((((Below.refl _ _).alloc (Nat.le_refl _) _).alloc (by rw [size_al]; omega) _).alloc (by rw [size_al, size_al]; omega) _).trans (hb.mono (by omega))) (by omega) _) (by omega) _
end Go.Proofs.YtjmfffgddmnkmabDoor
