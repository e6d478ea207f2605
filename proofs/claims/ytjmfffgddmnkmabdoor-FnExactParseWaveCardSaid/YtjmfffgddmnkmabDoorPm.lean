/- The model's ParseWave: the wave that the text tells, or none. Condition: texts up to 2^20 bytes. -/
import Derived.Test.YtjmfffgddmnkmabDoorRe
namespace Go.Proofs.YtjmfffgddmnkmabDoor
open Go Go.RowKit

theorem read_size (r : Option (Nat × List (List UInt8))) : (pic (sideR r) (cellsR r)).size = 65 := by
  cases r with
  | none => exact pic_size _ _ zc_size
  | some p => exact pic_size _ _ (gf_size _ _)
theorem read_one (r : Option (Nat × List (List UInt8))) : (pic (sideR r) (cellsR r)).all (·.oneCell') = true := by
  cases r with
  | none => exact zc_one _
  | some p => exact gf_all_one _ _ _

set_option maxRecDepth 100000 in
set_option maxHeartbeats 1000000 in
theorem specPW_any (s : ByteArray) (hs : s.size ≤ 1048576) (w : World) : Calls Tryd.prog 7 #[.string s] w fun e w' =>
    e = .returned (.tuple #[.agg (pic (sideR (readOf s.data.toList)) (cellsR (readOf s.data.toList))), .int .i64 (codeR (readOf s.data.toList))]) ∧ Below w.heap.size w w' := by
  have hz37 := (zero_of_info info37').1
  have HS37 := Lib.hid (zero_of_info info37').2
  have HZ37 : Hid ((pic 0 zc).size = 65) := Lib.hid (pic_size 0 zc zc_size)
  have HZ1 := Lib.hid (zc_one 0)
  have hne := pic_ne
  obtain ⟨Z, HZZ⟩ : ∃ Z, Hid (Z = pic 0 zc) := ⟨_, Lib.hid rfl⟩
  rw [← HZZ.out] at hz37 HZ37 HZ1 hne
  have HZI : Hid ((Tryd.prog.info? 25).map (·.size) = some Z.size) := Lib.hid (by rw [HZ37.out]; exact HS37.out)
  have HRD := Lib.hid (read_any s hs)
  have HF : Hid ((Tryd.prog.info? 25).map (·.size) = some (pic (sideR (readOf s.data.toList)) (cellsR (readOf s.data.toList))).size) := Lib.hid (by rw [read_size]; exact HS37.out)
  have HZF : Hid (Z.size = (pic (sideR (readOf s.data.toList)) (cellsR (readOf s.data.toList))).size) := Lib.hid (by rw [read_size]; exact HZ37.out)
  have HF1 := Lib.hid (read_one (readOf s.data.toList))
  have HNO : Hid ((readOf s.data.toList).isSome = false → pic (sideR (readOf s.data.toList)) (cellsR (readOf s.data.toList)) = Z ∧ codeR (readOf s.data.toList) = 6) := Lib.hid (fun h => by
    cases hr : readOf s.data.toList with
    | none => exact ⟨HZZ.out.symm, rfl⟩
    | some p => rw [hr] at h; cases h)
  have HYES : Hid ((readOf s.data.toList).isSome = true → codeR (readOf s.data.toList) = 0) := Lib.hid (fun h => by
    cases hr : readOf s.data.toList with
    | none => rw [hr] at h; cases h
    | some p => rfl)
  generalize pic (sideR (readOf s.data.toList)) (cellsR (readOf s.data.toList)) = C at *
  generalize codeR (readOf s.data.toList) = cd at *
  generalize (readOf s.data.toList).isSome = q at *
  clear hs
  go_enter Tryd.func7, Tryd.ntmps7
  go_wp2_with fail
  refine (HRD.out _).mono ?_
  rintro e w1 ⟨rfl, b1⟩
  have G1 : Hid (w1.heap[w.heap.size]? = some (.cells Z 25 (0, 0))) := Lib.hid (heap_below b1 (h1_0 _ _))
  have B1 : Hid (Below w.heap.size w w1) := Lib.hid ((below_al w _).trans (b1.mono (by rw [size_al]; omega)))
  clear b1 HRD
  have G2 : Hid ((w1.alloc (.cells Z 25)).heap[w1.heap.size]? = some (.cells Z 25)) := Lib.hid (h1_0 _ _)
  have GC : Hid ((w1.alloc (.cells C 25)).heap[w1.heap.size]? = some (.cells C 25)) := Lib.hid (h1_0 _ _)
  have GZ : Hid ((w1.alloc (.cells C 25)).heap[w.heap.size]? = some (.cells Z 25)) := Lib.hid (heap_below (below_al _ _) G1.out)
  have BC : Hid (Below w.heap.size w (w1.alloc (.cells C 25))) := Lib.hid (B1.out.trans ((below_al w1 _).mono B1.out.size))
  cases q
  · obtain ⟨hc, rfl⟩ := HNO.out rfl
    have HCZ := Lib.hid hc
    clear HNO HYES hc
    go_wp2_with (first | fail | (refine wpList_store_row rfl 25 (.tmp 4) (.tmp 9) rfl w1.heap.size C rfl rfl 25 Z G2.out HF.out HZF.out HF1.out ?_; rw [World.setRow_alloc_new]) | (refine wpList_store_row rfl 25 (.tmp 2) (.tmp 13) rfl w.heap.size Z rfl rfl 25 Z GZ.out HZI.out rfl HZ1.out ?_))
    refine bodyPost_ret (v := .tuple #[.agg Z, .int .i64 6]) (results_row_tmp (fn := Tryd.f7) (p := 2) (u := 3) (ty := 25) rfl _ _ w.heap.size 25 Z (0, 0) _ rfl (setRow_heap _ _ _ _ _ _ GZ.out) Tryd.underlying25 rfl HZI.out) rfl ⟨by rw [HCZ.out], ?_⟩
    exact below_setRow BC.out (Nat.le_refl _) _
  · obtain rfl := HYES.out rfl
    clear HNO HYES
    go_wp2_with (first | fail | (refine wpList_store_row rfl 25 (.tmp 4) (.tmp 9) rfl w1.heap.size C rfl rfl 25 Z G2.out HF.out HZF.out HF1.out ?_; rw [World.setRow_alloc_new]) | (refine wpList_load_row rfl 25 (.tmp 4) rfl w1.heap.size rfl 25 C (0, 0) _ GC.out Tryd.underlying25 rfl HF.out ?_) | (refine wpList_store_row rfl 25 (.tmp 2) (.tmp 14) rfl w.heap.size C rfl rfl 25 Z GZ.out HF.out HZF.out HF1.out ?_))
    refine bodyPost_ret (v := .tuple #[.agg C, .int .i64 0]) (results_row_tmp (fn := Tryd.f7) (p := 2) (u := 3) (ty := 25) rfl _ _ w.heap.size 25 C (0, 0) _ rfl (setRow_heap _ _ _ _ _ _ GZ.out) Tryd.underlying25 rfl HF.out) rfl ⟨rfl, ?_⟩
    exact below_setRow BC.out (Nat.le_refl _) _
end Go.Proofs.YtjmfffgddmnkmabDoor
