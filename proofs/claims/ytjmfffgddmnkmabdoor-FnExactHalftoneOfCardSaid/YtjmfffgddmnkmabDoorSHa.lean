/- The model's halftones, all of them. Condition: 64 floats. -/
import Derived.Test.YtjmfffgddmnkmabDoorSHt
namespace Go.Proofs.YtjmfffgddmnkmabDoor
open Go Go.RowKit

set_option maxRecDepth 100000 in
set_option maxHeartbeats 800000 in
theorem specHt_no0 (s : Int) (zs : Array Value) (t : Nat) (hz : Floats zs) (h0 : shown s zs = false) (w : World) : Calls Tryd.prog 14 #[.agg (pic s zs), .float .f32 t] w fun e w' => e = .returned (.tuple #[.agg (pic 0 zc), .int .i64 1]) ∧ Below w.heap.size w w' := by
  have hz37 := (zero_of_info info37').1
  have HS37 := Lib.hid (zero_of_info info37').2
  have HZ37 : Hid ((pic 0 zc).size = 65) := Lib.hid (pic_size 0 zc zc_size)
  have HZ1 := Lib.hid (zc_one 0)
  have hne := pic_ne
  have HS := Lib.hid (size32 s zs hz)
  have hc := shown_any s zs hz
  rw [h0] at hc
  have HC := Lib.hid hc
  generalize pic s zs = cs at *
  generalize pic 0 zc = Z at *
  have HZI : Hid ((Tryd.prog.info? 25).map (·.size) = some Z.size) := Lib.hid (by rw [HZ37.out]; exact HS37.out)
  clear hz h0 hc
  go_enter Tryd.func14, Tryd.ntmps14
  go_wp2_with (first | fail | (refine wpList_load_row rfl 36 (.tmp 2) rfl w.heap.size rfl 36 cs (0, 0) _ (h2_0 _ _ _) Tryd.underlying36 rfl HS.out ?_))
  refine (HC.out _).mono ?_
  rintro e w1 ⟨rfl, b1⟩
  have G1 : Hid (w1.heap[w.heap.size + 1]? = some (.cells Z 25 (0, 0))) := Lib.hid (by rw [b1.block _ (by rw [size_al, size_al]; omega)]; exact h2_1 _ _ _)
  have B1 : Hid (Below w.heap.size w w1) := Lib.hid ((below_al2 w _ _).trans (b1.mono (by rw [size_al, size_al]; omega)))
  clear b1 HC
  go_wp2_with (first | fail | (refine wpList_store_row rfl 25 (.tmp 4) (.tmp 20) rfl (w.heap.size + 1) Z rfl rfl 25 Z G1.out HZI.out rfl HZ1.out ?_))
  refine bodyPost_ret (v := .tuple #[.agg Z, .int .i64 1]) (results_row_tmp (fn := Tryd.f14) (p := 4) (u := 5) (ty := 25) rfl _ _ (w.heap.size + 1) 25 Z (0, 0) _ rfl (setRow_heap _ _ _ _ _ _ G1.out) Tryd.underlying25 rfl HZI.out) rfl ⟨rfl, ?_⟩
  exact below_setRow B1.out (by omega) _

set_option maxRecDepth 100000 in
set_option maxHeartbeats 800000 in
theorem specHt_no1 (s : Int) (zs : Array Value) (t : Nat) (hz : Floats zs) (h0 : shown s zs = true) (hf : fin t = false) (w : World) : Calls Tryd.prog 14 #[.agg (pic s zs), .float .f32 t] w fun e w' => e = .returned (.tuple #[.agg (pic 0 zc), .int .i64 1]) ∧ Below w.heap.size w w' := by
  have hz37 := (zero_of_info info37').1
  have HS37 := Lib.hid (zero_of_info info37').2
  have HZ37 : Hid ((pic 0 zc).size = 65) := Lib.hid (pic_size 0 zc zc_size)
  have HZ1 := Lib.hid (zc_one 0)
  have hne := pic_ne
  have HS := Lib.hid (size32 s zs hz)
  have hc := shown_any s zs hz
  rw [h0] at hc
  have HC := Lib.hid hc
  generalize pic s zs = cs at *
  generalize pic 0 zc = Z at *
  have HZI : Hid ((Tryd.prog.info? 25).map (·.size) = some Z.size) := Lib.hid (by rw [HZ37.out]; exact HS37.out)
  clear hz h0 hc
  go_enter Tryd.func14, Tryd.ntmps14
  go_wp2_with (first | fail | (refine wpList_load_row rfl 36 (.tmp 2) rfl w.heap.size rfl 36 cs (0, 0) _ (h2_0 _ _ _) Tryd.underlying36 rfl HS.out ?_))
  refine (HC.out _).mono ?_
  rintro e w1 ⟨rfl, b1⟩
  have G1 : Hid (w1.heap[w.heap.size + 1]? = some (.cells Z 25 (0, 0))) := Lib.hid (by rw [b1.block _ (by rw [size_al, size_al]; omega)]; exact h2_1 _ _ _)
  have B1 : Hid (Below w.heap.size w w1) := Lib.hid ((below_al2 w _ _).trans (b1.mono (by rw [size_al, size_al]; omega)))
  clear b1 HC
  go_wp2_with fail
  refine (fine_any _ _).mono ?_
  rw [hf]
  rintro e w' ⟨rfl, n', rfl⟩
  go_wp2_with (first | fail | (refine wpList_store_row rfl 25 (.tmp 4) (.tmp 20) rfl (w.heap.size + 1) Z rfl rfl 25 Z G1.out HZI.out rfl HZ1.out ?_))
  refine bodyPost_ret (v := .tuple #[.agg Z, .int .i64 1]) (results_row_tmp (fn := Tryd.f14) (p := 4) (u := 5) (ty := 25) rfl _ _ (w.heap.size + 1) 25 Z (0, 0) _ rfl (setRow_heap _ _ _ _ _ _ G1.out) Tryd.underlying25 rfl HZI.out) rfl ⟨rfl, ?_⟩
  exact below_setRow (below_drewN B1.out _) (by omega) _

set_option maxRecDepth 100000 in
set_option maxHeartbeats 800000 in
theorem specHt_no2 (s : Int) (zs : Array Value) (t : Nat) (hz : Floats zs) (h0 : shown s zs = true) (hf : fin t = true) (hl : leZ t = true) (w : World) : Calls Tryd.prog 14 #[.agg (pic s zs), .float .f32 t] w fun e w' => e = .returned (.tuple #[.agg (pic 0 zc), .int .i64 2]) ∧ Below w.heap.size w w' := by
  have hz37 := (zero_of_info info37').1
  have HS37 := Lib.hid (zero_of_info info37').2
  have HZ37 : Hid ((pic 0 zc).size = 65) := Lib.hid (pic_size 0 zc zc_size)
  have HZ1 := Lib.hid (zc_one 0)
  have hne := pic_ne
  have HS := Lib.hid (size32 s zs hz)
  have hc := shown_any s zs hz
  rw [h0] at hc
  have HC := Lib.hid hc
  have hl' : (FloatKind.f32.format.order t 0 == some .lt || FloatKind.f32.format.order t 0 == some .eq) = true := hl
  clear hl
  generalize pic s zs = cs at *
  generalize pic 0 zc = Z at *
  have HZI : Hid ((Tryd.prog.info? 25).map (·.size) = some Z.size) := Lib.hid (by rw [HZ37.out]; exact HS37.out)
  clear hz h0 hc
  go_enter Tryd.func14, Tryd.ntmps14
  go_wp2_with (first | fail | (refine wpList_load_row rfl 36 (.tmp 2) rfl w.heap.size rfl 36 cs (0, 0) _ (h2_0 _ _ _) Tryd.underlying36 rfl HS.out ?_))
  refine (HC.out _).mono ?_
  rintro e w1 ⟨rfl, b1⟩
  have G1 : Hid (w1.heap[w.heap.size + 1]? = some (.cells Z 25 (0, 0))) := Lib.hid (by rw [b1.block _ (by rw [size_al, size_al]; omega)]; exact h2_1 _ _ _)
  have B1 : Hid (Below w.heap.size w w1) := Lib.hid ((below_al2 w _ _).trans (b1.mono (by rw [size_al, size_al]; omega)))
  clear b1 HC
  go_wp2_with fail
  refine (fine_any _ _).mono ?_
  rw [hf]
  rintro e w' ⟨rfl, n', rfl⟩
  go_wp2_with (first | fail | (refine wpList_store_row rfl 25 (.tmp 4) (.tmp 24) rfl (w.heap.size + 1) Z rfl rfl 25 Z G1.out HZI.out rfl HZ1.out ?_))
  refine bodyPost_ret (v := .tuple #[.agg Z, .int .i64 2]) (results_row_tmp (fn := Tryd.f14) (p := 4) (u := 5) (ty := 25) rfl _ _ (w.heap.size + 1) 25 Z (0, 0) _ rfl (setRow_heap _ _ _ _ _ _ G1.out) Tryd.underlying25 rfl HZI.out) rfl ⟨rfl, ?_⟩
  exact below_setRow (below_drewN B1.out _) (by omega) _

def dbl (t : Nat) : Nat := (Ieee.single.mul 1073741824 t).getD 0
def okHt (s : Int) (zs : Array Value) (t : Nat) : Bool := okT s.toNat t (dbl t) (lev zs) false (s.toNat * s.toNat)
def ansHt (s : Int) (zs : Array Value) (t : Nat) : Int × Array Value × Int := if shown s zs && fin t then (if leZ t then (0, zc, 2) else if okHt s zs t then (s, gf (dot s.toNat t (dbl t) (lev zs) false) (s.toNat * s.toNat), 0) else (0, zc, 3)) else (0, zc, 1)
theorem ansHt_cells (s : Int) (zs : Array Value) (t : Nat) : Cells (ansHt s zs t).2.1 := by
  unfold ansHt
  split
  · split
    · exact zc_cells3
    · split
      · exact gf_cells _ (dot_fin _ _ _ _ _) _
      · exact zc_cells3
  · exact zc_cells3
theorem ansHt_one (s : Int) (zs : Array Value) (t : Nat) : (pic (ansHt s zs t).1 (ansHt s zs t).2.1).all (·.oneCell') = true := by
  unfold ansHt
  split
  · split
    · exact zc_one 0
    · split
      · exact gf_wav_one _ _ _
      · exact zc_one 0
  · exact zc_one 0
theorem leZ_gtz (t : Nat) (hf : fin t = true) (hl : leZ t = false) : gtz t = true := by
  obtain ⟨o, ho⟩ := ord_some t 0 hf (by decide)
  have h : ((ordF t 0 == some .lt) || (ordF t 0 == some .eq)) = false := hl
  show (ordF t 0 == some .gt) = true
  rw [ho] at h ⊢
  cases o <;> simp at h ⊢

theorem specHt_any (s : Int) (zs : Array Value) (t : Nat) (hz : Floats zs) (w : World) : Calls Tryd.prog 14 #[.agg (pic s zs), .float .f32 t] w fun e w' => e = .returned (.tuple #[.agg (pic (ansHt s zs t).1 (ansHt s zs t).2.1), .int .i64 (ansHt s zs t).2.2]) ∧ Below w.heap.size w w' := by
  cases h0 : shown s zs
  · rw [show ansHt s zs t = (0, zc, 1) by unfold ansHt; rw [h0]; rfl]
    exact specHt_no0 s zs t hz h0 w
  cases hf : fin t
  · rw [show ansHt s zs t = (0, zc, 1) by unfold ansHt; rw [h0, hf]; rfl]
    exact specHt_no1 s zs t hz h0 hf w
  cases hl : leZ t
  · obtain ⟨hs, n, rfl⟩ := shown_side s zs h0
    obtain ⟨d, _, _, hd, _⟩ := twice t hf (leZ_gtz t hf hl)
    have e : dbl t = d := by unfold dbl; rw [hd]; rfl
    refine (specHt_yes n zs t hz h0 hf hl w hs (leZ_gtz t hf hl) d hd).mono ?_
    rintro e1 w' ⟨h1, h2⟩
    refine ⟨?_, h2⟩
    unfold HtEnd at h1
    rw [h1]
    unfold ansHt okHt
    rw [h0, hf, hl, e]
    simp only [Bool.and_self, if_true, Bool.false_eq_true, if_false, Int.toNat_natCast]
    cases okT n t d (lev zs) false (n * n) <;> rfl
  · rw [show ansHt s zs t = (0, zc, 2) by unfold ansHt; rw [h0, hf, hl]; rfl]
    exact specHt_no2 s zs t hz h0 hf hl w
end Go.Proofs.YtjmfffgddmnkmabDoor
