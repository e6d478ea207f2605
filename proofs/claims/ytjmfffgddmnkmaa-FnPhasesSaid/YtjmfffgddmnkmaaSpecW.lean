/- The model's PlaneWave: the plane wave, or zeros and the code of a range. Condition: none. -/
import Derived.Test.YtjmfffgddmnkmaaSpecP
import Derived.Test.YtjmfffgddmnkmaaRes
namespace Go.Proofs.Ytjmfffgddmnkmaa
open Go Go.RowKit

/-- the cells of the plane wave of a side -/
def pw (n u v : Int) : Array Value := pic n (fill (parts n.toNat (64 / n) u v) (n * n).toNat)

theorem plane_any (n u v : Int) (hn : side n = true) (hu : within u = true) (hv : within v = true) (w : World) :
    Calls Try.prog 76 #[.int .i64 n, .int .i64 u, .int .i64 v] w fun e w' => e = .returned (.agg (pw n u v)) ∧ Below w.heap.size w w' := by
  rcases side_yes n hn with rfl | rfl | rfl | rfl
  · exact plane_one u v hu hv w
  · exact plane_two u v hu hv w
  · exact plane_four u v hu hv w
  · exact plane_eight u v hu hv w

set_option maxRecDepth 100000 in
set_option maxHeartbeats 400000 in
theorem spec_pw_no1 (n u v : Int) (hn : side n = false) (w : World) :
    Calls Try.prog 21 #[.int .i64 n, .int .i64 u, .int .i64 v] w fun e w' => e = .returned (.tuple #[.agg (pic 0 zc), .int .i64 2]) ∧ Below w.heap.size w w' := by
  have hz37 := (zero_of_info info37').1
  have HI : Hid ((Try.prog.info? 32).map (·.size) = some (pic 0 zc).size) := Lib.hid (by rw [pic_size 0 zc zc_size]; exact (zero_of_info info37').2)
  have H1 := Lib.hid (zc_one 0)
  have hne := pic_ne
  obtain ⟨Z, hZ⟩ : ∃ Z, Z = pic 0 zc := ⟨_, rfl⟩
  rw [← hZ] at hz37 HI H1 hne
  have HZ := Lib.hid hZ
  clear hZ
  go_enter Try.func21, Try.ntmps21
  go_wp2_with (first | (go_at_call 74; refine (l01Side_any _ _).mono ?_; rintro e w' ⟨rfl, rfl⟩) | (go_at_call 75; refine (l01In_any _ _).mono ?_; rintro e w' ⟨rfl, rfl⟩) | (refine wpList_store_row rfl 32 (.tmp 6) (.tmp 21) rfl w.heap.size Z rfl rfl 32 Z (h1_0 _ _) HI.out rfl H1.out ?_; rw [World.setRow_alloc_new]))
  refine bodyPost_ret (v := .tuple #[.agg Z, .int .i64 2]) (results_row_tmp (fn := Try.f21) (p := 6) (u := 7) (ty := 32) rfl _ _ w.heap.size 32 Z (0, 0) _ rfl (h1_0 _ _) Try.underlying32 rfl HI.out) rfl ⟨by rw [HZ.out], ?_⟩
  exact (Below.refl _ _).alloc (Nat.le_refl _) _

set_option maxRecDepth 100000 in
set_option maxHeartbeats 400000 in
theorem spec_pw_no2 (n u v : Int) (hn : side n = true) (hu : within u = false) (w : World) :
    Calls Try.prog 21 #[.int .i64 n, .int .i64 u, .int .i64 v] w fun e w' => e = .returned (.tuple #[.agg (pic 0 zc), .int .i64 2]) ∧ Below w.heap.size w w' := by
  have hz37 := (zero_of_info info37').1
  have HI : Hid ((Try.prog.info? 32).map (·.size) = some (pic 0 zc).size) := Lib.hid (by rw [pic_size 0 zc zc_size]; exact (zero_of_info info37').2)
  have H1 := Lib.hid (zc_one 0)
  have hne := pic_ne
  obtain ⟨Z, hZ⟩ : ∃ Z, Z = pic 0 zc := ⟨_, rfl⟩
  rw [← hZ] at hz37 HI H1 hne
  have HZ := Lib.hid hZ
  clear hZ
  go_enter Try.func21, Try.ntmps21
  go_wp2_with (first | (go_at_call 74; refine (l01Side_any _ _).mono ?_; rintro e w' ⟨rfl, rfl⟩) | (go_at_call 75; refine (l01In_any _ _).mono ?_; rintro e w' ⟨rfl, rfl⟩) | (refine wpList_store_row rfl 32 (.tmp 6) (.tmp 21) rfl w.heap.size Z rfl rfl 32 Z (h1_0 _ _) HI.out rfl H1.out ?_; rw [World.setRow_alloc_new]))
  refine bodyPost_ret (v := .tuple #[.agg Z, .int .i64 2]) (results_row_tmp (fn := Try.f21) (p := 6) (u := 7) (ty := 32) rfl _ _ w.heap.size 32 Z (0, 0) _ rfl (h1_0 _ _) Try.underlying32 rfl HI.out) rfl ⟨by rw [HZ.out], ?_⟩
  exact (Below.refl _ _).alloc (Nat.le_refl _) _

set_option maxRecDepth 100000 in
set_option maxHeartbeats 400000 in
theorem spec_pw_no3 (n u v : Int) (hn : side n = true) (hu : within u = true) (hv : within v = false) (w : World) :
    Calls Try.prog 21 #[.int .i64 n, .int .i64 u, .int .i64 v] w fun e w' => e = .returned (.tuple #[.agg (pic 0 zc), .int .i64 2]) ∧ Below w.heap.size w w' := by
  have hz37 := (zero_of_info info37').1
  have HI : Hid ((Try.prog.info? 32).map (·.size) = some (pic 0 zc).size) := Lib.hid (by rw [pic_size 0 zc zc_size]; exact (zero_of_info info37').2)
  have H1 := Lib.hid (zc_one 0)
  have hne := pic_ne
  obtain ⟨Z, hZ⟩ : ∃ Z, Z = pic 0 zc := ⟨_, rfl⟩
  rw [← hZ] at hz37 HI H1 hne
  have HZ := Lib.hid hZ
  clear hZ
  go_enter Try.func21, Try.ntmps21
  go_wp2_with (first | (go_at_call 74; refine (l01Side_any _ _).mono ?_; rintro e w' ⟨rfl, rfl⟩) | (go_at_call 75; refine (l01In_any _ _).mono ?_; rintro e w' ⟨rfl, rfl⟩) | (refine wpList_store_row rfl 32 (.tmp 6) (.tmp 21) rfl w.heap.size Z rfl rfl 32 Z (h1_0 _ _) HI.out rfl H1.out ?_; rw [World.setRow_alloc_new]))
  refine bodyPost_ret (v := .tuple #[.agg Z, .int .i64 2]) (results_row_tmp (fn := Try.f21) (p := 6) (u := 7) (ty := 32) rfl _ _ w.heap.size 32 Z (0, 0) _ rfl (h1_0 _ _) Try.underlying32 rfl HI.out) rfl ⟨by rw [HZ.out], ?_⟩
  exact (Below.refl _ _).alloc (Nat.le_refl _) _


theorem pw_size (n u v : Int) : (pw n u v).size = 65 := pic_size _ _ (fill_size _ _)
theorem pw_one (n u v : Int) : (pw n u v).all (·.oneCell') = true := fill_one _ _ _

set_option maxRecDepth 100000 in
set_option maxHeartbeats 400000 in
theorem spec_pw_yes (n u v : Int) (hn : side n = true) (hu : within u = true) (hv : within v = true) (w : World) :
    Calls Try.prog 21 #[.int .i64 n, .int .i64 u, .int .i64 v] w fun e w' => e = .returned (.tuple #[.agg (pw n u v), .int .i64 0]) ∧ Below w.heap.size w w' := by
  have hz37 := (zero_of_info info37').1
  have HP := Lib.hid (plane_any n u v hn hu hv)
  have HI : Hid ((Try.prog.info? 32).map (·.size) = some (pw n u v).size) := Lib.hid (by rw [pw_size]; exact (zero_of_info info37').2)
  have HZ : Hid ((pic 0 zc).size = (pw n u v).size) := Lib.hid (by rw [pw_size, pic_size 0 zc zc_size])
  have H1 := Lib.hid (pw_one n u v)
  obtain ⟨F, hF⟩ : ∃ F, F = pw n u v := ⟨_, rfl⟩
  rw [← hF] at HP HI HZ H1
  have HF := Lib.hid hF
  generalize pic 0 zc = Z at *
  clear hF
  go_enter Try.func21, Try.ntmps21
  go_wp2_with (first | (go_at_call 74; refine (l01Side_any _ _).mono ?_; rintro e w' ⟨rfl, rfl⟩) | (go_at_call 75; refine (l01In_any _ _).mono ?_; rintro e w' ⟨rfl, rfl⟩) | (go_at_call 76; fail))
  refine (HP.out _).mono ?_
  rintro e w1 ⟨rfl, b1⟩
  have g1 := b1.block w.heap.size (by rw [size_al]; omega)
  rw [h1_0] at g1
  have G1 := Lib.hid g1
  have B1 := Lib.hid b1
  clear g1 b1
  go_wp2_with (refine wpList_store_row rfl 32 (.tmp 6) (.tmp 25) rfl w.heap.size F rfl rfl 32 Z G1.out HI.out HZ.out H1.out ?_)
  refine bodyPost_ret (v := .tuple #[.agg F, .int .i64 0]) (results_row_tmp (fn := Try.f21) (p := 6) (u := 7) (ty := 32) rfl _ _ w.heap.size 32 F (0, 0) _ rfl (setRow_heap _ _ _ _ _ _ G1.out) Try.underlying32 rfl HI.out) rfl ⟨by rw [HF.out], ?_⟩
  exact below_setRow (((Below.refl _ _).alloc (Nat.le_refl _) _).trans (B1.out.mono (by rw [size_al]; omega))) (Nat.le_refl _) _

end Go.Proofs.Ytjmfffgddmnkmaa
