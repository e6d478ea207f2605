/- The model's PlaneWave: the plane wave, or zeros and the code of a range. Condition: none. The program's rule of a cell of a plane wave, and the wave that it is built into. Condition: slopes within -64 and 64. -/
import Derived.Test.YtjmfffgddmnkmaaSpecP
import Derived.Test.YtjmfffgddmnkmaaM8
import Derived.Deep.QuietTactic
import Derived.BigQuiet
namespace Go.Proofs.Ytjmfffgddmnkmaa
open Go Go.RowKit

/-- the cells of the plane wave of a side -/
def pw (n u v : Int) : Array Value := pic n (fill (parts n.toNat (64 / n) u v) (n * n).toNat)

theorem plane_any (n u v : Int) (hn : side n = true) (hu : within u = true) (hv : within v = true) (w : World) :
    Calls Try.prog 76 #[.int .i64 n, .int .i64 u, .int .i64 v] w fun e w' => e = .returned (.agg (pw n u v)) ∧ Below w.heap.size w w' := by
  rcases side_yes n hn with rfl | rfl | rfl | rfl
  · exact plane_one u v hu hv w
  · exact plane_two u v hu hv w
  · exact plane_four u v hu hv w
  · exact plane_eight u v hu hv w

set_option maxRecDepth 100000 in
set_option maxHeartbeats 400000 in
theorem spec_pw_no1 (n u v : Int) (hn : side n = false) (w : World) :
    Calls Try.prog 21 #[.int .i64 n, .int .i64 u, .int .i64 v] w fun e w' => e = .returned (.tuple #[.agg (pic 0 zc), .int .i64 2]) ∧ Below w.heap.size w w' := by
  have hz37 := (zero_of_info info37').1
  have HI : Hid ((Try.prog.info? 32).map (·.size) = some (pic 0 zc).size) := Lib.hid (by rw [pic_size 0 zc zc_size]; exact (zero_of_info info37').2)
  have H1 := Lib.hid (zc_one 0)
  have hne := pic_ne
  obtain ⟨Z, hZ⟩ : ∃ Z, Z = pic 0 zc := ⟨_, rfl⟩
  rw [← hZ] at hz37 HI H1 hne
  have HZ := Lib.hid hZ
  clear hZ
  go_enter Try.func21, Try.ntmps21
  go_wp2_with (first | (go_at_call 74; refine (l01Side_any _ _).mono ?_; rintro e w' ⟨rfl, rfl⟩) | (go_at_call 75; refine (l01In_any _ _).mono ?_; rintro e w' ⟨rfl, rfl⟩) | (refine wpList_store_row rfl 32 (.tmp 6) (.tmp 21) rfl w.heap.size Z rfl rfl 32 Z (h1_0 _ _) HI.out rfl H1.out ?_; rw [World.setRow_alloc_new]))
  refine bodyPost_ret (v := .tuple #[.agg Z, .int .i64 2]) (results_row_tmp (fn := Try.f21) (p := 6) (u := 7) (ty := 32) rfl _ _ w.heap.size 32 Z (0, 0) _ rfl (h1_0 _ _) Try.underlying32 rfl HI.out) rfl ⟨by rw [HZ.out], ?_⟩
  exact (Below.refl _ _).alloc (Nat.le_refl _) _

set_option maxRecDepth 100000 in
set_option maxHeartbeats 400000 in
theorem spec_pw_no2 (n u v : Int) (hn : side n = true) (hu : within u = false) (w : World) :
    Calls Try.prog 21 #[.int .i64 n, .int .i64 u, .int .i64 v] w fun e w' => e = .returned (.tuple #[.agg (pic 0 zc), .int .i64 2]) ∧ Below w.heap.size w w' := by
  have hz37 := (zero_of_info info37').1
  have HI : Hid ((Try.prog.info? 32).map (·.size) = some (pic 0 zc).size) := Lib.hid (by rw [pic_size 0 zc zc_size]; exact (zero_of_info info37').2)
  have H1 := Lib.hid (zc_one 0)
  have hne := pic_ne
  obtain ⟨Z, hZ⟩ : ∃ Z, Z = pic 0 zc := ⟨_, rfl⟩
  rw [← hZ] at hz37 HI H1 hne
  have HZ := Lib.hid hZ
  clear hZ
  go_enter Try.func21, Try.ntmps21
  go_wp2_with (first | (go_at_call 74; refine (l01Side_any _ _).mono ?_; rintro e w' ⟨rfl, rfl⟩) | (go_at_call 75; refine (l01In_any _ _).mono ?_; rintro e w' ⟨rfl, rfl⟩) | (refine wpList_store_row rfl 32 (.tmp 6) (.tmp 21) rfl w.heap.size Z rfl rfl 32 Z (h1_0 _ _) HI.out rfl H1.out ?_; rw [World.setRow_alloc_new]))
  refine bodyPost_ret (v := .tuple #[.agg Z, .int .i64 2]) (results_row_tmp (fn := Try.f21) (p := 6) (u := 7) (ty := 32) rfl _ _ w.heap.size 32 Z (0, 0) _ rfl (h1_0 _ _) Try.underlying32 rfl HI.out) rfl ⟨by rw [HZ.out], ?_⟩
  exact (Below.refl _ _).alloc (Nat.le_refl _) _

set_option maxRecDepth 100000 in
set_option maxHeartbeats 400000 in
theorem spec_pw_no3 (n u v : Int) (hn : side n = true) (hu : within u = true) (hv : within v = false) (w : World) :
    Calls Try.prog 21 #[.int .i64 n, .int .i64 u, .int .i64 v] w fun e w' => e = .returned (.tuple #[.agg (pic 0 zc), .int .i64 2]) ∧ Below w.heap.size w w' := by
  have hz37 := (zero_of_info info37').1
  have HI : Hid ((Try.prog.info? 32).map (·.size) = some (pic 0 zc).size) := Lib.hid (by rw [pic_size 0 zc zc_size]; exact (zero_of_info info37').2)
  have H1 := Lib.hid (zc_one 0)
  have hne := pic_ne
  obtain ⟨Z, hZ⟩ : ∃ Z, Z = pic 0 zc := ⟨_, rfl⟩
  rw [← hZ] at hz37 HI H1 hne
  have HZ := Lib.hid hZ
  clear hZ
  go_enter Try.func21, Try.ntmps21
  go_wp2_with (first | (go_at_call 74; refine (l01Side_any _ _).mono ?_; rintro e w' ⟨rfl, rfl⟩) | (go_at_call 75; refine (l01In_any _ _).mono ?_; rintro e w' ⟨rfl, rfl⟩) | (refine wpList_store_row rfl 32 (.tmp 6) (.tmp 21) rfl w.heap.size Z rfl rfl 32 Z (h1_0 _ _) HI.out rfl H1.out ?_; rw [World.setRow_alloc_new]))
  refine bodyPost_ret (v := .tuple #[.agg Z, .int .i64 2]) (results_row_tmp (fn := Try.f21) (p := 6) (u := 7) (ty := 32) rfl _ _ w.heap.size 32 Z (0, 0) _ rfl (h1_0 _ _) Try.underlying32 rfl HI.out) rfl ⟨by rw [HZ.out], ?_⟩
  exact (Below.refl _ _).alloc (Nat.le_refl _) _


theorem pw_size (n u v : Int) : (pw n u v).size = 65 := pic_size _ _ (fill_size _ _)
theorem pw_one (n u v : Int) : (pw n u v).all (·.oneCell') = true := fill_one _ _ _

set_option maxRecDepth 100000 in
set_option maxHeartbeats 400000 in
theorem spec_pw_yes (n u v : Int) (hn : side n = true) (hu : within u = true) (hv : within v = true) (w : World) :
    Calls Try.prog 21 #[.int .i64 n, .int .i64 u, .int .i64 v] w fun e w' => e = .returned (.tuple #[.agg (pw n u v), .int .i64 0]) ∧ Below w.heap.size w w' := by
  have hz37 := (zero_of_info info37').1
  have HP := Lib.hid (plane_any n u v hn hu hv)
  have HI : Hid ((Try.prog.info? 32).map (·.size) = some (pw n u v).size) := Lib.hid (by rw [pw_size]; exact (zero_of_info info37').2)
  have HZ : Hid ((pic 0 zc).size = (pw n u v).size) := Lib.hid (by rw [pw_size, pic_size 0 zc zc_size])
  have H1 := Lib.hid (pw_one n u v)
  obtain ⟨F, hF⟩ : ∃ F, F = pw n u v := ⟨_, rfl⟩
  rw [← hF] at HP HI HZ H1
  have HF := Lib.hid hF
  generalize pic 0 zc = Z at *
  clear hF
  go_enter Try.func21, Try.ntmps21
  go_wp2_with (first | (go_at_call 74; refine (l01Side_any _ _).mono ?_; rintro e w' ⟨rfl, rfl⟩) | (go_at_call 75; refine (l01In_any _ _).mono ?_; rintro e w' ⟨rfl, rfl⟩) | (go_at_call 76; fail))
  refine (HP.out _).mono ?_
  rintro e w1 ⟨rfl, b1⟩
  have g1 := b1.block w.heap.size (by rw [size_al]; omega)
  rw [h1_0] at g1
  have G1 := Lib.hid g1
  have B1 := Lib.hid b1
  clear g1 b1
  go_wp2_with (refine wpList_store_row rfl 32 (.tmp 6) (.tmp 25) rfl w.heap.size F rfl rfl 32 Z G1.out HI.out HZ.out H1.out ?_)
  refine bodyPost_ret (v := .tuple #[.agg F, .int .i64 0]) (results_row_tmp (fn := Try.f21) (p := 6) (u := 7) (ty := 32) rfl _ _ w.heap.size 32 F (0, 0) _ rfl (setRow_heap _ _ _ _ _ _ G1.out) Try.underlying32 rfl HI.out) rfl ⟨by rw [HF.out], ?_⟩
  exact below_setRow (((Below.refl _ _).alloc (Nat.le_refl _) _).trans (B1.out.mono (by rw [size_al]; omega))) (Nat.le_refl _) _

end Go.Proofs.Ytjmfffgddmnkmaa

namespace Go.Proofs.Ytjmfffgddmnkmaa
open Go Go.RowKit

set_option maxRecDepth 100000 in
set_option maxHeartbeats 400000 in
theorem rule_two (u v : Int) (y x : Nat) (hu : within u = true) (hv : within v = true) (hy : y < 8) (hx : x < 8) (pu pv pn : Addr) (w : World)
    (cu : w.cell? pu = some (.int .i64 u)) (cv : w.cell? pv = some (.int .i64 v)) (cn : w.cell? pn = some (.int .i64 2)) :
    Calls Try.prog 73 #[.int .i64 y, .int .i64 x, .pointer (some pu), .pointer (some pv), .pointer (some pn)] w fun e w' =>
      e = .returned (.complex .f32 (tre (idx 32 u v y x)) (tim (idx 32 u v y x))) ∧ ∃ m, w' = w.drewN m := by
  obtain ⟨mu1, mu2⟩ := small_mul u x hu hx
  obtain ⟨mv1, mv2⟩ := small_mul v y hv hy
  have e1 : IntKind.i64.wrap (u * (x : Int)) = u * x := IntWalk.i64_in _ (by omega)
  have e2 : IntKind.i64.wrap (v * (y : Int)) = v * y := IntWalk.i64_in _ (by omega)
  have e3 : IntKind.i64.wrap (u * (x : Int) + v * (y : Int)) = u * x + v * y := IntWalk.i64_in _ (by omega)
  have e4 : IntKind.i64.wrap ((u * (x : Int) + v * (y : Int)) * 32) = (u * x + v * y) * 32 := IntWalk.i64_in _ (by omega)
  have HI : Hid (idx 32 u v y x = (((u * x + v * y) * 32) % 64).toNat) := Lib.hid rfl
  have HP := Lib.hid (impl_phase ((u * x + v * y) * 32))
  rw [← HI.out] at HP
  generalize idx 32 u v y x = i at *
  clear hu hv hy hx
  go_enter Try.func73, Try.ntmps73
  go_wp2_with fail
  go_quiet ((go_at_call 17; exact Calls.quiet_of_same ((HP.out _).mono fun e w' h => ⟨h.1, h.2.symm⟩)))
  go_wp2
  go_ret
  exact ⟨rfl, _, rfl⟩

set_option maxRecDepth 100000 in
set_option maxHeartbeats 400000 in
theorem rule_one (u v : Int) (y x : Nat) (hu : within u = true) (hv : within v = true) (hy : y < 8) (hx : x < 8) (pu pv pn : Addr) (w : World)
    (cu : w.cell? pu = some (.int .i64 u)) (cv : w.cell? pv = some (.int .i64 v)) (cn : w.cell? pn = some (.int .i64 1)) :
    Calls Try.prog 73 #[.int .i64 y, .int .i64 x, .pointer (some pu), .pointer (some pv), .pointer (some pn)] w fun e w' =>
      e = .returned (.complex .f32 (tre (idx 64 u v y x)) (tim (idx 64 u v y x))) ∧ ∃ m, w' = w.drewN m := by
  obtain ⟨mu1, mu2⟩ := small_mul u x hu hx
  obtain ⟨mv1, mv2⟩ := small_mul v y hv hy
  have e1 : IntKind.i64.wrap (u * (x : Int)) = u * x := IntWalk.i64_in _ (by omega)
  have e2 : IntKind.i64.wrap (v * (y : Int)) = v * y := IntWalk.i64_in _ (by omega)
  have e3 : IntKind.i64.wrap (u * (x : Int) + v * (y : Int)) = u * x + v * y := IntWalk.i64_in _ (by omega)
  have e4 : IntKind.i64.wrap ((u * (x : Int) + v * (y : Int)) * 64) = (u * x + v * y) * 64 := IntWalk.i64_in _ (by omega)
  have HI : Hid (idx 64 u v y x = (((u * x + v * y) * 64) % 64).toNat) := Lib.hid rfl
  have HP := Lib.hid (impl_phase ((u * x + v * y) * 64))
  rw [← HI.out] at HP
  generalize idx 64 u v y x = i at *
  clear hu hv hy hx
  go_enter Try.func73, Try.ntmps73
  go_wp2_with fail
  go_quiet ((go_at_call 17; exact Calls.quiet_of_same ((HP.out _).mono fun e w' h => ⟨h.1, h.2.symm⟩)))
  go_wp2
  go_ret
  exact ⟨rfl, _, rfl⟩

set_option maxRecDepth 100000 in
set_option maxHeartbeats 400000 in
theorem rule_four (u v : Int) (y x : Nat) (hu : within u = true) (hv : within v = true) (hy : y < 8) (hx : x < 8) (pu pv pn : Addr) (w : World)
    (cu : w.cell? pu = some (.int .i64 u)) (cv : w.cell? pv = some (.int .i64 v)) (cn : w.cell? pn = some (.int .i64 4)) :
    Calls Try.prog 73 #[.int .i64 y, .int .i64 x, .pointer (some pu), .pointer (some pv), .pointer (some pn)] w fun e w' =>
      e = .returned (.complex .f32 (tre (idx 16 u v y x)) (tim (idx 16 u v y x))) ∧ ∃ m, w' = w.drewN m := by
  obtain ⟨mu1, mu2⟩ := small_mul u x hu hx
  obtain ⟨mv1, mv2⟩ := small_mul v y hv hy
  have e1 : IntKind.i64.wrap (u * (x : Int)) = u * x := IntWalk.i64_in _ (by omega)
  have e2 : IntKind.i64.wrap (v * (y : Int)) = v * y := IntWalk.i64_in _ (by omega)
  have e3 : IntKind.i64.wrap (u * (x : Int) + v * (y : Int)) = u * x + v * y := IntWalk.i64_in _ (by omega)
  have e4 : IntKind.i64.wrap ((u * (x : Int) + v * (y : Int)) * 16) = (u * x + v * y) * 16 := IntWalk.i64_in _ (by omega)
  have HI : Hid (idx 16 u v y x = (((u * x + v * y) * 16) % 64).toNat) := Lib.hid rfl
  have HP := Lib.hid (impl_phase ((u * x + v * y) * 16))
  rw [← HI.out] at HP
  generalize idx 16 u v y x = i at *
  clear hu hv hy hx
  go_enter Try.func73, Try.ntmps73
  go_wp2_with fail
  go_quiet ((go_at_call 17; exact Calls.quiet_of_same ((HP.out _).mono fun e w' h => ⟨h.1, h.2.symm⟩)))
  go_wp2
  go_ret
  exact ⟨rfl, _, rfl⟩

set_option maxRecDepth 100000 in
set_option maxHeartbeats 400000 in
theorem rule_eight (u v : Int) (y x : Nat) (hu : within u = true) (hv : within v = true) (hy : y < 8) (hx : x < 8) (pu pv pn : Addr) (w : World)
    (cu : w.cell? pu = some (.int .i64 u)) (cv : w.cell? pv = some (.int .i64 v)) (cn : w.cell? pn = some (.int .i64 8)) :
    Calls Try.prog 73 #[.int .i64 y, .int .i64 x, .pointer (some pu), .pointer (some pv), .pointer (some pn)] w fun e w' =>
      e = .returned (.complex .f32 (tre (idx 8 u v y x)) (tim (idx 8 u v y x))) ∧ ∃ m, w' = w.drewN m := by
  obtain ⟨mu1, mu2⟩ := small_mul u x hu hx
  obtain ⟨mv1, mv2⟩ := small_mul v y hv hy
  have e1 : IntKind.i64.wrap (u * (x : Int)) = u * x := IntWalk.i64_in _ (by omega)
  have e2 : IntKind.i64.wrap (v * (y : Int)) = v * y := IntWalk.i64_in _ (by omega)
  have e3 : IntKind.i64.wrap (u * (x : Int) + v * (y : Int)) = u * x + v * y := IntWalk.i64_in _ (by omega)
  have e4 : IntKind.i64.wrap ((u * (x : Int) + v * (y : Int)) * 8) = (u * x + v * y) * 8 := IntWalk.i64_in _ (by omega)
  have HI : Hid (idx 8 u v y x = (((u * x + v * y) * 8) % 64).toNat) := Lib.hid rfl
  have HP := Lib.hid (impl_phase ((u * x + v * y) * 8))
  rw [← HI.out] at HP
  generalize idx 8 u v y x = i at *
  clear hu hv hy hx
  go_enter Try.func73, Try.ntmps73
  go_wp2_with fail
  go_quiet ((go_at_call 17; exact Calls.quiet_of_same ((HP.out _).mono fun e w' h => ⟨h.1, h.2.symm⟩)))
  go_wp2
  go_ret
  exact ⟨rfl, _, rfl⟩

end Go.Proofs.Ytjmfffgddmnkmaa
