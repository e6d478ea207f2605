/- The program's rule of a cell of a plane wave, and the wave that it is built into. Condition: slopes within -64 and 64. -/
import Derived.Test.YtjmfffgddmnkmabSpecW
import Derived.Deep.QuietTactic
import Derived.BigQuiet
namespace Go.Proofs.Ytjmfffgddmnkmab
open Go Go.RowKit

set_option maxRecDepth 100000 in
set_option maxHeartbeats 400000 in
theorem rule_two (u v : Int) (y x : Nat) (hu : within u = true) (hv : within v = true) (hy : y < 8) (hx : x < 8) (pu pv pn : Addr) (w : World)
    (cu : w.cell? pu = some (.int .i64 u)) (cv : w.cell? pv = some (.int .i64 v)) (cn : w.cell? pn = some (.int .i64 2)) :
    Calls Try.prog 134 #[.int .i64 y, .int .i64 x, .pointer (some pu), .pointer (some pv), .pointer (some pn)] w fun e w' =>
      e = .returned (.complex .f32 (tre (idx 32 u v y x)) (tim (idx 32 u v y x))) ∧ ∃ m, w' = w.drewN m := by
  obtain ⟨mu1, mu2⟩ := small_mul u x hu hx
  obtain ⟨mv1, mv2⟩ := small_mul v y hv hy
  have e1 : IntKind.i64.wrap (u * (x : Int)) = u * x := IntWalk.i64_in _ (by omega)
  have e2 : IntKind.i64.wrap (v * (y : Int)) = v * y := IntWalk.i64_in _ (by omega)
  have e3 : IntKind.i64.wrap (u * (x : Int) + v * (y : Int)) = u * x + v * y := IntWalk.i64_in _ (by omega)
  have e4 : IntKind.i64.wrap ((u * (x : Int) + v * (y : Int)) * 32) = (u * x + v * y) * 32 := IntWalk.i64_in _ (by omega)
  have HI : Hid (idx 32 u v y x = (((u * x + v * y) * 32) % 64).toNat) := Lib.hid rfl
  have HP := Lib.hid (impl_phase ((u * x + v * y) * 32))
  rw [← HI.out] at HP
  generalize idx 32 u v y x = i at *
  clear hu hv hy hx
  go_enter Try.func134, Try.ntmps134
  go_wp2_with fail
  go_quiet ((go_at_call 95; exact Calls.quiet_of_same ((HP.out _).mono fun e w' h => ⟨h.1, h.2.symm⟩)))
  go_wp2
  go_ret
  exact ⟨rfl, _, rfl⟩

set_option maxRecDepth 100000 in
set_option maxHeartbeats 400000 in
theorem rule_one (u v : Int) (y x : Nat) (hu : within u = true) (hv : within v = true) (hy : y < 8) (hx : x < 8) (pu pv pn : Addr) (w : World)
    (cu : w.cell? pu = some (.int .i64 u)) (cv : w.cell? pv = some (.int .i64 v)) (cn : w.cell? pn = some (.int .i64 1)) :
    Calls Try.prog 134 #[.int .i64 y, .int .i64 x, .pointer (some pu), .pointer (some pv), .pointer (some pn)] w fun e w' =>
      e = .returned (.complex .f32 (tre (idx 64 u v y x)) (tim (idx 64 u v y x))) ∧ ∃ m, w' = w.drewN m := by
  obtain ⟨mu1, mu2⟩ := small_mul u x hu hx
  obtain ⟨mv1, mv2⟩ := small_mul v y hv hy
  have e1 : IntKind.i64.wrap (u * (x : Int)) = u * x := IntWalk.i64_in _ (by omega)
  have e2 : IntKind.i64.wrap (v * (y : Int)) = v * y := IntWalk.i64_in _ (by omega)
  have e3 : IntKind.i64.wrap (u * (x : Int) + v * (y : Int)) = u * x + v * y := IntWalk.i64_in _ (by omega)
  have e4 : IntKind.i64.wrap ((u * (x : Int) + v * (y : Int)) * 64) = (u * x + v * y) * 64 := IntWalk.i64_in _ (by omega)
  have HI : Hid (idx 64 u v y x = (((u * x + v * y) * 64) % 64).toNat) := Lib.hid rfl
  have HP := Lib.hid (impl_phase ((u * x + v * y) * 64))
  rw [← HI.out] at HP
  generalize idx 64 u v y x = i at *
  clear hu hv hy hx
  go_enter Try.func134, Try.ntmps134
  go_wp2_with fail
  go_quiet ((go_at_call 95; exact Calls.quiet_of_same ((HP.out _).mono fun e w' h => ⟨h.1, h.2.symm⟩)))
  go_wp2
  go_ret
  exact ⟨rfl, _, rfl⟩

set_option maxRecDepth 100000 in
set_option maxHeartbeats 400000 in
theorem rule_four (u v : Int) (y x : Nat) (hu : within u = true) (hv : within v = true) (hy : y < 8) (hx : x < 8) (pu pv pn : Addr) (w : World)
    (cu : w.cell? pu = some (.int .i64 u)) (cv : w.cell? pv = some (.int .i64 v)) (cn : w.cell? pn = some (.int .i64 4)) :
    Calls Try.prog 134 #[.int .i64 y, .int .i64 x, .pointer (some pu), .pointer (some pv), .pointer (some pn)] w fun e w' =>
      e = .returned (.complex .f32 (tre (idx 16 u v y x)) (tim (idx 16 u v y x))) ∧ ∃ m, w' = w.drewN m := by
  obtain ⟨mu1, mu2⟩ := small_mul u x hu hx
  obtain ⟨mv1, mv2⟩ := small_mul v y hv hy
  have e1 : IntKind.i64.wrap (u * (x : Int)) = u * x := IntWalk.i64_in _ (by omega)
  have e2 : IntKind.i64.wrap (v * (y : Int)) = v * y := IntWalk.i64_in _ (by omega)
  have e3 : IntKind.i64.wrap (u * (x : Int) + v * (y : Int)) = u * x + v * y := IntWalk.i64_in _ (by omega)
  have e4 : IntKind.i64.wrap ((u * (x : Int) + v * (y : Int)) * 16) = (u * x + v * y) * 16 := IntWalk.i64_in _ (by omega)
  have HI : Hid (idx 16 u v y x = (((u * x + v * y) * 16) % 64).toNat) := Lib.hid rfl
  have HP := Lib.hid (impl_phase ((u * x + v * y) * 16))
  rw [← HI.out] at HP
  generalize idx 16 u v y x = i at *
  clear hu hv hy hx
  go_enter Try.func134, Try.ntmps134
  go_wp2_with fail
  go_quiet ((go_at_call 95; exact Calls.quiet_of_same ((HP.out _).mono fun e w' h => ⟨h.1, h.2.symm⟩)))
  go_wp2
  go_ret
  exact ⟨rfl, _, rfl⟩

set_option maxRecDepth 100000 in
set_option maxHeartbeats 400000 in
theorem rule_eight (u v : Int) (y x : Nat) (hu : within u = true) (hv : within v = true) (hy : y < 8) (hx : x < 8) (pu pv pn : Addr) (w : World)
    (cu : w.cell? pu = some (.int .i64 u)) (cv : w.cell? pv = some (.int .i64 v)) (cn : w.cell? pn = some (.int .i64 8)) :
    Calls Try.prog 134 #[.int .i64 y, .int .i64 x, .pointer (some pu), .pointer (some pv), .pointer (some pn)] w fun e w' =>
      e = .returned (.complex .f32 (tre (idx 8 u v y x)) (tim (idx 8 u v y x))) ∧ ∃ m, w' = w.drewN m := by
  obtain ⟨mu1, mu2⟩ := small_mul u x hu hx
  obtain ⟨mv1, mv2⟩ := small_mul v y hv hy
  have e1 : IntKind.i64.wrap (u * (x : Int)) = u * x := IntWalk.i64_in _ (by omega)
  have e2 : IntKind.i64.wrap (v * (y : Int)) = v * y := IntWalk.i64_in _ (by omega)
  have e3 : IntKind.i64.wrap (u * (x : Int) + v * (y : Int)) = u * x + v * y := IntWalk.i64_in _ (by omega)
  have e4 : IntKind.i64.wrap ((u * (x : Int) + v * (y : Int)) * 8) = (u * x + v * y) * 8 := IntWalk.i64_in _ (by omega)
  have HI : Hid (idx 8 u v y x = (((u * x + v * y) * 8) % 64).toNat) := Lib.hid rfl
  have HP := Lib.hid (impl_phase ((u * x + v * y) * 8))
  rw [← HI.out] at HP
  generalize idx 8 u v y x = i at *
  clear hu hv hy hx
  go_enter Try.func134, Try.ntmps134
  go_wp2_with fail
  go_quiet ((go_at_call 95; exact Calls.quiet_of_same ((HP.out _).mono fun e w' h => ⟨h.1, h.2.symm⟩)))
  go_wp2
  go_ret
  exact ⟨rfl, _, rfl⟩

end Go.Proofs.Ytjmfffgddmnkmab
