/- The five rules of open cells, as the program has them. Condition: rows and columns within a side; a period and a size that are not 0. -/
import Derived.Test.YtjmfffgddmnkmaaIA
import Derived.Deep.QuietTactic
import Derived.BigQuiet
namespace Go.Proofs.Ytjmfffgddmnkmaa
open Go Go.RowKit

set_option maxRecDepth 100000 in
set_option maxHeartbeats 400000 in
theorem isInSlit_any (y x : Nat) (a d : Int) (_ : y < 8) (_ : x < 8) (ha : 0 ≤ a ∧ a ≤ 8) (hd : 0 ≤ d ∧ d ≤ 8) (w : World) :
    Calls Try.prog 131 #[.agg #[.int .i64 0, .int .i64 0, .int .i64 a, .int .i64 0, .int .i64 d], .int .i64 y, .int .i64 x] w fun e w' => e = .returned (.bool (decide (a ≤ (x : Int)) && decide ((x : Int) < a + d))) ∧ Below w.heap.size w w' := by
  have e1 : IntKind.i64.wrap (a + d) = a + d := IntWalk.i64_in _ (by omega)
  by_cases h1 : a ≤ (x : Int)
  · have h1' : decide ((x : Int) ≥ a) = true := by simp; omega
    have h1'' : decide (a ≤ (x : Int)) = true := by simp; omega
    rw [h1'', Bool.true_and]
    go_enter Try.func131, Try.ntmps131
    go_wp2
    go_ret
    exact ⟨rfl, (Below.refl _ _).alloc (Nat.le_refl _) _⟩
  · have h1' : decide ((x : Int) ≥ a) = false := by simp; omega
    have h1'' : decide (a ≤ (x : Int)) = false := by simp; omega
    rw [h1'', Bool.false_and]
    go_enter Try.func131, Try.ntmps131
    go_wp2
    go_ret
    exact ⟨rfl, (Below.refl _ _).alloc (Nat.le_refl _) _⟩

set_option maxRecDepth 100000 in
set_option maxHeartbeats 400000 in
theorem isInDisc_any (y x : Nat) (v u r : Int) (hy : y < 8) (hx : x < 8) (hv : 0 ≤ v ∧ v ≤ 14) (hu : 0 ≤ u ∧ u ≤ 14) (w : World) :
    Calls Try.prog 132 #[.agg #[.int .i64 v, .int .i64 u, .int .i64 0, .int .i64 0, .int .i64 r], .int .i64 y, .int .i64 x] w fun e w' => e = .returned (.bool (decide (dist y x v u ≤ r))) ∧ Below w.heap.size w w' := by
  have HD := Lib.hid (distanceFrom_any y x v u hy hx hv hu)
  go_enter Try.func132, Try.ntmps132
  go_wp2_with fail
  go_quiet ((go_at_call 103; exact Calls.quiet_of_same ((HD.out _).mono fun e w' h => ⟨h.1, h.2.symm⟩)))
  go_wp2
  go_ret
  exact ⟨rfl, below_drewN ((Below.refl _ _).alloc (Nat.le_refl _) _) _⟩

set_option maxRecDepth 100000 in
set_option maxHeartbeats 400000 in
theorem isInGrating_any (y x : Nat) (p q : Int) (_ : y < 8) (hx : x < 8) (hp : 1 ≤ p ∧ p ≤ 8) (w : World) :
    Calls Try.prog 133 #[.agg #[.int .i64 0, .int .i64 0, .int .i64 0, .int .i64 p, .int .i64 q], .int .i64 y, .int .i64 x] w fun e w' => e = .returned (.bool (decide ((x : Int) % p < q))) ∧ Below w.heap.size w w' := by
  have hp0 : p ≠ 0 := by omega
  have hp00 : (p == 0) = false := by simp; omega
  have hm : (x : Int).tmod p = (x : Int) % p := Int.tmod_eq_emod_of_nonneg (by omega)
  have hb0 : 0 ≤ (x : Int) % p := Int.emod_nonneg _ hp0
  have hb1 : (x : Int) % p < p := Int.emod_lt_of_pos _ (by omega)
  generalize (x : Int) % p = m at *
  have hw : IntKind.i64.wrap m = m := IntWalk.i64_in _ (by omega)
  go_enter Try.func133, Try.ntmps133
  go_wp2_with fail
  go_quiet (fail)
  go_wp2
  go_ret
  exact ⟨rfl, below_drewN ((Below.refl _ _).alloc (Nat.le_refl _) _) _⟩

set_option maxRecDepth 100000 in
set_option maxHeartbeats 400000 in
theorem isInCheck_any (y x : Nat) (p : Int) (hy : y < 8) (hx : x < 8) (hp : 1 ≤ p) (w : World) :
    Calls Try.prog 134 #[.agg #[.int .i64 0, .int .i64 0, .int .i64 0, .int .i64 p, .int .i64 0], .int .i64 y, .int .i64 x] w fun e w' => e = .returned (.bool (((y : Int) / p + (x : Int) / p) % 2 == 0)) ∧ Below w.heap.size w w' := by
  have ha0 : 0 ≤ (y : Int) / p := Int.ediv_nonneg (by omega) (by omega)
  have ha1 : (y : Int) / p ≤ y := Int.ediv_le_self _ (by omega)
  have hb0 : 0 ≤ (x : Int) / p := Int.ediv_nonneg (by omega) (by omega)
  have hb1 : (x : Int) / p ≤ x := Int.ediv_le_self _ (by omega)
  have ha : (y : Int).tdiv p = (y : Int) / p := Int.tdiv_eq_ediv_of_nonneg (by omega)
  have hb' : (x : Int).tdiv p = (x : Int) / p := Int.tdiv_eq_ediv_of_nonneg (by omega)
  generalize (y : Int) / p = a at *
  generalize (x : Int) / p = b at *
  have hwa : IntKind.i64.wrap a = a := IntWalk.i64_in _ (by omega)
  have hwb : IntKind.i64.wrap b = b := IntWalk.i64_in _ (by omega)
  have hwab : IntKind.i64.wrap (a + b) = a + b := IntWalk.i64_in _ (by omega)
  have hm : (a + b).tmod 2 = (a + b) % 2 := Int.tmod_eq_emod_of_nonneg (by omega)
  have hp0 : p ≠ 0 := by omega
  have hp00 : (p == 0) = false := by simp; omega
  go_enter Try.func134, Try.ntmps134
  go_wp2_with fail
  go_quiet (fail)
  go_wp2
  go_ret
  exact ⟨rfl, below_drewN ((Below.refl _ _).alloc (Nat.le_refl _) _) _⟩

set_option maxRecDepth 100000 in
set_option maxHeartbeats 400000 in
theorem isInZones_any (y x : Nat) (v u q : Int) (hy : y < 8) (hx : x < 8) (hv : 0 ≤ v ∧ v ≤ 14) (hu : 0 ≤ u ∧ u ≤ 14) (hq : 1 ≤ q) (w : World) :
    Calls Try.prog 135 #[.agg #[.int .i64 v, .int .i64 u, .int .i64 0, .int .i64 0, .int .i64 q], .int .i64 y, .int .i64 x] w fun e w' => e = .returned (.bool (dist y x v u / q % 2 == 0)) ∧ Below w.heap.size w w' := by
  have HD := Lib.hid (distanceFrom_any y x v u hy hx hv hu)
  have hd := dist_small y x v u hy hx hv hu
  generalize dist y x v u = t at *
  have ha0 : 0 ≤ t / q := Int.ediv_nonneg (by omega) (by omega)
  have ha1 : t / q ≤ t := Int.ediv_le_self _ (by omega)
  have ha : t.tdiv q = t / q := Int.tdiv_eq_ediv_of_nonneg (by omega)
  have hm : (t / q).tmod 2 = (t / q) % 2 := Int.tmod_eq_emod_of_nonneg (by omega)
  generalize t / q = a at *
  have hwa : IntKind.i64.wrap a = a := IntWalk.i64_in _ (by omega)
  have hp0 : q ≠ 0 := by omega
  have hp00 : (q == 0) = false := by simp; omega
  go_enter Try.func135, Try.ntmps135
  go_wp2_with fail
  go_quiet ((go_at_call 103; exact Calls.quiet_of_same ((HD.out _).mono fun e w' h => ⟨h.1, h.2.symm⟩)))
  go_wp2
  go_ret
  exact ⟨rfl, below_drewN ((Below.refl _ _).alloc (Nat.le_refl _) _) _⟩
end Go.Proofs.Ytjmfffgddmnkmaa
