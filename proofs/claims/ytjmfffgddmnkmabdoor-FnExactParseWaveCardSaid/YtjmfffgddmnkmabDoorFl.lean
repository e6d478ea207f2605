/- The model's float of a place, and the program's. Condition: a place of a finite float32. -/
import Derived.Test.YtjmfffgddmnkmabDoorEx
import Derived.Test.YtjmfffgddmnkmabDoorProg
import Derived.Below
import Derived.Lib.Hide
import Derived.Laws.FloatArith
import Derived.WalkKit
import Derived.BigCall
import Derived.BigGuard
import Derived.Outline
namespace Go.Proofs.YtjmfffgddmnkmabDoor
open Go Go.RowKit Ieee

theorem mul2_fin : ∀ j : Fin 105, double.mul (twoW (j.val : Int)) 4611686018427387904 = some (twoW ((j.val + 1 : Nat) : Int)) := by decide +kernel
theorem div2_fin : ∀ j : Fin 150, double.div (twoW (-(j.val : Int))) 4611686018427387904 = some (twoW (-((j.val + 1 : Nat) : Int))) := by decide +kernel
theorem two0 : twoW 0 = 4607182418800017408 := by decide
theorem run_mul2 (t : TypeId) (j : Nat) (h : j < 105) (w : World) : (binOp .mul t (.float .f64 (twoW (j : Int))) (.float .f64 4611686018427387904)).run Tryd.prog w = .ok (.float .f64 (twoW ((j + 1 : Nat) : Int))) w :=
  run_float_arith w .mul t .f64 _ _ _ (mul2_fin ⟨j, h⟩)
theorem run_div2 (t : TypeId) (j : Nat) (h : j < 150) (w : World) : (binOp .quo t (.float .f64 (twoW (-(j : Int)))) (.float .f64 4611686018427387904)).run Tryd.prog w = .ok (.float .f64 (twoW (-((j + 1 : Nat) : Int)))) w :=
  run_float_arith w .quo t .f64 _ _ _ (div2_fin ⟨j, h⟩)

set_option maxRecDepth 100000 in
set_option maxHeartbeats 1000000 in
theorem two_up (k : Nat) (hk : k ≤ 104) (w : World) : Calls Tryd.prog 99 #[.int .i64 (k : Int)] w fun e w' => e = .returned (.float .f64 (twoW (k : Int))) ∧ w' = w := by
  have h0 := two0
  have HM := Lib.hid (fun (j : Nat) (h : j < 105) (w : World) => run_mul2 39 j h w)
  go_enter Tryd.func99, Tryd.ntmps99
  go_wp2
  go_loopw [0, 3] (fun vk vo wr => ∃ j : Nat, j ≤ k ∧ vk = .int .i64 ((k - j : Nat) : Int) ∧ vo = .float .f64 (twoW (j : Int)) ∧ wr = w) (fun vk _ _ => (intOf vk).toNat)
  case atStart => exact ⟨0, by omega, rfl, by rw [← h0]; rfl, rfl⟩
  case round =>
    obtain ⟨j, hj, rfl, rfl, rfl⟩ := hrel
    by_cases hlt : j < k
    · have hmul := HM.out j (by omega)
      obtain ⟨d, hd⟩ : ∃ d, k - j = d + 1 := ⟨k - j - 1, by omega⟩
      have hd2 : k - (j + 1) = d := by omega
      have HJ := Lib.hid hd2
      have HK : Hid (j + 1 ≤ k) := Lib.hid hlt
      have hpos : (0 : Int) < ((d + 1 : Nat) : Int) := by omega
      have HS : Hid (wrap64 (((d + 1 : Nat) : Int) - 1) = (d : Int)) := Lib.hid (by unfold wrap64; omega)
      have HD : Hid (((d + 1 : Nat) : Int) = (d : Int) + 1) := Lib.hid (by omega)
      rw [hd]
      clear hd hd2 h0 hj hlt
      generalize ((d + 1 : Nat) : Int) = z at *
      obtain ⟨y, hy⟩ : ∃ y, y = twoW ((j + 1 : Nat) : Int) := ⟨_, rfl⟩
      rw [← hy] at hmul
      have HY := Lib.hid hy
      clear hy
      generalize twoW (j : Int) = x at *
      go_wp2
      rw [HS.out]
      have hz := HD.out
      exact ⟨⟨j + 1, HK.out, by rw [HJ.out], by rw [HY.out], by trivial⟩, by simp only [intOf]; omega⟩
    · obtain rfl : j = k := by omega
      rw [show j - j = 0 by omega]
      go_wp2
      refine wp_loop_rounds 1 ?_
      rw [rounds_succ]
      go_wp2
      go_ret
      exact ⟨rfl, by first | exact rfl | exact True.intro⟩

set_option maxRecDepth 100000 in
set_option maxHeartbeats 1000000 in
theorem two_down (k : Nat) (hk1 : 1 ≤ k) (hk : k ≤ 149) (w : World) : Calls Tryd.prog 99 #[.int .i64 (-(k : Int))] w fun e w' => e = .returned (.float .f64 (twoW (-(k : Int)))) ∧ w' = w := by
  have h0 := two0
  have HM := Lib.hid (fun (j : Nat) (h : j < 150) (w : World) => run_div2 39 j h w)
  have hneg : ¬ (0 : Int) < -(k : Int) := by omega
  go_enter Tryd.func99, Tryd.ntmps99
  go_wp2
  refine wp_loop_rounds 1 ?_
  rw [rounds_succ]
  go_wp2
  go_loopw [0, 3] (fun vk vo wr => ∃ j : Nat, j ≤ k ∧ vk = .int .i64 (-((k - j : Nat) : Int)) ∧ vo = .float .f64 (twoW (-(j : Int))) ∧ wr = w) (fun vk _ _ => (-(intOf vk)).toNat)
  case atStart => exact ⟨0, by omega, rfl, by rw [← h0]; rfl, rfl⟩
  case round =>
    obtain ⟨j, hj, rfl, rfl, rfl⟩ := hrel
    by_cases hlt : j < k
    · have hmul := HM.out j (by omega)
      obtain ⟨d, hd⟩ : ∃ d, k - j = d + 1 := ⟨k - j - 1, by omega⟩
      have hd2 : k - (j + 1) = d := by omega
      have HJ := Lib.hid hd2
      have HK : Hid (j + 1 ≤ k) := Lib.hid hlt
      have hpos : -((d + 1 : Nat) : Int) < 0 := by omega
      have HS : Hid (wrap64 (-((d + 1 : Nat) : Int) + 1) = -(d : Int)) := Lib.hid (by unfold wrap64; omega)
      have HD : Hid (-((d + 1 : Nat) : Int) = -(d : Int) - 1) := Lib.hid (by omega)
      rw [hd]
      clear hd hd2 h0 hj hlt hneg
      generalize -((d + 1 : Nat) : Int) = z at *
      obtain ⟨y, hy⟩ : ∃ y, y = twoW (-((j + 1 : Nat) : Int)) := ⟨_, rfl⟩
      rw [← hy] at hmul
      have HY := Lib.hid hy
      clear hy
      generalize twoW (-(j : Int)) = x at *
      go_wp2
      rw [HS.out]
      have hz := HD.out
      exact ⟨⟨j + 1, HK.out, by rw [HJ.out], by rw [HY.out], by trivial⟩, by simp only [intOf]; omega⟩
    · obtain rfl : j = k := by omega
      rw [show j - j = 0 by omega]
      go_wp2
      go_ret
      exact ⟨rfl, by first | exact rfl | exact True.intro⟩

theorem two_any (k : Int) (h1 : -149 ≤ k) (h2 : k ≤ 104) (w : World) : Calls Tryd.prog 99 #[.int .i64 k] w fun e w' => e = .returned (.float .f64 (twoW k)) ∧ w' = w := by
  by_cases h : 0 ≤ k
  · obtain ⟨n, rfl⟩ : ∃ n : Nat, k = n := ⟨k.toNat, by omega⟩
    exact two_up n (by omega) w
  · obtain ⟨n, rfl⟩ : ∃ n : Nat, k = -(n : Int) := ⟨(-k).toNat, by omega⟩
    exact two_down n (by omega) (by omega) w

theorem conv_exact {M : Nat} {P : Int} (h : Fits single M P) (y a : Nat) (hy : double.read y = .number false (M * 2 ^ a) (P - a)) : floatToFloatBits .f64 y .f32 = some (rungOf single M P) := by
  have hw := to_single h y a hy
  unfold floatToFloatBits
  rw [if_neg (by decide)]
  have hd : FloatKind.f64.decode y = .number false (M * 2 ^ a) (P - a) := hy
  rw [hd]
  simp only []
  have he : FloatKind.f32.encode (.number false (M * 2 ^ a) (P - a)) = rungOf single M P := by rw [← hw, hy]; rfl
  rw [he]
  have hr : FloatKind.f32.decode (rungOf single M P) = .number false M P := read_rung h false
  rw [hr]
  rfl
theorem whole_float (p : Nat) : floatOfInt .f64 (p : Int) = double.nearest false p 0 := by
  unfold floatOfInt FloatKind.nearest
  have : decide ((p : Int) < 0) = false := by simp
  show FloatKind.f64.encode (.number (decide ((p : Int) < 0)) (p : Int).natAbs 0) = _
  rw [this]
  rfl
/-- the steps of the model's float of a place above 0 -/
theorem place_steps (p : Nat) (h0 : 0 < p) (h1 : p < 255 * 2 ^ 23) : ∃ (M : Nat) (P : Int) (y : Nat), (p < 2 ^ 23 → M = p ∧ P = -149) ∧ (2 ^ 23 ≤ p → M = p % 2 ^ 23 + 2 ^ 23 ∧ P = (p / 2 ^ 23 : Nat) - 150) ∧
    floatBits .mul .f64 (floatOfInt .f64 (M : Int)) (twoW P) = some y ∧ floatToFloatBits .f64 y .f32 = some p := by
  obtain ⟨M, P, hF, hp, a1, a2⟩ := place_float p h0 h1
  have hM : M < 2 ^ 53 := by
    by_cases h : p < 2 ^ 23
    · have := (a1 h).1; omega
    · have := (a2 (by omega)).1; omega
  have hP : -149 ≤ P ∧ P ≤ 104 := by
    by_cases h : p < 2 ^ 23
    · have := (a1 h).2; omega
    · have := (a2 (by omega)).2; omega
  obtain ⟨y, a, e1, e2⟩ := times_two M hF.pos hM P (by omega) (by omega)
  refine ⟨M, P, y, a1, a2, ?_, ?_⟩
  · rw [whole_float]; exact e1
  · rw [← hp]; exact conv_exact hF y a e2

set_option maxRecDepth 100000 in
set_option maxHeartbeats 1000000 in
theorem float_pos (p : Nat) (h1 : p < 255 * 2 ^ 23) (w : World) : Calls Tryd.prog 82 #[.int .i64 (p : Int)] w fun e w' => e = .returned (.float .f32 p) ∧ w' = w := by
  have hn : ¬ (p : Int) < 0 := by omega
  by_cases h0 : p = 0
  · subst h0
    have hf : floatOfInt .f64 0 = 0 := by decide +kernel
    have hmul : ∀ w, (binOp .mul 39 (.float .f64 0) (.float .f64 (twoW (-149)))).run Tryd.prog w = .ok (.float .f64 0) w := fun w => run_float_arith w .mul _ .f64 _ _ _ (by decide +kernel)
    have hcv : ∀ w, (convert 39 30 (.float .f64 0)).run Tryd.prog w = .ok (.float .f32 0) w := fun w => run_convert_float_float w _ _ .f64 .f32 0 0 (by kernel_rfl) Tryd.underlying30 (by decide +kernel)
    go_enter Tryd.func82, Tryd.ntmps82
    go_wp2_with (go_at_call 99; refine (two_any (-149) (by omega) (by omega) _).mono ?_; rintro e w' ⟨rfl, rfl⟩)
    go_ret
    exact ⟨rfl, by first | exact rfl | exact True.intro⟩
  · obtain ⟨M, P, y, a1, a2, e1, e2⟩ := place_steps p (by omega) h1
    have hmul : ∀ w, (binOp .mul 39 (.float .f64 (floatOfInt .f64 (M : Int))) (.float .f64 (twoW P))).run Tryd.prog w = .ok (.float .f64 y) w := fun w => run_float_arith w .mul _ .f64 _ _ _ e1
    have hcv : ∀ w, (convert 39 30 (.float .f64 y)).run Tryd.prog w = .ok (.float .f32 p) w := fun w => run_convert_float_float w _ _ .f64 .f32 y p (by kernel_rfl) Tryd.underlying30 e2
    clear e1 e2
    by_cases hs : p < 2 ^ 23
    · obtain ⟨rfl, rfl⟩ := a1 hs
      have hs' : (M : Int) < 8388608 := by omega
      clear a1 a2 hs h1
      go_enter Tryd.func82, Tryd.ntmps82
      go_wp2_with (go_at_call 99; refine (two_any (-149) (by omega) (by omega) _).mono ?_; rintro e w' ⟨rfl, rfl⟩)
      go_ret
      exact ⟨rfl, by first | exact rfl | exact True.intro⟩
    · obtain ⟨hM, hP⟩ := a2 (Nat.le_of_not_lt hs)
      have e23 : (2 : Nat) ^ 23 = 8388608 := by decide
      rw [e23] at hM hP hs h1
      obtain ⟨z, hz⟩ : ∃ z : Int, z = (p : Int) := ⟨_, rfl⟩
      obtain ⟨qi, hq⟩ : ∃ qi : Int, qi = z / 8388608 := ⟨_, rfl⟩
      obtain ⟨ri, hr⟩ : ∃ ri : Int, ri = z.tmod 8388608 := ⟨_, rfl⟩
      have hr2 : ri = z % 8388608 := by rw [hr, Int.tmod_eq_emod_of_nonneg (by omega)]
      obtain ⟨mi, hm⟩ : ∃ mi : Int, mi = (M : Int) := ⟨_, rfl⟩
      have hs' : ¬ z < 8388608 := by omega
      have hn' : ¬ z < 0 := by omega
      have hadd : wrap64 (ri + 8388608) = mi := by unfold wrap64; omega
      have hsub : wrap64 (wrap64 (qi - 127) - 23) = P := by unfold wrap64; omega
      have HT := Lib.hid (two_any P (by omega) (by omega))
      rw [← hm] at hmul
      rw [← hz]
      have hdiv := hq.symm
      have hrem := hr.symm
      clear a1 a2 hs h1 hM hP hr2 hz hm hn h0 hq hr
      go_enter Tryd.func82, Tryd.ntmps82
      go_wp2_with (go_at_call 99; refine (HT.out _).mono ?_; rintro e w' ⟨rfl, rfl⟩)
      go_ret
      exact ⟨rfl, by first | exact rfl | exact True.intro⟩

theorem frombits_run (p : Nat) (w : World) : (callFunc 77 #[.int .u32 (p : Int)]).run Tryd.prog w = .ok (.value (.float .f32 p)) w := by kernel_rfl
/-- the bits of the float of a place -/
def placeBits (v : Int) : Nat := if v < 0 then Op.negFloat .f32 v.natAbs else v.natAbs

set_option maxRecDepth 100000 in
set_option maxHeartbeats 1000000 in
theorem float_neg (p : Nat) (h0 : 0 < p) (h1 : p < 255 * 2 ^ 23) (w : World) : Calls Tryd.prog 82 #[.int .i64 (-(p : Int))] w fun e w' => e = .returned (.float .f32 (Op.negFloat .f32 p)) ∧ w' = w := by
  have HP := Lib.hid (float_pos p h1)
  have hn : (-(p : Int)) < 0 := by omega
  have hw : wrap64 (-(-(p : Int))) = (p : Int) := by unfold wrap64; omega
  have hg : ∀ w, (Op.unary .neg (.float .f32 p)).run Tryd.prog w = .ok (.float .f32 (Op.negFloat .f32 p)) w := fun w => rfl
  generalize hz : -(p : Int) = z at *
  clear hz
  go_enter Tryd.func82, Tryd.ntmps82
  go_wp2_with (go_at_call 82; refine (HP.out _).mono ?_; rintro e w' ⟨rfl, rfl⟩)
  go_ret
  exact ⟨rfl, by first | exact rfl | exact True.intro⟩
theorem float_any (v : Int) (hv : -2139095039 ≤ v ∧ v ≤ 2139095039) (w : World) : Calls Tryd.prog 82 #[.int .i64 v] w fun e w' => e = .returned (.float .f32 (placeBits v)) ∧ w' = w := by
  unfold placeBits
  by_cases h : v < 0
  · rw [if_pos h]
    have := float_neg v.natAbs (by omega) (by omega) w
    rwa [show -(v.natAbs : Int) = v by omega] at this
  · rw [if_neg h]
    have := float_pos v.natAbs (by omega) w
    rwa [show (v.natAbs : Int) = v by omega] at this

set_option maxRecDepth 100000 in
set_option maxHeartbeats 1000000 in
theorem number_any (v : Int) (hv : -2139095039 ≤ v ∧ v ≤ 2139095039) (w : World) : Calls Tryd.prog 58 #[.int .i64 v] w fun e w' => e = .returned (.float .f32 (placeBits v)) ∧ w' = w := by
  unfold placeBits
  have hf := frombits_run v.natAbs
  have hg : ∀ w, (Op.unary .neg (.float .f32 v.natAbs)).run Tryd.prog w = .ok (.float .f32 (Op.negFloat .f32 v.natAbs)) w := fun w => rfl
  by_cases h : v < 0
  · rw [if_pos h]
    have hw : IntKind.u32.wrap (wrap64 (-v)) = (v.natAbs : Int) := by rw [IntKind.wrap_u32]; unfold wrap64; omega
    clear hv
    generalize v.natAbs = p at *
    go_enter Tryd.func58, Tryd.ntmps58
    go_wp2
    go_ret
    exact ⟨rfl, by first | exact rfl | exact True.intro⟩
  · rw [if_neg h]
    have hw : IntKind.u32.wrap v = (v.natAbs : Int) := by rw [IntKind.wrap_u32]; omega
    clear hv
    generalize v.natAbs = p at *
    go_enter Tryd.func58, Tryd.ntmps58
    go_wp2
    go_ret
    exact ⟨rfl, by first | exact rfl | exact True.intro⟩
end Go.Proofs.YtjmfffgddmnkmabDoor
