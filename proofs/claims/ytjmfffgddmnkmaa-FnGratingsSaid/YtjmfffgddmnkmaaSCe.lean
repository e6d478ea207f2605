/- The model's cell of a wave. Condition: 64 complex numbers. -/
import Derived.Test.YtjmfffgddmnkmaaIs
import Derived.Test.YtjmfffgddmnkmaaM9
namespace Go.Proofs.Ytjmfffgddmnkmaa
open Go Go.RowKit

/-- the answer that is asked for a cell -/
def cellAns (s : Int) (D : Array Value) (y x : Int) : Value :=
  if isWav s D then
    if inside y 0 (s - 1) && inside x 0 (s - 1) then .tuple #[.complex .f32 (reAt D (s * y + x).toNat) (imAt D (s * y + x).toNat), .int .i64 0]
    else .tuple #[.complex .f32 0 0, .int .i64 2]
  else .tuple #[.complex .f32 0 0, .int .i64 1]

set_option maxRecDepth 100000 in
set_option maxHeartbeats 800000 in
theorem specCell_no (s : Int) (D : Array Value) (hD : Wav s D) (hw : isWav s D = false) (y x : Int) (w : World) :
    Calls Try.prog 30 #[.agg D, .int .i64 y, .int .i64 x] w fun e w' => e = .returned (.tuple #[.complex .f32 0 0, .int .i64 1]) ∧ Below w.heap.size w w' := by
  have h0 := hD.2.1
  have HDI : Hid ((Try.prog.info? 32).map (·.size) = some D.size) := Lib.hid (by rw [hD.1]; exact (zero_of_info info37').2)
  have HIS := Lib.hid (specIs_any s D hD)
  rw [hw] at HIS
  clear hD
  go_enter Try.func30, Try.ntmps30
  go_wp2_with (first | (refine wpList_load_row rfl 32 (.tmp 3) rfl w.heap.size rfl 32 D (0, 0) _ (h1_0 _ _) Try.underlying32 rfl HDI.out ?_) | (go_at_call 85; fail))
  refine (HIS.out _).mono ?_
  rintro e w1 ⟨rfl, b1⟩
  have g1 : w1.heap[w.heap.size]? = some (.cells D 32 (0, 0)) := by rw [b1.block _ (by rw [size_al]; omega)]; exact h1_0 _ _
  have B1 := Lib.hid (((Below.refl w.heap.size w).alloc (Nat.le_refl _) (.cells D 32)).trans (b1.mono (by rw [size_al]; omega)))
  have c0 : w1.cell? ⟨w.heap.size, 0, none⟩ = some (.int .i64 s) := by rw [cell_of_row _ _ _ _ _ _ g1]; exact h0
  have G1 := Lib.hid g1
  clear b1 g1
  go_wp2_with fail
  go_ret2
  exact ⟨rfl, B1.out⟩

set_option maxRecDepth 100000 in
set_option maxHeartbeats 800000 in
theorem specCell_y (s : Int) (D : Array Value) (hD : Wav s D) (hw : isWav s D = true) (hw1 : IntKind.i64.wrap (s - 1) = s - 1) (y x : Int) (hy : inside y 0 (s - 1) = false) (w : World) :
    Calls Try.prog 30 #[.agg D, .int .i64 y, .int .i64 x] w fun e w' => e = .returned (.tuple #[.complex .f32 0 0, .int .i64 2]) ∧ Below w.heap.size w w' := by
  have HY := Lib.hid (fun w => l01In_gen y 0 (s - 1) w)
  rw [hy] at HY
  clear hy
  have h0 := hD.2.1
  have HDI : Hid ((Try.prog.info? 32).map (·.size) = some D.size) := Lib.hid (by rw [hD.1]; exact (zero_of_info info37').2)
  have HIS := Lib.hid (specIs_any s D hD)
  rw [hw] at HIS
  clear hD
  go_enter Try.func30, Try.ntmps30
  go_wp2_with (first | (refine wpList_load_row rfl 32 (.tmp 3) rfl w.heap.size rfl 32 D (0, 0) _ (h1_0 _ _) Try.underlying32 rfl HDI.out ?_) | (go_at_call 85; fail))
  refine (HIS.out _).mono ?_
  rintro e w1 ⟨rfl, b1⟩
  have g1 : w1.heap[w.heap.size]? = some (.cells D 32 (0, 0)) := by rw [b1.block _ (by rw [size_al]; omega)]; exact h1_0 _ _
  have B1 := Lib.hid (((Below.refl w.heap.size w).alloc (Nat.le_refl _) (.cells D 32)).trans (b1.mono (by rw [size_al]; omega)))
  have c0 : w1.cell? ⟨w.heap.size, 0, none⟩ = some (.int .i64 s) := by rw [cell_of_row _ _ _ _ _ _ g1]; exact h0
  have G1 := Lib.hid g1
  clear b1 g1
  go_wp2_with (go_at_call 75; refine (HY.out _).mono ?_; rintro e w' ⟨rfl, rfl⟩)
  go_ret2
  exact ⟨rfl, B1.out⟩

set_option maxRecDepth 100000 in
set_option maxHeartbeats 800000 in
theorem specCell_x (s : Int) (D : Array Value) (hD : Wav s D) (hw : isWav s D = true) (hw1 : IntKind.i64.wrap (s - 1) = s - 1) (y x : Int) (hy : inside y 0 (s - 1) = true) (hx : inside x 0 (s - 1) = false) (w : World) :
    Calls Try.prog 30 #[.agg D, .int .i64 y, .int .i64 x] w fun e w' => e = .returned (.tuple #[.complex .f32 0 0, .int .i64 2]) ∧ Below w.heap.size w w' := by
  have HY := Lib.hid (fun w => l01In_gen y 0 (s - 1) w)
  have HX := Lib.hid (fun w => l01In_gen x 0 (s - 1) w)
  rw [hy] at HY
  rw [hx] at HX
  clear hy hx
  have h0 := hD.2.1
  have HDI : Hid ((Try.prog.info? 32).map (·.size) = some D.size) := Lib.hid (by rw [hD.1]; exact (zero_of_info info37').2)
  have HIS := Lib.hid (specIs_any s D hD)
  rw [hw] at HIS
  clear hD
  go_enter Try.func30, Try.ntmps30
  go_wp2_with (first | (refine wpList_load_row rfl 32 (.tmp 3) rfl w.heap.size rfl 32 D (0, 0) _ (h1_0 _ _) Try.underlying32 rfl HDI.out ?_) | (go_at_call 85; fail))
  refine (HIS.out _).mono ?_
  rintro e w1 ⟨rfl, b1⟩
  have g1 : w1.heap[w.heap.size]? = some (.cells D 32 (0, 0)) := by rw [b1.block _ (by rw [size_al]; omega)]; exact h1_0 _ _
  have B1 := Lib.hid (((Below.refl w.heap.size w).alloc (Nat.le_refl _) (.cells D 32)).trans (b1.mono (by rw [size_al]; omega)))
  have c0 : w1.cell? ⟨w.heap.size, 0, none⟩ = some (.int .i64 s) := by rw [cell_of_row _ _ _ _ _ _ g1]; exact h0
  have G1 := Lib.hid g1
  clear b1 g1
  go_wp2_with fail
  refine (HY.out _).mono ?_
  rintro e w' ⟨rfl, rfl⟩
  go_wp2_with fail
  refine (HX.out _).mono ?_
  rintro e w' ⟨rfl, rfl⟩
  go_wp2_with fail
  go_ret2
  exact ⟨rfl, B1.out⟩

set_option maxRecDepth 100000 in
set_option maxHeartbeats 800000 in
theorem specCell_yes (s : Int) (D : Array Value) (hD : Wav s D) (hw : isWav s D = true) (hw1 : IntKind.i64.wrap (s - 1) = s - 1) (y x : Int) (hy : inside y 0 (s - 1) = true) (hx : inside x 0 (s - 1) = true)
    (k a b : Nat) (hk : k < 64) (hwm : IntKind.i64.wrap (s * y) = s * y) (hwa : IntKind.i64.wrap (s * y + x) = (k : Int)) (hab : D[1 + k]? = some (.complex .f32 a b)) (w : World) :
    Calls Try.prog 30 #[.agg D, .int .i64 y, .int .i64 x] w fun e w' => e = .returned (.tuple #[.complex .f32 a b, .int .i64 0]) ∧ Below w.heap.size w w' := by
  have HY := Lib.hid (fun w => l01In_gen y 0 (s - 1) w)
  have HX := Lib.hid (fun w => l01In_gen x 0 (s - 1) w)
  rw [hy] at HY
  rw [hx] at HX
  clear hy hx
  have h0 := hD.2.1
  have HDI : Hid ((Try.prog.info? 32).map (·.size) = some D.size) := Lib.hid (by rw [hD.1]; exact (zero_of_info info37').2)
  have HIS := Lib.hid (specIs_any s D hD)
  rw [hw] at HIS
  clear hD
  go_enter Try.func30, Try.ntmps30
  go_wp2_with (first | (refine wpList_load_row rfl 32 (.tmp 3) rfl w.heap.size rfl 32 D (0, 0) _ (h1_0 _ _) Try.underlying32 rfl HDI.out ?_) | (go_at_call 85; fail))
  refine (HIS.out _).mono ?_
  rintro e w1 ⟨rfl, b1⟩
  have g1 : w1.heap[w.heap.size]? = some (.cells D 32 (0, 0)) := by rw [b1.block _ (by rw [size_al]; omega)]; exact h1_0 _ _
  have B1 := Lib.hid (((Below.refl w.heap.size w).alloc (Nat.le_refl _) (.cells D 32)).trans (b1.mono (by rw [size_al]; omega)))
  have c0 : w1.cell? ⟨w.heap.size, 0, none⟩ = some (.int .i64 s) := by rw [cell_of_row _ _ _ _ _ _ g1]; exact h0
  have G1 := Lib.hid g1
  clear b1 g1
  have hcc : w1.cell? ⟨w.heap.size, 1 + k, none⟩ = some (.complex .f32 a b) := by rw [cell_of_row _ _ _ _ _ _ G1.out]; exact hab
  go_wp2_with fail
  refine (HY.out _).mono ?_
  rintro e w' ⟨rfl, rfl⟩
  go_wp2_with fail
  refine (HX.out _).mono ?_
  rintro e w' ⟨rfl, rfl⟩
  go_wp2_with fail
  go_ret2
  exact ⟨rfl, B1.out⟩

theorem cell_place (s y x : Int) (hs : 1 ≤ s ∧ s ≤ 8) (hy : inside y 0 (s - 1) = true) (hx : inside x 0 (s - 1) = true) :
    ∃ k : Nat, k < 64 ∧ (s * y + x).toNat = k ∧ IntKind.i64.wrap (s * y) = s * y ∧ IntKind.i64.wrap (s * y + x) = (k : Int) := by
  have hyx : 0 ≤ y ∧ y ≤ s - 1 ∧ 0 ≤ x ∧ x ≤ s - 1 := by simp [inside] at hy hx; omega
  have hm0 : 0 ≤ s * y := Int.mul_nonneg (by omega) (by omega)
  have h7 : s * y ≤ s * (s - 1) := Int.mul_le_mul_of_nonneg_left hyx.2.1 (by omega)
  have h8 : s * (s - 1) ≤ 8 * (s - 1) := Int.mul_le_mul_of_nonneg_right hs.2 (by omega)
  refine ⟨(s * y + x).toNat, by omega, rfl, IntWalk.i64_in _ (by omega), ?_⟩
  rw [IntWalk.i64_in _ (by omega)]
  omega

theorem specCell_any (s : Int) (D : Array Value) (hD : Wav s D) (y x : Int) (w : World) :
    Calls Try.prog 30 #[.agg D, .int .i64 y, .int .i64 x] w fun e w' => e = .returned (cellAns s D y x) ∧ Below w.heap.size w w' := by
  unfold cellAns
  cases hw : isWav s D
  · exact specCell_no s D hD hw y x w
  · have hss : 1 ≤ s ∧ s ≤ 8 := by
      have : side s = true := by unfold isWav at hw; rw [Bool.and_eq_true] at hw; exact hw.1
      rcases side_yes s this with rfl | rfl | rfl | rfl <;> omega
    have hw1 : IntKind.i64.wrap (s - 1) = s - 1 := IntWalk.i64_in _ (by omega)
    cases hy : inside y 0 (s - 1)
    · exact specCell_y s D hD hw hw1 y x hy w
    · cases hx : inside x 0 (s - 1)
      · exact specCell_x s D hD hw hw1 y x hy hx w
      · obtain ⟨k, hk, hkt, hwm, hwa⟩ := cell_place s y x hss hy hx
        obtain ⟨a, b, hab⟩ := hD.2.2 k hk
        have hat := at_of D k a b hab
        rw [hkt, hat.1, hat.2]
        exact specCell_yes s D hD hw hw1 y x hy hx k a b hk hwm hwa hab w
end Go.Proofs.Ytjmfffgddmnkmaa
