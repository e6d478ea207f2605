/- The program's cell of a wave is the model's. Condition: 64 complex numbers. -/
import Derived.Test.YtjmfffgddmnkmaaIIs
import Derived.Test.YtjmfffgddmnkmaaSCe
import Derived.Deep.QuietTactic
import Derived.BigQuiet
namespace Go.Proofs.Ytjmfffgddmnkmaa
open Go Go.RowKit

set_option maxRecDepth 100000 in
set_option maxHeartbeats 400000 in
theorem at_any (b : Nat) (s : Int) (D : Array Value) (y x : Int) (k m n : Nat) (hk : k < 64) (hwm : IntKind.i64.wrap (s * y) = s * y) (hwa : IntKind.i64.wrap (s * y + x) = (k : Int)) (hz : D[1 + k]? = some (.complex .f32 m n)) (h0 : D[0]? = some (.int .i64 s))
    (w : World) (hb : w.heap[b]? = some (.cells D 32 (0, 0))) :
    Calls Try.prog 77 #[.pointer (some ⟨b, 0, none⟩), .int .i64 y, .int .i64 x] w fun e w' => e = .returned (.complex .f32 m n) ∧ ∃ q, w' = w.drewN q := by
  have c0 : w.cell? ⟨b, 0, none⟩ = some (.int .i64 s) := by rw [cell_of_row _ _ _ _ _ _ hb]; exact h0
  have c1 : w.cell? ⟨b, 1 + k, none⟩ = some (.complex .f32 m n) := by rw [cell_of_row _ _ _ _ _ _ hb]; exact hz
  have hk' : (k : Int) < 64 := by omega
  clear hb hz h0
  go_enter Try.func77, Try.ntmps77
  go_wp2_with fail
  go_quiet (fail)
  go_wp2
  go_ret
  exact ⟨rfl, _, rfl⟩

set_option maxRecDepth 100000 in
set_option maxHeartbeats 800000 in
theorem implCell_no (s : Int) (D : Array Value) (hD : Wav s D) (hw : isWav s D = false) (y x : Int) (w : World) :
    Calls Try.prog 24 #[.agg D, .int .i64 y, .int .i64 x] w fun e w' => e = .returned (.tuple #[.complex .f32 0 0, .int .i64 1]) ∧ Below w.heap.size w w' := by
  have HDI : Hid ((Try.prog.info? 32).map (·.size) = some D.size) := Lib.hid (by rw [hD.1]; exact (zero_of_info info37').2)
  have HIS := Lib.hid (implIsW_any s D hD)
  rw [hw] at HIS
  clear hD
  go_enter Try.func24, Try.ntmps24
  go_wp2_with (first | (refine wpList_load_row rfl 32 (.tmp 3) rfl w.heap.size rfl 32 D (0, 0) _ (h1_0 _ _) Try.underlying32 rfl HDI.out ?_) | (go_at_call 25; fail))
  refine (HIS.out _).mono ?_
  rintro e w1 ⟨rfl, b1⟩
  have B1 := Lib.hid (((Below.refl w.heap.size w).alloc (Nat.le_refl _) (.cells D 32)).trans (b1.mono (by rw [size_al]; omega)))
  clear b1
  go_wp2_with fail
  go_ret2
  exact ⟨rfl, B1.out⟩

set_option maxRecDepth 100000 in
set_option maxHeartbeats 800000 in
theorem implCell_out (s : Int) (D : Array Value) (hD : Wav s D) (hw : isWav s D = true) (y x : Int) (h : (y < 0 ∨ s ≤ y) ∨ (x < 0 ∨ s ≤ x)) (w : World) :
    Calls Try.prog 24 #[.agg D, .int .i64 y, .int .i64 x] w fun e w' => e = .returned (.tuple #[.complex .f32 0 0, .int .i64 2]) ∧ Below w.heap.size w w' := by
  have h0 := hD.2.1
  have HDI : Hid ((Try.prog.info? 32).map (·.size) = some D.size) := Lib.hid (by rw [hD.1]; exact (zero_of_info info37').2)
  have HIS := Lib.hid (implIsW_any s D hD)
  rw [hw] at HIS
  clear hD
  go_enter Try.func24, Try.ntmps24
  go_wp2_with (first | (refine wpList_load_row rfl 32 (.tmp 3) rfl w.heap.size rfl 32 D (0, 0) _ (h1_0 _ _) Try.underlying32 rfl HDI.out ?_) | (go_at_call 25; fail))
  refine (HIS.out _).mono ?_
  rintro e w1 ⟨rfl, b1⟩
  have g1 : w1.heap[w.heap.size]? = some (.cells D 32 (0, 0)) := by rw [b1.block _ (by rw [size_al]; omega)]; exact h1_0 _ _
  have B1 := Lib.hid (((Below.refl w.heap.size w).alloc (Nat.le_refl _) (.cells D 32)).trans (b1.mono (by rw [size_al]; omega)))
  have c0 : w1.cell? ⟨w.heap.size, 0, none⟩ = some (.int .i64 s) := by rw [cell_of_row _ _ _ _ _ _ g1]; exact h0
  clear b1 g1
  by_cases hy0 : y < 0
  · have hd : decide (y < 0) = true := by simp; omega
    go_wp2_with fail
    go_ret2
    exact ⟨rfl, B1.out⟩
  · have hd : decide (y < 0) = false := by simp; omega
    by_cases hy1 : s ≤ y
    · have hd1 : decide (y ≥ s) = true := by simp; omega
      go_wp2_with fail
      go_ret2
      exact ⟨rfl, B1.out⟩
    · have hd1 : decide (y ≥ s) = false := by simp; omega
      by_cases hx0 : x < 0
      · have hd2 : decide (x < 0) = true := by simp; omega
        go_wp2_with fail
        go_ret2
        exact ⟨rfl, B1.out⟩
      · have hd2 : decide (x < 0) = false := by simp; omega
        have hd3 : decide (x ≥ s) = true := by simp; omega
        go_wp2_with fail
        go_ret2
        exact ⟨rfl, B1.out⟩

set_option maxRecDepth 100000 in
set_option maxHeartbeats 800000 in
theorem implCell_yes (s : Int) (D : Array Value) (hD : Wav s D) (hw : isWav s D = true) (y x : Int) (hy : 0 ≤ y ∧ y < s) (hx : 0 ≤ x ∧ x < s) (k a b : Nat) (hk : k < 64)
    (hwm : IntKind.i64.wrap (s * y) = s * y) (hwa : IntKind.i64.wrap (s * y + x) = (k : Int)) (hab : D[1 + k]? = some (.complex .f32 a b)) (w : World) :
    Calls Try.prog 24 #[.agg D, .int .i64 y, .int .i64 x] w fun e w' => e = .returned (.tuple #[.complex .f32 a b, .int .i64 0]) ∧ Below w.heap.size w w' := by
  have h0 := hD.2.1
  have HDI : Hid ((Try.prog.info? 32).map (·.size) = some D.size) := Lib.hid (by rw [hD.1]; exact (zero_of_info info37').2)
  have HIS := Lib.hid (implIsW_any s D hD)
  rw [hw] at HIS
  have HAT := Lib.hid (fun w1 (g1 : w1.heap[w.heap.size]? = some (.cells D 32 (0, 0))) => at_any w.heap.size s D y x k a b hk hwm hwa hab h0 w1 g1)
  have hd : decide (y < 0) = false := by simp; omega
  have hd1 : decide (y ≥ s) = false := by simp; omega
  have hd2 : decide (x < 0) = false := by simp; omega
  have hd3 : decide (x ≥ s) = false := by simp; omega
  clear hD hy hx
  go_enter Try.func24, Try.ntmps24
  go_wp2_with (first | (refine wpList_load_row rfl 32 (.tmp 3) rfl w.heap.size rfl 32 D (0, 0) _ (h1_0 _ _) Try.underlying32 rfl HDI.out ?_) | (go_at_call 25; fail))
  refine (HIS.out _).mono ?_
  rintro e w1 ⟨rfl, b1⟩
  have g1 : w1.heap[w.heap.size]? = some (.cells D 32 (0, 0)) := by rw [b1.block _ (by rw [size_al]; omega)]; exact h1_0 _ _
  have B1 := Lib.hid (((Below.refl w.heap.size w).alloc (Nat.le_refl _) (.cells D 32)).trans (b1.mono (by rw [size_al]; omega)))
  have c0 : w1.cell? ⟨w.heap.size, 0, none⟩ = some (.int .i64 s) := by rw [cell_of_row _ _ _ _ _ _ g1]; exact h0
  have HAT1 := Lib.hid (HAT.out w1 g1)
  clear b1 g1 HAT
  go_wp2_with (go_at_call 77; refine HAT1.out.mono ?_; rintro e w' ⟨rfl, q, rfl⟩)
  go_ret2
  exact ⟨rfl, below_drewN B1.out _⟩

theorem implCell_any (s : Int) (D : Array Value) (hD : Wav s D) (y x : Int) (w : World) :
    Calls Try.prog 24 #[.agg D, .int .i64 y, .int .i64 x] w fun e w' => e = .returned (cellAns s D y x) ∧ Below w.heap.size w w' := by
  unfold cellAns
  cases hw : isWav s D
  · exact implCell_no s D hD hw y x w
  · have hss : 1 ≤ s ∧ s ≤ 8 := by
      have : side s = true := by unfold isWav at hw; rw [Bool.and_eq_true] at hw; exact hw.1
      rcases side_yes s this with rfl | rfl | rfl | rfl <;> omega
    cases hy : inside y 0 (s - 1)
    · exact implCell_out s D hD hw y x (.inl (by simp [inside] at hy; omega)) w
    · cases hx : inside x 0 (s - 1)
      · exact implCell_out s D hD hw y x (.inr (by simp [inside] at hx; omega)) w
      · obtain ⟨k, hk, hkt, hwm, hwa⟩ := cell_place s y x hss hy hx
        obtain ⟨a, b, hab⟩ := hD.2.2 k hk
        have hat := at_of D k a b hab
        rw [hkt, hat.1, hat.2]
        exact implCell_yes s D hD hw y x (by simp [inside] at hy; omega) (by simp [inside] at hx; omega) k a b hk hwm hwa hab w
end Go.Proofs.Ytjmfffgddmnkmaa
