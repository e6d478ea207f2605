/- The program answers a SlitMask as it is asked. Condition: none. -/
import Derived.Test.YtjmfffgddmnkmaaSSlitMask
import Derived.Test.YtjmfffgddmnkmaaIB
import Derived.Deep.QuietTactic
import Derived.BigQuiet
namespace Go.Proofs.Ytjmfffgddmnkmaa
open Go Go.RowKit

set_option maxRecDepth 100000 in
set_option maxHeartbeats 800000 in
theorem implSlitMask_no0 (n x d : Int) (h0 : side n = false) (w : World) : Calls Try.prog 37 #[.int .i64 n, .int .i64 x, .int .i64 d] w fun e w' => e = .returned (.tuple #[.agg (pic 0 zc), .int .i64 2]) ∧ Below w.heap.size w w' := by
  have hz37 := (zero_of_info info37').1
  have HS37 := Lib.hid (zero_of_info info37').2
  have HZ37 : Hid ((pic 0 zc).size = 65) := Lib.hid (pic_size 0 zc zc_size)
  have HZ1 := Lib.hid (zc_one 0)
  have hne := pic_ne
  generalize pic 0 zc = Z at *
  have HZI : Hid ((Try.prog.info? 32).map (·.size) = some Z.size) := Lib.hid (by rw [HZ37.out]; exact HS37.out)
  go_enter Try.func37, Try.ntmps37
  go_wp2_with fail
  refine (isSide_any _ _).mono ?_
  rw [h0]
  rintro e w' ⟨rfl, rfl⟩
  go_wp2_with (refine wpList_store_row rfl 32 (.tmp 6) (.tmp 26) rfl w.heap.size Z rfl rfl 32 Z (h1_0 w (.cells Z 32)) HZI.out rfl HZ1.out ?_)
  refine bodyPost_ret (v := .tuple #[.agg Z, .int .i64 2]) (results_row_tmp (fn := Try.f37) (p := 6) (u := 7) (ty := 32) rfl _ _ w.heap.size 32 Z (0, 0) _ rfl (setRow_heap _ _ _ _ _ _ (h1_0 w (.cells Z 32))) Try.underlying32 rfl HZI.out) rfl ⟨rfl, ?_⟩
  exact below_setRow ((Below.refl _ _).alloc (Nat.le_refl _) _) (Nat.le_refl _) _

set_option maxRecDepth 100000 in
set_option maxHeartbeats 800000 in
theorem implSlitMask_no1 (n x d : Int) (h0 : side n = true) (h1 : inside x (0) (n - 1) = false) (w : World) : Calls Try.prog 37 #[.int .i64 n, .int .i64 x, .int .i64 d] w fun e w' => e = .returned (.tuple #[.agg (pic 0 zc), .int .i64 2]) ∧ Below w.heap.size w w' := by
  have hz37 := (zero_of_info info37').1
  have HS37 := Lib.hid (zero_of_info info37').2
  have HZ37 : Hid ((pic 0 zc).size = 65) := Lib.hid (pic_size 0 zc zc_size)
  have HZ1 := Lib.hid (zc_one 0)
  have hne := pic_ne
  generalize pic 0 zc = Z at *
  have HZI : Hid ((Try.prog.info? 32).map (·.size) = some Z.size) := Lib.hid (by rw [HZ37.out]; exact HS37.out)
  have hb8 : 1 ≤ n ∧ n ≤ 8 := by rcases side_yes n h0 with rfl | rfl | rfl | rfl <;> omega
  have e1 : IntKind.i64.wrap (n - 1) = n - 1 := IntWalk.i64_in _ (by omega)
  go_enter Try.func37, Try.ntmps37
  go_wp2_with fail
  refine (isSide_any _ _).mono ?_
  rw [h0]
  rintro e w' ⟨rfl, rfl⟩
  go_wp2_with fail
  refine (between_any _ _ _ _).mono ?_
  rw [h1]
  rintro e w' ⟨rfl, rfl⟩
  go_wp2_with (refine wpList_store_row rfl 32 (.tmp 6) (.tmp 26) rfl w.heap.size Z rfl rfl 32 Z (h1_0 w (.cells Z 32)) HZI.out rfl HZ1.out ?_)
  refine bodyPost_ret (v := .tuple #[.agg Z, .int .i64 2]) (results_row_tmp (fn := Try.f37) (p := 6) (u := 7) (ty := 32) rfl _ _ w.heap.size 32 Z (0, 0) _ rfl (setRow_heap _ _ _ _ _ _ (h1_0 w (.cells Z 32))) Try.underlying32 rfl HZI.out) rfl ⟨rfl, ?_⟩
  exact below_setRow ((Below.refl _ _).alloc (Nat.le_refl _) _) (Nat.le_refl _) _

set_option maxRecDepth 100000 in
set_option maxHeartbeats 800000 in
theorem implSlitMask_no2 (n x d : Int) (h0 : side n = true) (h1 : inside x (0) (n - 1) = true) (h2 : inside d (0) (n - x) = false) (w : World) : Calls Try.prog 37 #[.int .i64 n, .int .i64 x, .int .i64 d] w fun e w' => e = .returned (.tuple #[.agg (pic 0 zc), .int .i64 2]) ∧ Below w.heap.size w w' := by
  have hz37 := (zero_of_info info37').1
  have HS37 := Lib.hid (zero_of_info info37').2
  have HZ37 : Hid ((pic 0 zc).size = 65) := Lib.hid (pic_size 0 zc zc_size)
  have HZ1 := Lib.hid (zc_one 0)
  have hne := pic_ne
  generalize pic 0 zc = Z at *
  have HZI : Hid ((Try.prog.info? 32).map (·.size) = some Z.size) := Lib.hid (by rw [HZ37.out]; exact HS37.out)
  have hb8 : 1 ≤ n ∧ n ≤ 8 := by rcases side_yes n h0 with rfl | rfl | rfl | rfl <;> omega
  have e1 : IntKind.i64.wrap (n - 1) = n - 1 := IntWalk.i64_in _ (by omega)
  have hx : 0 ≤ x ∧ x ≤ n - 1 := by simpa [inside] using h1
  have e2 : IntKind.i64.wrap (n - x) = n - x := IntWalk.i64_in _ (by omega)
  go_enter Try.func37, Try.ntmps37
  go_wp2_with fail
  refine (isSide_any _ _).mono ?_
  rw [h0]
  rintro e w' ⟨rfl, rfl⟩
  go_wp2_with fail
  refine (between_any _ _ _ _).mono ?_
  rw [h1]
  rintro e w' ⟨rfl, rfl⟩
  go_wp2_with fail
  refine (between_any _ _ _ _).mono ?_
  rw [h2]
  rintro e w' ⟨rfl, rfl⟩
  go_wp2_with (refine wpList_store_row rfl 32 (.tmp 6) (.tmp 26) rfl w.heap.size Z rfl rfl 32 Z (h1_0 w (.cells Z 32)) HZI.out rfl HZ1.out ?_)
  refine bodyPost_ret (v := .tuple #[.agg Z, .int .i64 2]) (results_row_tmp (fn := Try.f37) (p := 6) (u := 7) (ty := 32) rfl _ _ w.heap.size 32 Z (0, 0) _ rfl (setRow_heap _ _ _ _ _ _ (h1_0 w (.cells Z 32))) Try.underlying32 rfl HZI.out) rfl ⟨rfl, ?_⟩
  exact below_setRow ((Below.refl _ _).alloc (Nat.le_refl _) _) (Nat.le_refl _) _

set_option maxRecDepth 100000 in
set_option maxHeartbeats 800000 in
theorem implSlitMask_yes (n x d : Int) (h0 : side n = true) (h1 : inside x (0) (n - 1) = true) (h2 : inside d (0) (n - x) = true) (w : World) : Calls Try.prog 37 #[.int .i64 n, .int .i64 x, .int .i64 d] w fun e w' => e = .returned (.tuple #[.agg (pic n (gf (cellSlitMask n.toNat x d) (n.toNat * n.toNat))), .int .i64 0]) ∧ Below w.heap.size w w' := by
  obtain ⟨s, rfl⟩ : ∃ s : Nat, n = s := ⟨n.toNat, by rcases side_yes n h0 with rfl | rfl | rfl | rfl <;> rfl⟩
  rw [show ((s : Int)).toNat = s from rfl]
  have hz37 := (zero_of_info info37').1
  have HS37 := Lib.hid (zero_of_info info37').2
  have HZ37 : Hid ((pic 0 zc).size = 65) := Lib.hid (pic_size 0 zc zc_size)
  have hs8 : 1 ≤ s ∧ s ≤ 8 := by rcases side_nat s h0 with rfl | rfl | rfl | rfl <;> omega
  have hx : 0 ≤ x ∧ x ≤ (s : Int) - 1 := by simpa [inside] using h1
  have hd : 0 ≤ d ∧ d ≤ (s : Int) - x := by simpa [inside] using h2
  have e1 : IntKind.i64.wrap ((s : Int) - 1) = (s : Int) - 1 := IntWalk.i64_in _ (by omega)
  have e2 : IntKind.i64.wrap ((s : Int) - x) = (s : Int) - x := IntWalk.i64_in _ (by omega)
  have HFW : Hid (FinW s (pic s (gf (cellSlitMask s x d) (s * s)))) := Lib.hid (gf_fin s _ (cellSlitMask_fin s x d) (s * s))
  have HB := Lib.hid (built_isInSlit s h0 #[.int .i64 0, .int .i64 0, .int .i64 x, .int .i64 0, .int .i64 d] (by kernel_rfl) (cellSlitMask s x d) (fun _ j => decide (x ≤ (j : Int)) && decide ((j : Int) < x + d)) (cellSlitMask_fin s x d)
    (fun y x' _ hx' => by
      obtain ⟨e1, e2⟩ := place_at s y x' hx'
      show cellSlitMask s x d (s * y + x') = mark _
      unfold cellSlitMask
      rw [e2])
    (fun y x' v' hy' hx' => isInSlit_any y x' x d (by omega) (by omega) (by omega) (by omega) v'))
  generalize pic s (gf (cellSlitMask s x d) (s * s)) = G at *
  generalize pic 0 zc = Z at *
  have HFI : Hid ((Try.prog.info? 32).map (·.size) = some G.size) := Lib.hid (by rw [HFW.out.1]; exact HS37.out)
  have HZF : Hid (Z.size = G.size) := Lib.hid (by rw [HFW.out.1]; exact HZ37.out)
  have HF1 := Lib.hid (finW_one HFW.out)
  go_enter Try.func37, Try.ntmps37
  go_wp2_with fail
  refine (isSide_any _ _).mono ?_
  rw [h0]
  rintro e w' ⟨rfl, rfl⟩
  go_wp2_with fail
  refine (between_any _ _ _ _).mono ?_
  rw [h1]
  rintro e w' ⟨rfl, rfl⟩
  go_wp2_with fail
  refine (between_any _ _ _ _).mono ?_
  rw [h2]
  rintro e w' ⟨rfl, rfl⟩
  go_wp2_with (go_at_call 93; fail)
  refine (HB.out _).mono ?_
  rintro e w1 ⟨rfl, b1⟩
  have G1 : Hid (w1.heap[w.heap.size]? = some (.cells Z 32)) := Lib.hid (by rw [b1.block _ (by rw [size_al]; omega)]; exact h1_0 w (.cells Z 32))
  have B3 : Hid (Below w.heap.size w w1) := Lib.hid (((Below.refl _ _).alloc (Nat.le_refl _) _).trans (b1.mono (by rw [size_al]; omega)))
  clear b1 HB
  go_wp2_with (refine wpList_store_row rfl 32 (.tmp 6) (.tmp 32) rfl w.heap.size G rfl rfl 32 Z G1.out HFI.out HZF.out HF1.out ?_)
  refine bodyPost_ret (v := .tuple #[.agg G, .int .i64 0]) (results_row_tmp (fn := Try.f37) (p := 6) (u := 7) (ty := 32) rfl _ _ w.heap.size 32 G (0, 0) _ rfl (setRow_heap _ _ _ _ _ _ G1.out) Try.underlying32 rfl HFI.out) rfl ⟨rfl, ?_⟩
  exact below_setRow B3.out (Nat.le_refl _) _

theorem implSlitMask_any (n x d : Int) (w : World) : Calls Try.prog 37 #[.int .i64 n, .int .i64 x, .int .i64 d] w fun e w' => e = .returned (.tuple #[.agg (pic (ansSlitMask n x d).1 (ansSlitMask n x d).2.1), .int .i64 (ansSlitMask n x d).2.2]) ∧ Below w.heap.size w w' := by
  cases h0 : side n
  · rw [ansSlitMask_no n x d (by unfold okSlitMask; rw [h0]; rfl)]
    exact implSlitMask_no0 n x d h0 w
  cases h1 : inside x (0) (n - 1)
  · rw [ansSlitMask_no n x d (by unfold okSlitMask; rw [h0, h1]; rfl)]
    exact implSlitMask_no1 n x d h0 h1 w
  cases h2 : inside d (0) (n - x)
  · rw [ansSlitMask_no n x d (by unfold okSlitMask; rw [h0, h1, h2]; rfl)]
    exact implSlitMask_no2 n x d h0 h1 h2 w
  rw [ansSlitMask_yes n x d (by unfold okSlitMask; rw [h0, h1, h2]; rfl)]
  exact implSlitMask_yes n x d h0 h1 h2 w
end Go.Proofs.Ytjmfffgddmnkmaa
