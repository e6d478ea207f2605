/- The program answers a GratingMask as it is asked. Condition: none. -/
import Derived.Test.YtjmfffgddmnkmaaSGratingMask
import Derived.Test.YtjmfffgddmnkmaaIB
import Derived.Deep.QuietTactic
import Derived.BigQuiet
namespace Go.Proofs.Ytjmfffgddmnkmaa
open Go Go.RowKit

set_option maxRecDepth 100000 in
set_option maxHeartbeats 800000 in
theorem implGratingMask_no0 (n p q : Int) (h0 : side n = false) (w : World) : Calls Try.prog 46 #[.int .i64 n, .int .i64 p, .int .i64 q] w fun e w' => e = .returned (.tuple #[.agg (pic 0 zc), .int .i64 2]) ∧ Below w.heap.size w w' := by
  have hz37 := (zero_of_info info37').1
  have HS37 := Lib.hid (zero_of_info info37').2
  have HZ37 : Hid ((pic 0 zc).size = 65) := Lib.hid (pic_size 0 zc zc_size)
  have HZ1 := Lib.hid (zc_one 0)
  have hne := pic_ne
  generalize pic 0 zc = Z at *
  have HZI : Hid ((Try.prog.info? 32).map (·.size) = some Z.size) := Lib.hid (by rw [HZ37.out]; exact HS37.out)
  go_enter Try.func46, Try.ntmps46
  go_wp2_with fail
  refine (isSide_any _ _).mono ?_
  rw [h0]
  rintro e w' ⟨rfl, rfl⟩
  go_wp2_with (refine wpList_store_row rfl 32 (.tmp 6) (.tmp 23) rfl w.heap.size Z rfl rfl 32 Z (h1_0 w (.cells Z 32)) HZI.out rfl HZ1.out ?_)
  refine bodyPost_ret (v := .tuple #[.agg Z, .int .i64 2]) (results_row_tmp (fn := Try.f46) (p := 6) (u := 7) (ty := 32) rfl _ _ w.heap.size 32 Z (0, 0) _ rfl (setRow_heap _ _ _ _ _ _ (h1_0 w (.cells Z 32))) Try.underlying32 rfl HZI.out) rfl ⟨rfl, ?_⟩
  exact below_setRow ((Below.refl _ _).alloc (Nat.le_refl _) _) (Nat.le_refl _) _

set_option maxRecDepth 100000 in
set_option maxHeartbeats 800000 in
theorem implGratingMask_no1 (n p q : Int) (h0 : side n = true) (h1 : inside p (1) (n) = false) (w : World) : Calls Try.prog 46 #[.int .i64 n, .int .i64 p, .int .i64 q] w fun e w' => e = .returned (.tuple #[.agg (pic 0 zc), .int .i64 2]) ∧ Below w.heap.size w w' := by
  have hz37 := (zero_of_info info37').1
  have HS37 := Lib.hid (zero_of_info info37').2
  have HZ37 : Hid ((pic 0 zc).size = 65) := Lib.hid (pic_size 0 zc zc_size)
  have HZ1 := Lib.hid (zc_one 0)
  have hne := pic_ne
  generalize pic 0 zc = Z at *
  have HZI : Hid ((Try.prog.info? 32).map (·.size) = some Z.size) := Lib.hid (by rw [HZ37.out]; exact HS37.out)
  have hb8 : 1 ≤ n ∧ n ≤ 8 := by rcases side_yes n h0 with rfl | rfl | rfl | rfl <;> omega
  go_enter Try.func46, Try.ntmps46
  go_wp2_with fail
  refine (isSide_any _ _).mono ?_
  rw [h0]
  rintro e w' ⟨rfl, rfl⟩
  go_wp2_with fail
  refine (between_any _ _ _ _).mono ?_
  rw [h1]
  rintro e w' ⟨rfl, rfl⟩
  go_wp2_with (refine wpList_store_row rfl 32 (.tmp 6) (.tmp 23) rfl w.heap.size Z rfl rfl 32 Z (h1_0 w (.cells Z 32)) HZI.out rfl HZ1.out ?_)
  refine bodyPost_ret (v := .tuple #[.agg Z, .int .i64 2]) (results_row_tmp (fn := Try.f46) (p := 6) (u := 7) (ty := 32) rfl _ _ w.heap.size 32 Z (0, 0) _ rfl (setRow_heap _ _ _ _ _ _ (h1_0 w (.cells Z 32))) Try.underlying32 rfl HZI.out) rfl ⟨rfl, ?_⟩
  exact below_setRow ((Below.refl _ _).alloc (Nat.le_refl _) _) (Nat.le_refl _) _

set_option maxRecDepth 100000 in
set_option maxHeartbeats 800000 in
theorem implGratingMask_no2 (n p q : Int) (h0 : side n = true) (h1 : inside p (1) (n) = true) (h2 : inside q (0) (p) = false) (w : World) : Calls Try.prog 46 #[.int .i64 n, .int .i64 p, .int .i64 q] w fun e w' => e = .returned (.tuple #[.agg (pic 0 zc), .int .i64 2]) ∧ Below w.heap.size w w' := by
  have hz37 := (zero_of_info info37').1
  have HS37 := Lib.hid (zero_of_info info37').2
  have HZ37 : Hid ((pic 0 zc).size = 65) := Lib.hid (pic_size 0 zc zc_size)
  have HZ1 := Lib.hid (zc_one 0)
  have hne := pic_ne
  generalize pic 0 zc = Z at *
  have HZI : Hid ((Try.prog.info? 32).map (·.size) = some Z.size) := Lib.hid (by rw [HZ37.out]; exact HS37.out)
  have hb8 : 1 ≤ n ∧ n ≤ 8 := by rcases side_yes n h0 with rfl | rfl | rfl | rfl <;> omega
  go_enter Try.func46, Try.ntmps46
  go_wp2_with fail
  refine (isSide_any _ _).mono ?_
  rw [h0]
  rintro e w' ⟨rfl, rfl⟩
  go_wp2_with fail
  refine (between_any _ _ _ _).mono ?_
  rw [h1]
  rintro e w' ⟨rfl, rfl⟩
  go_wp2_with fail
  refine (between_any _ _ _ _).mono ?_
  rw [h2]
  rintro e w' ⟨rfl, rfl⟩
  go_wp2_with (refine wpList_store_row rfl 32 (.tmp 6) (.tmp 23) rfl w.heap.size Z rfl rfl 32 Z (h1_0 w (.cells Z 32)) HZI.out rfl HZ1.out ?_)
  refine bodyPost_ret (v := .tuple #[.agg Z, .int .i64 2]) (results_row_tmp (fn := Try.f46) (p := 6) (u := 7) (ty := 32) rfl _ _ w.heap.size 32 Z (0, 0) _ rfl (setRow_heap _ _ _ _ _ _ (h1_0 w (.cells Z 32))) Try.underlying32 rfl HZI.out) rfl ⟨rfl, ?_⟩
  exact below_setRow ((Below.refl _ _).alloc (Nat.le_refl _) _) (Nat.le_refl _) _

set_option maxRecDepth 100000 in
set_option maxHeartbeats 800000 in
theorem implGratingMask_yes (n p q : Int) (h0 : side n = true) (h1 : inside p (1) (n) = true) (h2 : inside q (0) (p) = true) (w : World) : Calls Try.prog 46 #[.int .i64 n, .int .i64 p, .int .i64 q] w fun e w' => e = .returned (.tuple #[.agg (pic n (gf (cellGratingMask n.toNat p q) (n.toNat * n.toNat))), .int .i64 0]) ∧ Below w.heap.size w w' := by
  obtain ⟨s, rfl⟩ : ∃ s : Nat, n = s := ⟨n.toNat, by rcases side_yes n h0 with rfl | rfl | rfl | rfl <;> rfl⟩
  rw [show ((s : Int)).toNat = s from rfl]
  have hz37 := (zero_of_info info37').1
  have HS37 := Lib.hid (zero_of_info info37').2
  have HZ37 : Hid ((pic 0 zc).size = 65) := Lib.hid (pic_size 0 zc zc_size)
  have hs8 : 1 ≤ s ∧ s ≤ 8 := by rcases side_nat s h0 with rfl | rfl | rfl | rfl <;> omega
  have hp : 1 ≤ p ∧ p ≤ (s : Int) := by simpa [inside] using h1
  have HFW : Hid (FinW s (pic s (gf (cellGratingMask s p q) (s * s)))) := Lib.hid (gf_fin s _ (cellGratingMask_fin s p q) (s * s))
  have HB := Lib.hid (built_isInGrating s h0 #[.int .i64 0, .int .i64 0, .int .i64 0, .int .i64 p, .int .i64 q] (by kernel_rfl) (cellGratingMask s p q) (fun _ j => decide ((j : Int) % p < q)) (cellGratingMask_fin s p q)
    (fun y x' _ hx' => by
      obtain ⟨e1, e2⟩ := place_at s y x' hx'
      show cellGratingMask s p q (s * y + x') = mark _
      unfold cellGratingMask
      rw [show (((s * y + x' : Nat) : Int) % (s : Int)) = (((s * y + x') % s : Nat) : Int) by omega, e2])
    (fun y x' v' hy' hx' => isInGrating_any y x' p q (by omega) (by omega) (by omega) v'))
  generalize pic s (gf (cellGratingMask s p q) (s * s)) = G at *
  generalize pic 0 zc = Z at *
  have HFI : Hid ((Try.prog.info? 32).map (·.size) = some G.size) := Lib.hid (by rw [HFW.out.1]; exact HS37.out)
  have HZF : Hid (Z.size = G.size) := Lib.hid (by rw [HFW.out.1]; exact HZ37.out)
  have HF1 := Lib.hid (finW_one HFW.out)
  go_enter Try.func46, Try.ntmps46
  go_wp2_with fail
  refine (isSide_any _ _).mono ?_
  rw [h0]
  rintro e w' ⟨rfl, rfl⟩
  go_wp2_with fail
  refine (between_any _ _ _ _).mono ?_
  rw [h1]
  rintro e w' ⟨rfl, rfl⟩
  go_wp2_with fail
  refine (between_any _ _ _ _).mono ?_
  rw [h2]
  rintro e w' ⟨rfl, rfl⟩
  go_wp2_with (go_at_call 93; fail)
  refine (HB.out _).mono ?_
  rintro e w1 ⟨rfl, b1⟩
  have G1 : Hid (w1.heap[w.heap.size]? = some (.cells Z 32)) := Lib.hid (by rw [b1.block _ (by rw [size_al]; omega)]; exact h1_0 w (.cells Z 32))
  have B3 : Hid (Below w.heap.size w w1) := Lib.hid (((Below.refl _ _).alloc (Nat.le_refl _) _).trans (b1.mono (by rw [size_al]; omega)))
  clear b1 HB
  go_wp2_with (refine wpList_store_row rfl 32 (.tmp 6) (.tmp 29) rfl w.heap.size G rfl rfl 32 Z G1.out HFI.out HZF.out HF1.out ?_)
  refine bodyPost_ret (v := .tuple #[.agg G, .int .i64 0]) (results_row_tmp (fn := Try.f46) (p := 6) (u := 7) (ty := 32) rfl _ _ w.heap.size 32 G (0, 0) _ rfl (setRow_heap _ _ _ _ _ _ G1.out) Try.underlying32 rfl HFI.out) rfl ⟨rfl, ?_⟩
  exact below_setRow B3.out (Nat.le_refl _) _

theorem implGratingMask_any (n p q : Int) (w : World) : Calls Try.prog 46 #[.int .i64 n, .int .i64 p, .int .i64 q] w fun e w' => e = .returned (.tuple #[.agg (pic (ansGratingMask n p q).1 (ansGratingMask n p q).2.1), .int .i64 (ansGratingMask n p q).2.2]) ∧ Below w.heap.size w w' := by
  cases h0 : side n
  · rw [ansGratingMask_no n p q (by unfold okGratingMask; rw [h0]; rfl)]
    exact implGratingMask_no0 n p q h0 w
  cases h1 : inside p (1) (n)
  · rw [ansGratingMask_no n p q (by unfold okGratingMask; rw [h0, h1]; rfl)]
    exact implGratingMask_no1 n p q h0 h1 w
  cases h2 : inside q (0) (p)
  · rw [ansGratingMask_no n p q (by unfold okGratingMask; rw [h0, h1, h2]; rfl)]
    exact implGratingMask_no2 n p q h0 h1 h2 w
  rw [ansGratingMask_yes n p q (by unfold okGratingMask; rw [h0, h1, h2]; rfl)]
  exact implGratingMask_yes n p q h0 h1 h2 w
end Go.Proofs.Ytjmfffgddmnkmaa
