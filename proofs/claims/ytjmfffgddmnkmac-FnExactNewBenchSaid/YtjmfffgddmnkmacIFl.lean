/- The program's flat wave is the model's. Condition: none. -/
import Derived.Test.YtjmfffgddmnkmacSFl
import Derived.Test.YtjmfffgddmnkmacBuild
namespace Go.Proofs.Ytjmfffgddmnkmac
open Go Go.RowKit

theorem rule_flat (x y : Nat) (i j : Int) (p : Addr) (w : World) (h : w.cell? p = some (.complex .f32 x y)) :
    Calls Try.prog 42 #[.int .i64 i, .int .i64 j, .pointer (some p)] w fun e w' => e = .returned (.complex .f32 x y) ∧ ∃ m, w' = w.drewN m := by
  go_enter Try.func42, Try.ntmps42
  go_wp2
  go_ret
  exact ⟨rfl, 0, rfl⟩

set_option maxRecDepth 100000 in
set_option maxHeartbeats 800000 in
theorem implFlat_no (n : Int) (x y : Nat) (h : (fin x && fin y) = false) (w : World) : Calls Try.prog 13 #[.int .i64 n, .complex .f32 x y] w fun e w' => e = .returned (.tuple #[.agg (pic 0 zc), .int .i64 1]) ∧ Below w.heap.size w w' := by
  have hz37 := (zero_of_info info37').1
  have HS37 := Lib.hid (zero_of_info info37').2
  have HZ37 : Hid ((pic 0 zc).size = 65) := Lib.hid (pic_size 0 zc zc_size)
  have HZ1 := Lib.hid (zc_one 0)
  have hne := pic_ne
  generalize pic 0 zc = Z at *
  have HZI : Hid ((Try.prog.info? 33).map (·.size) = some Z.size) := Lib.hid (by rw [HZ37.out]; exact HS37.out)
  go_enter Try.func13, Try.ntmps13
  go_wp2_with (first | (go_at_call 39; refine (isComplex_any _ _ _).mono ?_; rw [h]; rintro e w' ⟨rfl, n', rfl⟩) | (refine wpList_store_row rfl 33 (.tmp 4) (.tmp 9) rfl (w.heap.size + 1) Z rfl rfl 33 Z (h2_1 w (.cells #[.complex .f32 x y] 30) (.cells Z 33)) HZI.out rfl HZ1.out ?_))
  refine bodyPost_ret (v := .tuple #[.agg Z, .int .i64 1]) (results_row_tmp (fn := Try.f13) (p := 4) (u := 5) (ty := 33) rfl _ _ (w.heap.size + 1) 33 Z (0, 0) _ rfl (setRow_heap _ _ _ _ _ _ (h2_1 w (.cells #[.complex .f32 x y] 30) (.cells Z 33))) Try.underlying33 rfl HZI.out) rfl ⟨rfl, ?_⟩
  exact below_setRow (below_drewN (below_al2 _ _ _) _) (by omega) _

set_option maxRecDepth 100000 in
set_option maxHeartbeats 800000 in
theorem implFlat_side (n : Int) (x y : Nat) (h : (fin x && fin y) = true) (hn : side n = false) (w : World) : Calls Try.prog 13 #[.int .i64 n, .complex .f32 x y] w fun e w' => e = .returned (.tuple #[.agg (pic 0 zc), .int .i64 2]) ∧ Below w.heap.size w w' := by
  have hz37 := (zero_of_info info37').1
  have HS37 := Lib.hid (zero_of_info info37').2
  have HZ37 : Hid ((pic 0 zc).size = 65) := Lib.hid (pic_size 0 zc zc_size)
  have HZ1 := Lib.hid (zc_one 0)
  have hne := pic_ne
  generalize pic 0 zc = Z at *
  have HZI : Hid ((Try.prog.info? 33).map (·.size) = some Z.size) := Lib.hid (by rw [HZ37.out]; exact HS37.out)
  go_enter Try.func13, Try.ntmps13
  go_wp2_with (first | (go_at_call 39; refine (isComplex_any _ _ _).mono ?_; rw [h]; rintro e w' ⟨rfl, n', rfl⟩) | (go_at_call 40; refine (isSide_any _ _).mono ?_; rw [hn]; rintro e w' ⟨rfl, rfl⟩) | (refine wpList_store_row rfl 33 (.tmp 4) (.tmp 13) rfl (w.heap.size + 1) Z rfl rfl 33 Z (h2_1 w (.cells #[.complex .f32 x y] 30) (.cells Z 33)) HZI.out rfl HZ1.out ?_))
  refine bodyPost_ret (v := .tuple #[.agg Z, .int .i64 2]) (results_row_tmp (fn := Try.f13) (p := 4) (u := 5) (ty := 33) rfl _ _ (w.heap.size + 1) 33 Z (0, 0) _ rfl (setRow_heap _ _ _ _ _ _ (h2_1 w (.cells #[.complex .f32 x y] 30) (.cells Z 33))) Try.underlying33 rfl HZI.out) rfl ⟨rfl, ?_⟩
  exact below_setRow (below_drewN (below_al2 _ _ _) _) (by omega) _

set_option maxRecDepth 100000 in
set_option maxHeartbeats 800000 in
theorem implFlat_yes (s : Nat) (x y : Nat) (h : (fin x && fin y) = true) (hn : side s = true) (w : World) : Calls Try.prog 13 #[.int .i64 s, .complex .f32 x y] w fun e w' => e = .returned (.tuple #[.agg (pic s (flat x y (s * s))), .int .i64 0]) ∧ Below w.heap.size w w' := by
  have hz37 := (zero_of_info info37').1
  have HS37 := Lib.hid (zero_of_info info37').2
  have HZ37 : Hid ((pic 0 zc).size = 65) := Lib.hid (pic_size 0 zc zc_size)
  have hne := pic_ne
  have HFW : Hid (FinW s (pic s (gf (fun _ => (x, y)) (s * s)))) := Lib.hid (gf_fin s _ (fun _ => h) (s * s))
  have HC : Hid (pic s (flat x y (s * s)) = pic s (gf (fun _ => (x, y)) (s * s))) := Lib.hid rfl
  have HB : Hid (∀ (v : World) (p : Addr), v.cell? p = some (.complex .f32 x y) → Calls Try.prog 41 #[.int .i64 s, .func (.func 42) #[] #[.pointer (some p)]] v fun e w' =>
      e = .returned (.tuple #[.agg (pic s (gf (fun _ => (x, y)) (s * s))), .int .i64 0]) ∧ Below v.heap.size v w') := Lib.hid fun v p hp =>
    build_flat s hn (fun _ => (x, y)) (fun _ => h) p v fun i j C m _ _ => rule_flat x y i j p _ (cell_al2 _ _ _ _ _ _ hp)
  rw [HC.out]
  generalize pic s (gf (fun _ => (x, y)) (s * s)) = F at *
  generalize pic 0 zc = Z at *
  have HFI : Hid ((Try.prog.info? 33).map (·.size) = some F.size) := Lib.hid (by rw [HFW.out.1]; exact HS37.out)
  have HZF : Hid (Z.size = F.size) := Lib.hid (by rw [HFW.out.1]; exact HZ37.out)
  have HF1 := Lib.hid (finW_one HFW.out)
  clear HC
  go_enter Try.func13, Try.ntmps13
  go_wp2_with (first | (go_at_call 39; refine (isComplex_any _ _ _).mono ?_; rw [h]; rintro e w' ⟨rfl, n', rfl⟩) | (go_at_call 40; refine (isSide_any _ _).mono ?_; rw [hn]; rintro e w' ⟨rfl, rfl⟩) | (go_at_call 41; fail))
  have HP := HB.out (((w.alloc (.cells #[.complex .f32 x y] 30)).alloc (.cells Z 33)).drewN n') ⟨w.heap.size, 0, none⟩ (by rw [World.cell?_drewN, cell_of_row _ _ _ _ _ _ (h2_0 w (.cells #[.complex .f32 x y] 30) (.cells Z 33))]; rfl)
  have HG0 : Hid ((((w.alloc (.cells #[.complex .f32 x y] 30)).alloc (.cells Z 33)).drewN n').heap[w.heap.size + 1]? = some (.cells Z 33)) := Lib.hid (h2_1 w (.cells #[.complex .f32 x y] 30) (.cells Z 33))
  have HBB : Hid (Below w.heap.size w (((w.alloc (.cells #[.complex .f32 x y] 30)).alloc (.cells Z 33)).drewN n')) := Lib.hid (below_drewN (below_al2 _ _ _) _)
  have HLT : Hid (w.heap.size + 1 < (((w.alloc (.cells #[.complex .f32 x y] 30)).alloc (.cells Z 33)).drewN n').heap.size) := Lib.hid (Array.getElem?_eq_some_iff.1 HG0.out).1
  clear HB
  generalize ((w.alloc (.cells #[.complex .f32 x y] 30)).alloc (.cells Z 33)).drewN n' = v at *
  refine HP.mono ?_
  rintro e w1 ⟨rfl, b1⟩
  have G1 : Hid (w1.heap[w.heap.size + 1]? = some (.cells Z 33)) := Lib.hid (by rw [b1.block _ HLT.out]; exact HG0.out)
  have HB3 : Hid (Below w.heap.size w w1) := Lib.hid (HBB.out.trans (b1.mono (by have := HLT.out; omega)))
  clear b1 HG0 HBB HLT HP
  go_wp2_with (refine wpList_store_row rfl 33 (.tmp 4) (.tmp 17) rfl (w.heap.size + 1) F rfl rfl 33 Z G1.out HFI.out HZF.out HF1.out ?_)
  refine bodyPost_ret (v := .tuple #[.agg F, .int .i64 0]) (results_row_tmp (fn := Try.f13) (p := 4) (u := 5) (ty := 33) rfl _ _ (w.heap.size + 1) 33 F (0, 0) _ rfl (setRow_heap _ _ _ _ _ _ G1.out) Try.underlying33 rfl HFI.out) rfl ⟨rfl, ?_⟩
  exact below_setRow HB3.out (by omega) _

theorem implFlat_any (n : Int) (x y : Nat) (w : World) : Calls Try.prog 13 #[.int .i64 n, .complex .f32 x y] w fun e w' => e = .returned (flatAns n x y) ∧ Below w.heap.size w w' := by
  unfold flatAns
  cases h : fin x && fin y
  · exact implFlat_no n x y h w
  · cases hn : side n
    · exact implFlat_side n x y h hn w
    · obtain ⟨s, rfl⟩ : ∃ s : Nat, n = s := ⟨n.toNat, by rcases side_yes n hn with rfl | rfl | rfl | rfl <;> rfl⟩
      have := implFlat_yes s x y h hn w
      rw [show ((s : Int) * (s : Int)).toNat = s * s by rw [← Int.natCast_mul]; rfl]
      exact this
end Go.Proofs.Ytjmfffgddmnkmac
