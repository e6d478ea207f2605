/- The model's flat wave. Condition: none. -/
import Derived.Test.YtjmfffgddmnkmaaSCe
namespace Go.Proofs.Ytjmfffgddmnkmaa
open Go Go.RowKit

/-- k cells with one number, the others 0 -/
def flat (x y k : Nat) : Array Value := Array.ofFn (n := 64) fun i => if i.val < k then .complex .f32 x y else .complex .f32 0 0
theorem flat_get (x y k i : Nat) : (flat x y k)[i]? = if i < 64 then some (if i < k then .complex .f32 x y else .complex .f32 0 0) else none := by
  simp only [flat, Array.getElem?_ofFn]
  by_cases h : i < 64 <;> simp [h]
theorem flat_size (x y k : Nat) : (flat x y k).size = 64 := by simp [flat]
theorem flat_zero (x y : Nat) : flat x y 0 = zc := by
  apply Array.ext_getElem?
  intro i
  rw [flat_get]
  by_cases h : i < 64 <;> simp [h, zc]
theorem flat_set (s : Int) (x y k : Nat) (hk : k < 64) : (pic s (flat x y k)).setIfInBounds (1 + k) (.complex .f32 x y) = pic s (flat x y (k + 1)) := by
  apply Array.ext_getElem?
  intro i
  rw [Array.getElem?_setIfInBounds]
  cases i with
  | zero => simp [pic_zero]
  | succ i =>
    rw [pic_succ, pic_succ, flat_get, flat_get, pic_size _ _ (flat_size _ _ _)]
    by_cases e : k = i
    · subst e
      simp [Nat.add_comm, hk]
    · have e1 : ¬ 1 + k = i + 1 := by omega
      have e2 : (i < k + 1) = (i < k) := by apply propext; omega
      simp [e1, e2]
theorem wav_flat (s : Int) (x y k : Nat) : Wav s (pic s (flat x y k)) := by
  refine ⟨pic_size _ _ (flat_size _ _ _), pic_zero _ _, fun i hi => ?_⟩
  rw [Nat.add_comm, pic_succ, flat_get, if_pos hi]
  by_cases h : i < k
  · rw [if_pos h]; exact ⟨_, _, rfl⟩
  · rw [if_neg h]; exact ⟨_, _, rfl⟩

def flatAns (n : Int) (x y : Nat) : Value :=
  if fin x && fin y then
    if side n then .tuple #[.agg (pic n (flat x y (n * n).toNat)), .int .i64 0] else .tuple #[.agg (pic 0 zc), .int .i64 2]
  else .tuple #[.agg (pic 0 zc), .int .i64 1]

set_option maxRecDepth 100000 in
set_option maxHeartbeats 800000 in
theorem specFlat_no (n : Int) (x y : Nat) (h : (fin x && fin y) = false) (w : World) : Calls Try.prog 28 #[.int .i64 n, .complex .f32 x y] w fun e w' => e = .returned (.tuple #[.agg (pic 0 zc), .int .i64 1]) ∧ Below w.heap.size w w' := by
  have hz37 := (zero_of_info info37').1
  have HS37 := Lib.hid (zero_of_info info37').2
  have HZ37 : Hid ((pic 0 zc).size = 65) := Lib.hid (pic_size 0 zc zc_size)
  have HZ1 := Lib.hid (zc_one 0)
  generalize pic 0 zc = Z at *
  go_enter Try.func28, Try.ntmps28
  have HZI : Hid ((Try.prog.info? 32).map (·.size) = some Z.size) := Lib.hid (by rw [HZ37.out]; exact HS37.out)
  go_wp2_with (first | (go_at_call 81; refine (whole_any _ _ _).mono ?_; rw [h]; rintro e w' ⟨rfl, n', rfl⟩) | (refine wpList_store_row rfl 32 (.tmp 4) (.tmp 12) rfl w.heap.size Z rfl rfl 32 Z (h1_0 _ _) HZI.out rfl HZ1.out ?_))
  refine bodyPost_ret (v := .tuple #[.agg Z, .int .i64 1]) (results_row_tmp (fn := Try.f28) (p := 4) (u := 5) (ty := 32) rfl _ _ w.heap.size 32 Z (0, 0) _ rfl (setRow_heap _ _ _ _ _ _ (h1_0 _ _)) Try.underlying32 rfl HZI.out) rfl ⟨rfl, ?_⟩
  exact below_setRow (below_drewN ((Below.refl _ _).alloc (Nat.le_refl _) _) _) (Nat.le_refl _) _
set_option maxRecDepth 100000 in
set_option maxHeartbeats 800000 in
theorem specFlat_side (n : Int) (x y : Nat) (h : (fin x && fin y) = true) (hn : side n = false) (w : World) : Calls Try.prog 28 #[.int .i64 n, .complex .f32 x y] w fun e w' => e = .returned (.tuple #[.agg (pic 0 zc), .int .i64 2]) ∧ Below w.heap.size w w' := by
  have hz37 := (zero_of_info info37').1
  have HS37 := Lib.hid (zero_of_info info37').2
  have HZ37 : Hid ((pic 0 zc).size = 65) := Lib.hid (pic_size 0 zc zc_size)
  have HZ1 := Lib.hid (zc_one 0)
  generalize pic 0 zc = Z at *
  go_enter Try.func28, Try.ntmps28
  have HZI : Hid ((Try.prog.info? 32).map (·.size) = some Z.size) := Lib.hid (by rw [HZ37.out]; exact HS37.out)
  go_wp2_with (first | (go_at_call 81; refine (whole_any _ _ _).mono ?_; rw [h]; rintro e w' ⟨rfl, n', rfl⟩) | (go_at_call 74; refine (l01Side_any _ _).mono ?_; rw [hn]; rintro e w' ⟨rfl, rfl⟩) | (refine wpList_store_row rfl 32 (.tmp 4) (.tmp 17) rfl w.heap.size Z rfl rfl 32 Z (h1_0 _ _) HZI.out rfl HZ1.out ?_))
  refine bodyPost_ret (v := .tuple #[.agg Z, .int .i64 2]) (results_row_tmp (fn := Try.f28) (p := 4) (u := 5) (ty := 32) rfl _ _ w.heap.size 32 Z (0, 0) _ rfl (setRow_heap _ _ _ _ _ _ (h1_0 _ _)) Try.underlying32 rfl HZI.out) rfl ⟨rfl, ?_⟩
  exact below_setRow (below_drewN ((Below.refl _ _).alloc (Nat.le_refl _) _) _) (Nat.le_refl _) _
set_option maxRecDepth 100000 in
set_option maxHeartbeats 800000 in
theorem specFlat_yes (n : Int) (x y : Nat) (h : (fin x && fin y) = true) (hn : side n = true) (w : World) : Calls Try.prog 28 #[.int .i64 n, .complex .f32 x y] w fun e w' => e = .returned (.tuple #[.agg (pic n (flat x y (n * n).toNat)), .int .i64 0]) ∧ Below w.heap.size w w' := by
  have hz37 := (zero_of_info info37').1
  have HS37 := Lib.hid (zero_of_info info37').2
  have HZ37 : Hid ((pic 0 zc).size = 65) := Lib.hid (pic_size 0 zc zc_size)
  have HE37 : Hid ((pic n zc).size = 65) := Lib.hid (pic_size n zc zc_size)
  have HE1 : Hid ((pic n zc).all (·.oneCell') = true) := Lib.hid (zc_one n)
  have HEI : Hid ((Try.prog.info? 32).map (·.size) = some (pic n zc).size) := Lib.hid (by rw [HE37.out]; exact HS37.out)
  have HZE : Hid ((pic 0 zc).size = (pic n zc).size) := Lib.hid (by rw [HZ37.out, HE37.out])
  have HE := Lib.hid (empty_any n)
  obtain ⟨E, hE⟩ : ∃ E, E = pic n zc := ⟨_, rfl⟩
  rw [← hE] at HE37 HE1 HEI HZE HE
  have HEE := Lib.hid hE
  generalize pic 0 zc = Z at *
  clear hE
  obtain ⟨N, hN, hN64, hNs⟩ : ∃ N : Nat, IntKind.i64.wrap (n * n) = (N : Int) ∧ N ≤ 64 ∧ (n * n).toNat = N := by
    rcases side_yes n hn with rfl | rfl | rfl | rfl
    · exact ⟨1, rfl, by omega, rfl⟩
    · exact ⟨4, rfl, by omega, rfl⟩
    · exact ⟨16, rfl, by omega, rfl⟩
    · exact ⟨64, rfl, by omega, rfl⟩
  rw [hNs]
  clear hNs
  go_enter Try.func28, Try.ntmps28
  go_wp2_with (first | (go_at_call 81; refine (whole_any _ _ _).mono ?_; rw [h]; rintro e w' ⟨rfl, n', rfl⟩) | (go_at_call 74; refine (l01Side_any _ _).mono ?_; rw [hn]; rintro e w' ⟨rfl, rfl⟩) | (go_at_call 82; refine (HE.out _).mono ?_; rintro e w' ⟨rfl, rfl⟩) | (refine wpList_store_row rfl 32 (.tmp 6) (.tmp 19) rfl (w.heap.size + 1 + 1) E rfl rfl 32 Z (h3_2 w (.cells Z 32) (.cells E 32) (.cells Z 32)) HEI.out HZE.out HE1.out ?_))
  have GG : Hid ((((((w.alloc (.cells Z 32)).drewN n').alloc (.cells E 32)).alloc (.cells Z 32)).setRow (w.heap.size + 1 + 1) E).heap[w.heap.size + 1 + 1]? = some (.cells E 32 (0, 0))) := Lib.hid (setRow_heap _ _ _ _ _ _ (h3_2 w (.cells Z 32) (.cells E 32) (.cells Z 32)))
  have GZ : Hid ((((((w.alloc (.cells Z 32)).drewN n').alloc (.cells E 32)).alloc (.cells Z 32)).setRow (w.heap.size + 1 + 1) E).heap[w.heap.size]? = some (.cells Z 32 (0, 0))) := Lib.hid (by rw [heap_setRow_other _ _ _ _ (by omega)]; exact h3_0 w (.cells Z 32) (.cells E 32) (.cells Z 32))
  have BB : Hid (Below w.heap.size w (((((w.alloc (.cells Z 32)).drewN n').alloc (.cells E 32)).alloc (.cells Z 32)).setRow (w.heap.size + 1 + 1) E)) := Lib.hid (below_setRow (((below_drewN ((Below.refl _ _).alloc (Nat.le_refl _) _) _).alloc (by show w.heap.size ≤ (w.alloc (.cells Z 32)).heap.size; rw [size_al]; omega) _).alloc (by rw [size_al]; show w.heap.size ≤ (w.alloc (.cells Z 32)).heap.size + 1; rw [size_al]; omega) _) (by omega) _)
  generalize ((((w.alloc (.cells Z 32)).drewN n').alloc (.cells E 32)).alloc (.cells Z 32)).setRow (w.heap.size + 1 + 1) E = W at *
  go_loopw [7] (fun i wr => ∃ (k : Nat) (C : Array Value), k ≤ N ∧ i = .int .i64 k ∧ Hid (C = pic n (flat x y k)) ∧ Hid (wr.heap[w.heap.size + 1 + 1]? = some (.cells C 32 (0, 0))) ∧ Hid (wr.heap[w.heap.size]? = some (.cells Z 32 (0, 0))) ∧ Hid (Below w.heap.size w wr)) (fun i _ => N - (intOf i).toNat)
  case atStart => exact ⟨0, E, by omega, rfl, Lib.hid (by rw [HEE.out, flat_zero]), GG, GZ, BB⟩
  case round =>
    obtain ⟨k, C, hk, rfl, HC, G, Z0, B⟩ := hrel
    by_cases hlt : k < N
    · have hold : wr.cell? ⟨w.heap.size + 1 + 1, 1 + k, none⟩ = some (.complex .f32 0 0) := by
        rw [cell_of_row _ _ _ _ _ _ G.out, HC.out, Nat.add_comm, pic_succ, flat_get, if_pos (by omega), if_neg (by omega)]
      have hfree : wr.frozen? ⟨w.heap.size + 1 + 1, 1 + k, none⟩ = false := frozen_of_row _ _ _ _ _ G.out
      go_wp2_with fail
      refine ⟨⟨k + 1, C.setIfInBounds (1 + k) (.complex .f32 x y), by omega, by go_num, Lib.hid (by rw [HC.out]; exact flat_set n x y k (by omega)), Lib.hid (heap_setCell_same _ _ _ _ _ _ G.out), Lib.hid (by rw [heap_setCell_other _ _ _ _ (by show w.heap.size ≠ w.heap.size + 1 + 1; omega)]; exact Z0.out), Lib.hid (B.out.setCell (by show w.heap.size ≤ w.heap.size + 1 + 1; omega) _)⟩, by show N - ((k : Int) + 1).toNat < N - (k : Int).toNat; omega⟩
    · obtain rfl : k = N := by omega
      have HC1 : Hid (C.all (·.oneCell') = true) := Lib.hid (by rw [HC.out]; exact wav_one (wav_flat n x y k))
      have HCI : Hid ((Try.prog.info? 32).map (·.size) = some C.size) := Lib.hid (by rw [HC.out, (wav_flat n x y k).1]; exact HS37.out)
      have HZC : Hid (Z.size = C.size) := Lib.hid (by rw [HC.out, (wav_flat n x y k).1]; exact HZ37.out)
      go_wp2_with (first | (refine wpList_load_row rfl 32 (.tmp 6) rfl (w.heap.size + 1 + 1) rfl 32 C (0, 0) _ G.out Try.underlying32 rfl HCI.out ?_) | (refine wpList_store_row rfl 32 (.tmp 4) (.tmp 31) rfl w.heap.size C rfl rfl 32 Z Z0.out HCI.out HZC.out HC1.out ?_))
      refine bodyPost_ret (v := .tuple #[.agg C, .int .i64 0]) (results_row_tmp (fn := Try.f28) (p := 4) (u := 5) (ty := 32) rfl _ _ w.heap.size 32 C (0, 0) _ rfl (setRow_heap _ _ _ _ _ _ Z0.out) Try.underlying32 rfl HCI.out) rfl ⟨by rw [HC.out], ?_⟩
      exact below_setRow B.out (Nat.le_refl _) _

theorem specFlat_any (n : Int) (x y : Nat) (w : World) : Calls Try.prog 28 #[.int .i64 n, .complex .f32 x y] w fun e w' => e = .returned (flatAns n x y) ∧ Below w.heap.size w w' := by
  unfold flatAns
  cases h : fin x && fin y
  · exact specFlat_no n x y h w
  · cases hn : side n
    · exact specFlat_side n x y h hn w
    · exact specFlat_yes n x y h hn w
end Go.Proofs.Ytjmfffgddmnkmaa
