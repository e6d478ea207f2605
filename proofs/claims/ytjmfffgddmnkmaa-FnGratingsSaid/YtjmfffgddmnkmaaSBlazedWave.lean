/- The model's BlazedWave: the wave that the document tells, or zeros and the code of a range. Condition: none. -/
import Derived.Test.YtjmfffgddmnkmaaS3
namespace Go.Proofs.Ytjmfffgddmnkmaa
open Go Go.RowKit

/-- are the arguments in their ranges? -/
def okBlazedWave (n p m : Int) : Bool := (side n) && (inside p (1) (n)) && (inside m (-64) (64))
/-- the cell at a place -/
def cellBlazedWave (s : Nat) (p m : Int) (i : Nat) : Nat × Nat := (tre ((m * ((i : Int) % s % p)) % 64).toNat, tim ((m * ((i : Int) % s % p)) % 64).toNat)

set_option maxRecDepth 100000 in
set_option maxHeartbeats 800000 in
theorem specBlazedWave_no0 (n p m : Int) (h0 : side n = false) (w : World) : Calls Try.prog 56 #[.int .i64 n, .int .i64 p, .int .i64 m] w fun e w' => e = .returned (.tuple #[.agg (pic 0 zc), .int .i64 2]) ∧ Below w.heap.size w w' := by
  have hz37 := (zero_of_info info37').1
  have HS37 := Lib.hid (zero_of_info info37').2
  have HZ37 : Hid ((pic 0 zc).size = 65) := Lib.hid (pic_size 0 zc zc_size)
  have HZ1 := Lib.hid (zc_one 0)
  have hne := pic_ne
  generalize pic 0 zc = Z at *
  have HZI : Hid ((Try.prog.info? 32).map (·.size) = some Z.size) := Lib.hid (by rw [HZ37.out]; exact HS37.out)
  go_enter Try.func56, Try.ntmps56
  go_wp2_with fail
  refine (l01Side_any _ _).mono ?_
  rw [h0]
  rintro e w' ⟨rfl, rfl⟩
  go_wp2_with (refine wpList_store_row rfl 32 (.tmp 6) (.tmp 24) rfl w.heap.size Z rfl rfl 32 Z (h1_0 _ _) HZI.out rfl HZ1.out ?_)
  refine bodyPost_ret (v := .tuple #[.agg Z, .int .i64 2]) (results_row_tmp (fn := Try.f56) (p := 6) (u := 7) (ty := 32) rfl _ _ w.heap.size 32 Z (0, 0) _ rfl (setRow_heap _ _ _ _ _ _ (h1_0 _ _)) Try.underlying32 rfl HZI.out) rfl ⟨rfl, ?_⟩
  exact below_setRow ((Below.refl _ _).alloc (Nat.le_refl _) _) (Nat.le_refl _) _

set_option maxRecDepth 100000 in
set_option maxHeartbeats 800000 in
theorem specBlazedWave_no1 (n p m : Int) (h0 : side n = true) (h1 : inside p (1) (n) = false) (w : World) : Calls Try.prog 56 #[.int .i64 n, .int .i64 p, .int .i64 m] w fun e w' => e = .returned (.tuple #[.agg (pic 0 zc), .int .i64 2]) ∧ Below w.heap.size w w' := by
  have hz37 := (zero_of_info info37').1
  have HS37 := Lib.hid (zero_of_info info37').2
  have HZ37 : Hid ((pic 0 zc).size = 65) := Lib.hid (pic_size 0 zc zc_size)
  have HZ1 := Lib.hid (zc_one 0)
  have hne := pic_ne
  generalize pic 0 zc = Z at *
  have HZI : Hid ((Try.prog.info? 32).map (·.size) = some Z.size) := Lib.hid (by rw [HZ37.out]; exact HS37.out)
  go_enter Try.func56, Try.ntmps56
  go_wp2_with fail
  refine (l01Side_any _ _).mono ?_
  rw [h0]
  rintro e w' ⟨rfl, rfl⟩
  go_wp2_with fail
  refine (l01In_gen _ _ _ _).mono ?_
  rw [h1]
  rintro e w' ⟨rfl, rfl⟩
  go_wp2_with (refine wpList_store_row rfl 32 (.tmp 6) (.tmp 24) rfl w.heap.size Z rfl rfl 32 Z (h1_0 _ _) HZI.out rfl HZ1.out ?_)
  refine bodyPost_ret (v := .tuple #[.agg Z, .int .i64 2]) (results_row_tmp (fn := Try.f56) (p := 6) (u := 7) (ty := 32) rfl _ _ w.heap.size 32 Z (0, 0) _ rfl (setRow_heap _ _ _ _ _ _ (h1_0 _ _)) Try.underlying32 rfl HZI.out) rfl ⟨rfl, ?_⟩
  exact below_setRow ((Below.refl _ _).alloc (Nat.le_refl _) _) (Nat.le_refl _) _

set_option maxRecDepth 100000 in
set_option maxHeartbeats 800000 in
theorem specBlazedWave_no2 (n p m : Int) (h0 : side n = true) (h1 : inside p (1) (n) = true) (h2 : inside m (-64) (64) = false) (w : World) : Calls Try.prog 56 #[.int .i64 n, .int .i64 p, .int .i64 m] w fun e w' => e = .returned (.tuple #[.agg (pic 0 zc), .int .i64 2]) ∧ Below w.heap.size w w' := by
  have hz37 := (zero_of_info info37').1
  have HS37 := Lib.hid (zero_of_info info37').2
  have HZ37 : Hid ((pic 0 zc).size = 65) := Lib.hid (pic_size 0 zc zc_size)
  have HZ1 := Lib.hid (zc_one 0)
  have hne := pic_ne
  generalize pic 0 zc = Z at *
  have HZI : Hid ((Try.prog.info? 32).map (·.size) = some Z.size) := Lib.hid (by rw [HZ37.out]; exact HS37.out)
  go_enter Try.func56, Try.ntmps56
  go_wp2_with fail
  refine (l01Side_any _ _).mono ?_
  rw [h0]
  rintro e w' ⟨rfl, rfl⟩
  go_wp2_with fail
  refine (l01In_gen _ _ _ _).mono ?_
  rw [h1]
  rintro e w' ⟨rfl, rfl⟩
  go_wp2_with fail
  refine (l01In_gen _ _ _ _).mono ?_
  rw [h2]
  rintro e w' ⟨rfl, rfl⟩
  go_wp2_with (refine wpList_store_row rfl 32 (.tmp 6) (.tmp 24) rfl w.heap.size Z rfl rfl 32 Z (h1_0 _ _) HZI.out rfl HZ1.out ?_)
  refine bodyPost_ret (v := .tuple #[.agg Z, .int .i64 2]) (results_row_tmp (fn := Try.f56) (p := 6) (u := 7) (ty := 32) rfl _ _ w.heap.size 32 Z (0, 0) _ rfl (setRow_heap _ _ _ _ _ _ (h1_0 _ _)) Try.underlying32 rfl HZI.out) rfl ⟨rfl, ?_⟩
  exact below_setRow ((Below.refl _ _).alloc (Nat.le_refl _) _) (Nat.le_refl _) _

set_option maxRecDepth 100000 in
set_option maxHeartbeats 2000000 in
theorem specBlazedWave_yes (s : Nat) (p m : Int) (hs : side s = true) (h0 : side (s : Int) = true) (h1 : inside p (1) ((s : Int)) = true) (h2 : inside m (-64) (64) = true) (w : World) :
    Calls Try.prog 56 #[.int .i64 s, .int .i64 p, .int .i64 m] w fun e w' => e = .returned (.tuple #[.agg (pic s (gf (cellBlazedWave s p m) (s * s))), .int .i64 0]) ∧ Below w.heap.size w w' := by
  have hz37 := (zero_of_info info37').1
  have HS37 := Lib.hid (zero_of_info info37').2
  have HZ37 : Hid ((pic 0 zc).size = 65) := Lib.hid (pic_size 0 zc zc_size)
  have HE37 : Hid ((pic s zc).size = 65) := Lib.hid (pic_size s zc zc_size)
  have HE1 : Hid ((pic s zc).all (·.oneCell') = true) := Lib.hid (zc_one s)
  have HEI : Hid ((Try.prog.info? 32).map (·.size) = some (pic s zc).size) := Lib.hid (by rw [HE37.out]; exact HS37.out)
  have HZE : Hid ((pic 0 zc).size = (pic s zc).size) := Lib.hid (by rw [HZ37.out, HE37.out])
  have HE := Lib.hid (empty_any s)
  have hne := pic_ne
  have hs8 : 1 ≤ s ∧ s ≤ 8 := by rcases side_nat s hs with rfl | rfl | rfl | rfl <;> omega
  have HPL : Hid (∀ y x, y < s → x < s → s * y + x < 64 ∧ s * y ≤ 56) := Lib.hid fun y x hy hx => place_lt s y x hs hy hx
  have HSS : Hid (s * s ≤ 64) := Lib.hid (sq_le s hs)
  have hp8 : 1 ≤ p ∧ p ≤ 8 := by
    simp [inside] at h1
    rcases side_yes (s : Int) h0 with e | e | e | e <;> omega
  have hk64 : -64 ≤ m ∧ m ≤ 64 := by simp [inside] at h2; omega
  have HF : Hid (∀ i : Nat, cellBlazedWave s p m i = (tre ((m * ((i : Int) % s % p)) % 64).toNat, tim ((m * ((i : Int) % s % p)) % 64).toNat)) := Lib.hid fun i => rfl
  generalize cellBlazedWave s p m = F at *
  obtain ⟨M, hM⟩ : ∃ M, M = s * s := ⟨_, rfl⟩
  have hM64 : M ≤ 64 := by rw [hM]; exact HSS.out
  have hwM : IntKind.i64.wrap ((s : Int) * (s : Int)) = (M : Int) := by rw [hM, ← Int.natCast_mul]; exact IntWalk.i64_in _ (by have := HSS.out; omega)
  rw [← hM]
  obtain ⟨E, hE⟩ : ∃ E, E = pic s zc := ⟨_, rfl⟩
  rw [← hE] at HE37 HE1 HEI HZE HE
  have HEE := Lib.hid hE
  generalize pic 0 zc = Z at *
  clear hE
  go_enter Try.func56, Try.ntmps56
  go_wp2_with fail
  refine (l01Side_any _ _).mono ?_
  rw [h0]
  rintro e w' ⟨rfl, rfl⟩
  go_wp2_with fail
  refine (l01In_gen _ _ _ _).mono ?_
  rw [h1]
  rintro e w' ⟨rfl, rfl⟩
  go_wp2_with fail
  refine (l01In_gen _ _ _ _).mono ?_
  rw [h2]
  rintro e w' ⟨rfl, rfl⟩
  clear h0 h1 h2
  go_wp2_with fail
  refine (HE.out _).mono ?_
  rintro e w' ⟨rfl, rfl⟩
  go_wp2_with (refine wpList_store_row rfl 32 (.tmp 8) (.tmp 26) rfl (w.heap.size + 1 + 1) E rfl rfl 32 Z (h3_2 w (.cells Z 32) (.cells E 32) (.cells Z 32)) HEI.out HZE.out HE1.out ?_)
  have GG : Hid (((((w.alloc (.cells Z 32)).alloc (.cells E 32)).alloc (.cells Z 32)).setRow (w.heap.size + 1 + 1) E).heap[w.heap.size + 1 + 1]? = some (.cells E 32 (0, 0))) := Lib.hid (setRow_heap _ _ _ _ _ _ (h3_2 w (.cells Z 32) (.cells E 32) (.cells Z 32)))
  have GZ : Hid (((((w.alloc (.cells Z 32)).alloc (.cells E 32)).alloc (.cells Z 32)).setRow (w.heap.size + 1 + 1) E).heap[w.heap.size]? = some (.cells Z 32 (0, 0))) := Lib.hid (by rw [heap_setRow_other _ _ _ _ (by omega)]; exact h3_0 w (.cells Z 32) (.cells E 32) (.cells Z 32))
  have BB : Hid (Below w.heap.size w ((((w.alloc (.cells Z 32)).alloc (.cells E 32)).alloc (.cells Z 32)).setRow (w.heap.size + 1 + 1) E)) := Lib.hid (below_setRow ((((Below.refl _ _).alloc (Nat.le_refl _) _).alloc (by rw [size_al]; omega) _).alloc (by rw [size_al, size_al]; omega) _) (by omega) _)
  generalize (((w.alloc (.cells Z 32)).alloc (.cells E 32)).alloc (.cells Z 32)).setRow (w.heap.size + 1 + 1) E = V at *
  clear HE HE37 HE1 HEI HZE hz37 hne
  go_loopw [9] (fun i wr => ∃ (k : Nat) (C : Array Value), k ≤ M ∧ i = .int .i64 k ∧ Hid (C = pic s (gf F (k))) ∧ Hid (wr.heap[w.heap.size + 1 + 1]? = some (.cells C 32 (0, 0))) ∧ Hid (wr.heap[w.heap.size]? = some (.cells Z 32 (0, 0))) ∧ Hid (Below w.heap.size w wr)) (fun i _ => M - (intOf i).toNat)
  case atStart => exact ⟨0, E, by omega, rfl, Lib.hid (by rw [HEE.out, gf_zero]), GG, GZ, BB⟩
  case round =>
    obtain ⟨k, C, hk, rfl, HC, G, Z0, B⟩ := hrel
    by_cases hlt : k < M
    · have hold : wr.cell? ⟨w.heap.size + 1 + 1, 1 + k, none⟩ = some (.complex .f32 0 0) := by
        rw [cell_of_row _ _ _ _ _ _ G.out, HC.out]; exact gf_old s F k (by omega)
      have hfree : wr.frozen? ⟨w.heap.size + 1 + 1, 1 + k, none⟩ = false := frozen_of_row _ _ _ _ _ G.out
      have hdk : decide ((k : Int) < (M : Int)) = true := by simp; omega
      have HFF := Lib.hid (HF.out k)
      have hr1 : (k : Int).tmod s = (k : Int) % s := Int.tmod_eq_emod_of_nonneg (by omega)
      have hr0 : 0 ≤ (k : Int) % s := Int.emod_nonneg _ (by omega)
      have hr3 : (k : Int) % s < s := Int.emod_lt_of_pos _ (by omega)
      generalize (k : Int) % s = r at *
      have hr2 : r.tmod p = r % p := Int.tmod_eq_emod_of_nonneg hr0
      have hr4 : 0 ≤ r % p := Int.emod_nonneg _ (by omega)
      have hr5 : r % p < p := Int.emod_lt_of_pos _ (by omega)
      generalize r % p = t at *
      have hkt := mul_small m t 64 8 hk64 (by omega)
      have hwk : IntKind.i64.wrap (m * t) = m * t := IntWalk.i64_in _ (by omega)
      have HPH := Lib.hid (spec_phase (m * t))
      generalize ((m * t) % 64).toNat = j at *
      have hF1 : (F k).1 = tre j := by rw [HFF.out]
      have hF2 : (F k).2 = tim j := by rw [HFF.out]
      have hs0 : (s : Int) ≠ 0 := by omega
      have hs00 : ((s : Int) == 0) = false := by simp; omega
      have hp0 : p ≠ 0 := by omega
      have hp00 : (p == 0) = false := by simp; omega
      have HSET : Hid (C.setIfInBounds (1 + k) (.complex .f32 (F k).1 (F k).2) = pic s (gf F (k + 1))) := Lib.hid (by rw [← gf_set s F k (by omega), HC.out])
      rw [hF1, hF2] at HSET
      generalize tre j = X at *
      generalize tim j = Y at *
      go_wp2_with fail
      refine (HPH.out _).mono ?_
      rintro e w' ⟨rfl, hw'⟩
      rw [← hw']
      clear hw' w'
      go_wp2_with fail
      refine ⟨⟨k + 1, C.setIfInBounds (1 + k) (.complex .f32 X Y), by omega, by go_num, Lib.hid (HSET.out), Lib.hid (heap_setCell_same _ _ _ _ _ _ G.out), Lib.hid (by rw [heap_setCell_other _ _ _ _ (by show w.heap.size ≠ w.heap.size + 1 + 1; omega)]; exact Z0.out), Lib.hid (B.out.setCell (by show w.heap.size ≤ w.heap.size + 1 + 1; omega) _)⟩, by simp [intOf]; omega⟩
    · obtain rfl : k = M := by omega
      have HC1 : Hid (C.all (·.oneCell') = true) := Lib.hid (by rw [HC.out]; exact gf_wav_one _ _ _)
      have HCI : Hid ((Try.prog.info? 32).map (·.size) = some C.size) := Lib.hid (by rw [HC.out, pic_size _ _ (gf_size _ _)]; exact HS37.out)
      have HZC : Hid (Z.size = C.size) := Lib.hid (by rw [HC.out, pic_size _ _ (gf_size _ _)]; exact HZ37.out)
      go_wp2_with (first | (refine wpList_load_row rfl 32 (.tmp 8) rfl (w.heap.size + 1 + 1) rfl 32 C (0, 0) _ G.out Try.underlying32 rfl HCI.out ?_) | (refine wpList_store_row rfl 32 (.tmp 6) (.tmp 45) rfl w.heap.size C rfl rfl 32 Z Z0.out HCI.out HZC.out HC1.out ?_))
      refine bodyPost_ret (v := .tuple #[.agg C, .int .i64 0]) (results_row_tmp (fn := Try.f56) (p := 6) (u := 7) (ty := 32) rfl _ _ w.heap.size 32 C (0, 0) _ rfl (setRow_heap _ _ _ _ _ _ Z0.out) Try.underlying32 rfl HCI.out) rfl ⟨by rw [HC.out], ?_⟩
      exact below_setRow B.out (Nat.le_refl _) _

/-- the answer that is asked: side, cells, code -/
def ansBlazedWave (n p m : Int) : Int × Array Value × Int := if okBlazedWave n p m = true then (n, gf (cellBlazedWave n.toNat p m) (n.toNat * n.toNat), 0) else (0, zc, 2)
theorem ansBlazedWave_yes (n p m : Int) (h : okBlazedWave n p m = true) : ansBlazedWave n p m = (n, gf (cellBlazedWave n.toNat p m) (n.toNat * n.toNat), 0) := by
  unfold ansBlazedWave
  rw [if_pos h]
theorem ansBlazedWave_no (n p m : Int) (h : okBlazedWave n p m = false) : ansBlazedWave n p m = (0, zc, 2) := by
  unfold ansBlazedWave
  rw [if_neg (by rw [h]; decide)]
theorem cellBlazedWave_fin (s : Nat) (p m : Int) (i : Nat) : (fin (cellBlazedWave s p m i).1 && fin (cellBlazedWave s p m i).2) = true := by
  unfold cellBlazedWave
  exact tab_fin2 _ (by omega)
theorem ansBlazedWave_cells (n p m : Int) : Cells (ansBlazedWave n p m).2.1 := by
  cases h : okBlazedWave n p m
  · rw [ansBlazedWave_no n p m h]; exact zc_cells3
  · rw [ansBlazedWave_yes n p m h]; exact gf_cells (cellBlazedWave n.toNat p m) (cellBlazedWave_fin _ _ _) _
theorem ansBlazedWave_one (n p m : Int) : (pic (ansBlazedWave n p m).1 (ansBlazedWave n p m).2.1).all (·.oneCell') = true := by
  cases h : okBlazedWave n p m
  · rw [ansBlazedWave_no n p m h]; exact zc_one 0
  · rw [ansBlazedWave_yes n p m h]; exact gf_wav_one _ _ _
theorem specBlazedWave_any (n p m : Int) (w : World) : Calls Try.prog 56 #[.int .i64 n, .int .i64 p, .int .i64 m] w fun e w' => e = .returned (.tuple #[.agg (pic (ansBlazedWave n p m).1 (ansBlazedWave n p m).2.1), .int .i64 (ansBlazedWave n p m).2.2]) ∧ Below w.heap.size w w' := by
  cases h0 : side n
  · rw [ansBlazedWave_no n p m (by unfold okBlazedWave; rw [h0]; rfl)]
    exact specBlazedWave_no0 n p m h0 w
  cases h1 : inside p (1) (n)
  · rw [ansBlazedWave_no n p m (by unfold okBlazedWave; rw [h0, h1]; rfl)]
    exact specBlazedWave_no1 n p m h0 h1 w
  cases h2 : inside m (-64) (64)
  · rw [ansBlazedWave_no n p m (by unfold okBlazedWave; rw [h0, h1, h2]; rfl)]
    exact specBlazedWave_no2 n p m h0 h1 h2 w
  have hsd : side n = true := h0
  obtain ⟨s, rfl⟩ : ∃ s : Nat, n = s := ⟨n.toNat, by rcases side_yes n hsd with rfl | rfl | rfl | rfl <;> rfl⟩
  rw [ansBlazedWave_yes s p m (by unfold okBlazedWave; rw [h0, h1, h2]; rfl)]
  exact specBlazedWave_yes s p m hsd h0 h1 h2 w
end Go.Proofs.Ytjmfffgddmnkmaa
