/- The model's GratingMask: the wave that the document tells, or zeros and the code of a range. Condition: none. -/
import Derived.Test.YtjmfffgddmnkmaaS3
namespace Go.Proofs.Ytjmfffgddmnkmaa
open Go Go.RowKit

/-- are the arguments in their ranges? -/
def okGratingMask (n p q : Int) : Bool := (side n) && (inside p (1) (n)) && (inside q (0) (p))
/-- the cell at a place -/
def cellGratingMask (s : Nat) (p q : Int) (i : Nat) : Nat × Nat := mark (decide ((i : Int) % s % p < q))

set_option maxRecDepth 100000 in
set_option maxHeartbeats 800000 in
theorem specGratingMask_no0 (n p q : Int) (h0 : side n = false) (w : World) : Calls Try.prog 47 #[.int .i64 n, .int .i64 p, .int .i64 q] w fun e w' => e = .returned (.tuple #[.agg (pic 0 zc), .int .i64 2]) ∧ Below w.heap.size w w' := by
  have hz37 := (zero_of_info info37').1
  have HS37 := Lib.hid (zero_of_info info37').2
  have HZ37 : Hid ((pic 0 zc).size = 65) := Lib.hid (pic_size 0 zc zc_size)
  have HZ1 := Lib.hid (zc_one 0)
  have hne := pic_ne
  generalize pic 0 zc = Z at *
  have HZI : Hid ((Try.prog.info? 32).map (·.size) = some Z.size) := Lib.hid (by rw [HZ37.out]; exact HS37.out)
  go_enter Try.func47, Try.ntmps47
  go_wp2_with fail
  refine (l01Side_any _ _).mono ?_
  rw [h0]
  rintro e w' ⟨rfl, rfl⟩
  go_wp2_with (refine wpList_store_row rfl 32 (.tmp 6) (.tmp 25) rfl w.heap.size Z rfl rfl 32 Z (h1_0 _ _) HZI.out rfl HZ1.out ?_)
  refine bodyPost_ret (v := .tuple #[.agg Z, .int .i64 2]) (results_row_tmp (fn := Try.f47) (p := 6) (u := 7) (ty := 32) rfl _ _ w.heap.size 32 Z (0, 0) _ rfl (setRow_heap _ _ _ _ _ _ (h1_0 _ _)) Try.underlying32 rfl HZI.out) rfl ⟨rfl, ?_⟩
  exact below_setRow ((Below.refl _ _).alloc (Nat.le_refl _) _) (Nat.le_refl _) _

set_option maxRecDepth 100000 in
set_option maxHeartbeats 800000 in
theorem specGratingMask_no1 (n p q : Int) (h0 : side n = true) (h1 : inside p (1) (n) = false) (w : World) : Calls Try.prog 47 #[.int .i64 n, .int .i64 p, .int .i64 q] w fun e w' => e = .returned (.tuple #[.agg (pic 0 zc), .int .i64 2]) ∧ Below w.heap.size w w' := by
  have hz37 := (zero_of_info info37').1
  have HS37 := Lib.hid (zero_of_info info37').2
  have HZ37 : Hid ((pic 0 zc).size = 65) := Lib.hid (pic_size 0 zc zc_size)
  have HZ1 := Lib.hid (zc_one 0)
  have hne := pic_ne
  generalize pic 0 zc = Z at *
  have HZI : Hid ((Try.prog.info? 32).map (·.size) = some Z.size) := Lib.hid (by rw [HZ37.out]; exact HS37.out)
  go_enter Try.func47, Try.ntmps47
  go_wp2_with fail
  refine (l01Side_any _ _).mono ?_
  rw [h0]
  rintro e w' ⟨rfl, rfl⟩
  go_wp2_with fail
  refine (l01In_gen _ _ _ _).mono ?_
  rw [h1]
  rintro e w' ⟨rfl, rfl⟩
  go_wp2_with (refine wpList_store_row rfl 32 (.tmp 6) (.tmp 25) rfl w.heap.size Z rfl rfl 32 Z (h1_0 _ _) HZI.out rfl HZ1.out ?_)
  refine bodyPost_ret (v := .tuple #[.agg Z, .int .i64 2]) (results_row_tmp (fn := Try.f47) (p := 6) (u := 7) (ty := 32) rfl _ _ w.heap.size 32 Z (0, 0) _ rfl (setRow_heap _ _ _ _ _ _ (h1_0 _ _)) Try.underlying32 rfl HZI.out) rfl ⟨rfl, ?_⟩
  exact below_setRow ((Below.refl _ _).alloc (Nat.le_refl _) _) (Nat.le_refl _) _

set_option maxRecDepth 100000 in
set_option maxHeartbeats 800000 in
theorem specGratingMask_no2 (n p q : Int) (h0 : side n = true) (h1 : inside p (1) (n) = true) (h2 : inside q (0) (p) = false) (w : World) : Calls Try.prog 47 #[.int .i64 n, .int .i64 p, .int .i64 q] w fun e w' => e = .returned (.tuple #[.agg (pic 0 zc), .int .i64 2]) ∧ Below w.heap.size w w' := by
  have hz37 := (zero_of_info info37').1
  have HS37 := Lib.hid (zero_of_info info37').2
  have HZ37 : Hid ((pic 0 zc).size = 65) := Lib.hid (pic_size 0 zc zc_size)
  have HZ1 := Lib.hid (zc_one 0)
  have hne := pic_ne
  generalize pic 0 zc = Z at *
  have HZI : Hid ((Try.prog.info? 32).map (·.size) = some Z.size) := Lib.hid (by rw [HZ37.out]; exact HS37.out)
  go_enter Try.func47, Try.ntmps47
  go_wp2_with fail
  refine (l01Side_any _ _).mono ?_
  rw [h0]
  rintro e w' ⟨rfl, rfl⟩
  go_wp2_with fail
  refine (l01In_gen _ _ _ _).mono ?_
  rw [h1]
  rintro e w' ⟨rfl, rfl⟩
  go_wp2_with fail
  refine (l01In_gen _ _ _ _).mono ?_
  rw [h2]
  rintro e w' ⟨rfl, rfl⟩
  go_wp2_with (refine wpList_store_row rfl 32 (.tmp 6) (.tmp 25) rfl w.heap.size Z rfl rfl 32 Z (h1_0 _ _) HZI.out rfl HZ1.out ?_)
  refine bodyPost_ret (v := .tuple #[.agg Z, .int .i64 2]) (results_row_tmp (fn := Try.f47) (p := 6) (u := 7) (ty := 32) rfl _ _ w.heap.size 32 Z (0, 0) _ rfl (setRow_heap _ _ _ _ _ _ (h1_0 _ _)) Try.underlying32 rfl HZI.out) rfl ⟨rfl, ?_⟩
  exact below_setRow ((Below.refl _ _).alloc (Nat.le_refl _) _) (Nat.le_refl _) _

set_option maxRecDepth 100000 in
set_option maxHeartbeats 2000000 in
theorem specGratingMask_yes (s : Nat) (p q : Int) (hs : side s = true) (h0 : side (s : Int) = true) (h1 : inside p (1) ((s : Int)) = true) (h2 : inside q (0) (p) = true) (w : World) :
    Calls Try.prog 47 #[.int .i64 s, .int .i64 p, .int .i64 q] w fun e w' => e = .returned (.tuple #[.agg (pic s (gf (cellGratingMask s p q) (s * s))), .int .i64 0]) ∧ Below w.heap.size w w' := by
  have hz37 := (zero_of_info info37').1
  have HS37 := Lib.hid (zero_of_info info37').2
  have HZ37 : Hid ((pic 0 zc).size = 65) := Lib.hid (pic_size 0 zc zc_size)
  have HE37 : Hid ((pic s zc).size = 65) := Lib.hid (pic_size s zc zc_size)
  have HE1 : Hid ((pic s zc).all (·.oneCell') = true) := Lib.hid (zc_one s)
  have HEI : Hid ((Try.prog.info? 32).map (·.size) = some (pic s zc).size) := Lib.hid (by rw [HE37.out]; exact HS37.out)
  have HZE : Hid ((pic 0 zc).size = (pic s zc).size) := Lib.hid (by rw [HZ37.out, HE37.out])
  have HE := Lib.hid (empty_any s)
  have hne := pic_ne
  have hs8 : 1 ≤ s ∧ s ≤ 8 := by rcases side_nat s hs with rfl | rfl | rfl | rfl <;> omega
  have HPL : Hid (∀ y x, y < s → x < s → s * y + x < 64 ∧ s * y ≤ 56) := Lib.hid fun y x hy hx => place_lt s y x hs hy hx
  have HSS : Hid (s * s ≤ 64) := Lib.hid (sq_le s hs)
  have hp8 : 1 ≤ p ∧ p ≤ 8 := by
    simp [inside] at h1
    rcases side_yes (s : Int) h0 with e | e | e | e <;> omega
  have HF : Hid (∀ k : Nat, cellGratingMask s p q k = mark (decide ((k : Int) % s % p < q))) := Lib.hid fun k => rfl
  generalize cellGratingMask s p q = F at *
  obtain ⟨M, hM⟩ : ∃ M, M = s * s := ⟨_, rfl⟩
  have hM64 : M ≤ 64 := by rw [hM]; exact HSS.out
  have hwM : IntKind.i64.wrap ((s : Int) * (s : Int)) = (M : Int) := by rw [hM, ← Int.natCast_mul]; exact IntWalk.i64_in _ (by have := HSS.out; omega)
  rw [← hM]
  obtain ⟨E, hE⟩ : ∃ E, E = pic s zc := ⟨_, rfl⟩
  rw [← hE] at HE37 HE1 HEI HZE HE
  have HEE := Lib.hid hE
  generalize pic 0 zc = Z at *
  clear hE
  go_enter Try.func47, Try.ntmps47
  go_wp2_with fail
  refine (l01Side_any _ _).mono ?_
  rw [h0]
  rintro e w' ⟨rfl, rfl⟩
  go_wp2_with fail
  refine (l01In_gen _ _ _ _).mono ?_
  rw [h1]
  rintro e w' ⟨rfl, rfl⟩
  go_wp2_with fail
  refine (l01In_gen _ _ _ _).mono ?_
  rw [h2]
  rintro e w' ⟨rfl, rfl⟩
  clear h0 h1 h2
  go_wp2_with fail
  refine (HE.out _).mono ?_
  rintro e w' ⟨rfl, rfl⟩
  go_wp2_with (refine wpList_store_row rfl 32 (.tmp 8) (.tmp 27) rfl (w.heap.size + 1 + 1) E rfl rfl 32 Z (h3_2 w (.cells Z 32) (.cells E 32) (.cells Z 32)) HEI.out HZE.out HE1.out ?_)
  have GG : Hid (((((w.alloc (.cells Z 32)).alloc (.cells E 32)).alloc (.cells Z 32)).setRow (w.heap.size + 1 + 1) E).heap[w.heap.size + 1 + 1]? = some (.cells E 32 (0, 0))) := Lib.hid (setRow_heap _ _ _ _ _ _ (h3_2 w (.cells Z 32) (.cells E 32) (.cells Z 32)))
  have GZ : Hid (((((w.alloc (.cells Z 32)).alloc (.cells E 32)).alloc (.cells Z 32)).setRow (w.heap.size + 1 + 1) E).heap[w.heap.size]? = some (.cells Z 32 (0, 0))) := Lib.hid (by rw [heap_setRow_other _ _ _ _ (by omega)]; exact h3_0 w (.cells Z 32) (.cells E 32) (.cells Z 32))
  have BB : Hid (Below w.heap.size w ((((w.alloc (.cells Z 32)).alloc (.cells E 32)).alloc (.cells Z 32)).setRow (w.heap.size + 1 + 1) E)) := Lib.hid (below_setRow ((((Below.refl _ _).alloc (Nat.le_refl _) _).alloc (by rw [size_al]; omega) _).alloc (by rw [size_al, size_al]; omega) _) (by omega) _)
  generalize (((w.alloc (.cells Z 32)).alloc (.cells E 32)).alloc (.cells Z 32)).setRow (w.heap.size + 1 + 1) E = V at *
  clear HE HE37 HE1 HEI HZE hz37 hne
  go_loopw [9] (fun i wr => ∃ (k : Nat) (C : Array Value), k ≤ M ∧ i = .int .i64 k ∧ Hid (C = pic s (gf F (k))) ∧ Hid (wr.heap[w.heap.size + 1 + 1]? = some (.cells C 32 (0, 0))) ∧ Hid (wr.heap[w.heap.size]? = some (.cells Z 32 (0, 0))) ∧ Hid (Below w.heap.size w wr)) (fun i _ => M - (intOf i).toNat)
  case atStart => exact ⟨0, E, by omega, rfl, Lib.hid (by rw [HEE.out, gf_zero]), GG, GZ, BB⟩
  case round =>
    obtain ⟨k, C, hk, rfl, HC, G, Z0, B⟩ := hrel
    by_cases hlt : k < M
    · have hold : wr.cell? ⟨w.heap.size + 1 + 1, 1 + k, none⟩ = some (.complex .f32 0 0) := by
        rw [cell_of_row _ _ _ _ _ _ G.out, HC.out]; exact gf_old s F k (by omega)
      have hfree : wr.frozen? ⟨w.heap.size + 1 + 1, 1 + k, none⟩ = false := frozen_of_row _ _ _ _ _ G.out
      have hdk : decide ((k : Int) < (M : Int)) = true := by simp; omega
      have HFF := Lib.hid (HF.out k)
      have hr1 : (k : Int).tmod s = (k : Int) % s := Int.tmod_eq_emod_of_nonneg (by omega)
      have hr0 : 0 ≤ (k : Int) % s := Int.emod_nonneg _ (by omega)
      have hr3 : (k : Int) % s < s := Int.emod_lt_of_pos _ (by omega)
      generalize (k : Int) % s = r at *
      have hr2 : r.tmod p = r % p := Int.tmod_eq_emod_of_nonneg hr0
      have hr4 : 0 ≤ r % p := Int.emod_nonneg _ (by omega)
      have hr5 : r % p < p := Int.emod_lt_of_pos _ (by omega)
      generalize r % p = t at *
      have hs0 : (s : Int) ≠ 0 := by omega
      have hs00 : ((s : Int) == 0) = false := by simp; omega
      have hp0 : p ≠ 0 := by omega
      have hp00 : (p == 0) = false := by simp; omega
      cases hb : decide (t < q)
      · rw [hb] at HFF
        go_wp2
        exact ⟨⟨k + 1, C, by omega, by go_num, Lib.hid (by rw [HC.out, gf_skip F k HFF.out]), G, Z0, B⟩, by simp [intOf]; omega⟩
      · rw [hb] at HFF
        have HSET : Hid (C.setIfInBounds (1 + k) (.complex .f32 1065353216 0) = pic s (gf F (k + 1))) := Lib.hid (by rw [← gf_set s F k (by omega), HC.out, HFF.out]; rfl)
        go_wp2
        refine ⟨⟨k + 1, C.setIfInBounds (1 + k) (.complex .f32 1065353216 0), by omega, by go_num, Lib.hid (HSET.out), Lib.hid (heap_setCell_same _ _ _ _ _ _ G.out), Lib.hid (by rw [heap_setCell_other _ _ _ _ (by show w.heap.size ≠ w.heap.size + 1 + 1; omega)]; exact Z0.out), Lib.hid (B.out.setCell (by show w.heap.size ≤ w.heap.size + 1 + 1; omega) _)⟩, by simp [intOf]; omega⟩
    · obtain rfl : k = M := by omega
      have HC1 : Hid (C.all (·.oneCell') = true) := Lib.hid (by rw [HC.out]; exact gf_wav_one _ _ _)
      have HCI : Hid ((Try.prog.info? 32).map (·.size) = some C.size) := Lib.hid (by rw [HC.out, pic_size _ _ (gf_size _ _)]; exact HS37.out)
      have HZC : Hid (Z.size = C.size) := Lib.hid (by rw [HC.out, pic_size _ _ (gf_size _ _)]; exact HZ37.out)
      go_wp2_with (first | (refine wpList_load_row rfl 32 (.tmp 8) rfl (w.heap.size + 1 + 1) rfl 32 C (0, 0) _ G.out Try.underlying32 rfl HCI.out ?_) | (refine wpList_store_row rfl 32 (.tmp 6) (.tmp 45) rfl w.heap.size C rfl rfl 32 Z Z0.out HCI.out HZC.out HC1.out ?_))
      refine bodyPost_ret (v := .tuple #[.agg C, .int .i64 0]) (results_row_tmp (fn := Try.f47) (p := 6) (u := 7) (ty := 32) rfl _ _ w.heap.size 32 C (0, 0) _ rfl (setRow_heap _ _ _ _ _ _ Z0.out) Try.underlying32 rfl HCI.out) rfl ⟨by rw [HC.out], ?_⟩
      exact below_setRow B.out (Nat.le_refl _) _

/-- the answer that is asked: side, cells, code -/
def ansGratingMask (n p q : Int) : Int × Array Value × Int := if okGratingMask n p q = true then (n, gf (cellGratingMask n.toNat p q) (n.toNat * n.toNat), 0) else (0, zc, 2)
theorem ansGratingMask_yes (n p q : Int) (h : okGratingMask n p q = true) : ansGratingMask n p q = (n, gf (cellGratingMask n.toNat p q) (n.toNat * n.toNat), 0) := by
  unfold ansGratingMask
  rw [if_pos h]
theorem ansGratingMask_no (n p q : Int) (h : okGratingMask n p q = false) : ansGratingMask n p q = (0, zc, 2) := by
  unfold ansGratingMask
  rw [if_neg (by rw [h]; decide)]
theorem cellGratingMask_fin (s : Nat) (p q : Int) (i : Nat) : (fin (cellGratingMask s p q i).1 && fin (cellGratingMask s p q i).2) = true := by
  unfold cellGratingMask
  exact mark_fin _
theorem ansGratingMask_cells (n p q : Int) : Cells (ansGratingMask n p q).2.1 := by
  cases h : okGratingMask n p q
  · rw [ansGratingMask_no n p q h]; exact zc_cells3
  · rw [ansGratingMask_yes n p q h]; exact gf_cells (cellGratingMask n.toNat p q) (cellGratingMask_fin _ _ _) _
theorem ansGratingMask_one (n p q : Int) : (pic (ansGratingMask n p q).1 (ansGratingMask n p q).2.1).all (·.oneCell') = true := by
  cases h : okGratingMask n p q
  · rw [ansGratingMask_no n p q h]; exact zc_one 0
  · rw [ansGratingMask_yes n p q h]; exact gf_wav_one _ _ _
theorem specGratingMask_any (n p q : Int) (w : World) : Calls Try.prog 47 #[.int .i64 n, .int .i64 p, .int .i64 q] w fun e w' => e = .returned (.tuple #[.agg (pic (ansGratingMask n p q).1 (ansGratingMask n p q).2.1), .int .i64 (ansGratingMask n p q).2.2]) ∧ Below w.heap.size w w' := by
  cases h0 : side n
  · rw [ansGratingMask_no n p q (by unfold okGratingMask; rw [h0]; rfl)]
    exact specGratingMask_no0 n p q h0 w
  cases h1 : inside p (1) (n)
  · rw [ansGratingMask_no n p q (by unfold okGratingMask; rw [h0, h1]; rfl)]
    exact specGratingMask_no1 n p q h0 h1 w
  cases h2 : inside q (0) (p)
  · rw [ansGratingMask_no n p q (by unfold okGratingMask; rw [h0, h1, h2]; rfl)]
    exact specGratingMask_no2 n p q h0 h1 h2 w
  have hsd : side n = true := h0
  obtain ⟨s, rfl⟩ : ∃ s : Nat, n = s := ⟨n.toNat, by rcases side_yes n hsd with rfl | rfl | rfl | rfl <;> rfl⟩
  rw [ansGratingMask_yes s p q (by unfold okGratingMask; rw [h0, h1, h2]; rfl)]
  exact specGratingMask_yes s p q hsd h0 h1 h2 w
end Go.Proofs.Ytjmfffgddmnkmaa
