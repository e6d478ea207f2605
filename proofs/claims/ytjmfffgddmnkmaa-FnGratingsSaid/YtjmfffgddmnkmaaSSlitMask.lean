/- The model's SlitMask: the wave that the document tells, or zeros and the code of a range. Condition: none. -/
import Derived.Test.YtjmfffgddmnkmaaS3
namespace Go.Proofs.Ytjmfffgddmnkmaa
open Go Go.RowKit

/-- are the arguments in their ranges? -/
def okSlitMask (n x d : Int) : Bool := (side n) && (inside x (0) (n - 1)) && (inside d (0) (n - x))
/-- the cell at a place -/
def cellSlitMask (s : Nat) (x d : Int) (i : Nat) : Nat × Nat := mark (decide (x ≤ ((i % s : Nat) : Int)) && decide (((i % s : Nat) : Int) < x + d))

set_option maxRecDepth 100000 in
set_option maxHeartbeats 800000 in
theorem specSlitMask_no0 (n x d : Int) (h0 : side n = false) (w : World) : Calls Try.prog 38 #[.int .i64 n, .int .i64 x, .int .i64 d] w fun e w' => e = .returned (.tuple #[.agg (pic 0 zc), .int .i64 2]) ∧ Below w.heap.size w w' := by
  have hz37 := (zero_of_info info37').1
  have HS37 := Lib.hid (zero_of_info info37').2
  have HZ37 : Hid ((pic 0 zc).size = 65) := Lib.hid (pic_size 0 zc zc_size)
  have HZ1 := Lib.hid (zc_one 0)
  have hne := pic_ne
  generalize pic 0 zc = Z at *
  have HZI : Hid ((Try.prog.info? 32).map (·.size) = some Z.size) := Lib.hid (by rw [HZ37.out]; exact HS37.out)
  go_enter Try.func38, Try.ntmps38
  go_wp2_with fail
  refine (l01Side_any _ _).mono ?_
  rw [h0]
  rintro e w' ⟨rfl, rfl⟩
  go_wp2_with (refine wpList_store_row rfl 32 (.tmp 6) (.tmp 29) rfl w.heap.size Z rfl rfl 32 Z (h1_0 _ _) HZI.out rfl HZ1.out ?_)
  refine bodyPost_ret (v := .tuple #[.agg Z, .int .i64 2]) (results_row_tmp (fn := Try.f38) (p := 6) (u := 7) (ty := 32) rfl _ _ w.heap.size 32 Z (0, 0) _ rfl (setRow_heap _ _ _ _ _ _ (h1_0 _ _)) Try.underlying32 rfl HZI.out) rfl ⟨rfl, ?_⟩
  exact below_setRow ((Below.refl _ _).alloc (Nat.le_refl _) _) (Nat.le_refl _) _

set_option maxRecDepth 100000 in
set_option maxHeartbeats 800000 in
theorem specSlitMask_no1 (n x d : Int) (h0 : side n = true) (h1 : inside x (0) (n - 1) = false) (w : World) : Calls Try.prog 38 #[.int .i64 n, .int .i64 x, .int .i64 d] w fun e w' => e = .returned (.tuple #[.agg (pic 0 zc), .int .i64 2]) ∧ Below w.heap.size w w' := by
  have hz37 := (zero_of_info info37').1
  have HS37 := Lib.hid (zero_of_info info37').2
  have HZ37 : Hid ((pic 0 zc).size = 65) := Lib.hid (pic_size 0 zc zc_size)
  have HZ1 := Lib.hid (zc_one 0)
  have hne := pic_ne
  have hn8 : 1 ≤ n ∧ n ≤ 8 := by rcases side_yes n h0 with e | e | e | e <;> omega
  have e1 : IntKind.i64.wrap (n - 1) = n - 1 := IntWalk.i64_in _ (by omega)
  generalize pic 0 zc = Z at *
  have HZI : Hid ((Try.prog.info? 32).map (·.size) = some Z.size) := Lib.hid (by rw [HZ37.out]; exact HS37.out)
  go_enter Try.func38, Try.ntmps38
  go_wp2_with fail
  refine (l01Side_any _ _).mono ?_
  rw [h0]
  rintro e w' ⟨rfl, rfl⟩
  go_wp2_with fail
  refine (l01In_gen _ _ _ _).mono ?_
  rw [h1]
  rintro e w' ⟨rfl, rfl⟩
  go_wp2_with (refine wpList_store_row rfl 32 (.tmp 6) (.tmp 29) rfl w.heap.size Z rfl rfl 32 Z (h1_0 _ _) HZI.out rfl HZ1.out ?_)
  refine bodyPost_ret (v := .tuple #[.agg Z, .int .i64 2]) (results_row_tmp (fn := Try.f38) (p := 6) (u := 7) (ty := 32) rfl _ _ w.heap.size 32 Z (0, 0) _ rfl (setRow_heap _ _ _ _ _ _ (h1_0 _ _)) Try.underlying32 rfl HZI.out) rfl ⟨rfl, ?_⟩
  exact below_setRow ((Below.refl _ _).alloc (Nat.le_refl _) _) (Nat.le_refl _) _

set_option maxRecDepth 100000 in
set_option maxHeartbeats 800000 in
theorem specSlitMask_no2 (n x d : Int) (h0 : side n = true) (h1 : inside x (0) (n - 1) = true) (h2 : inside d (0) (n - x) = false) (w : World) : Calls Try.prog 38 #[.int .i64 n, .int .i64 x, .int .i64 d] w fun e w' => e = .returned (.tuple #[.agg (pic 0 zc), .int .i64 2]) ∧ Below w.heap.size w w' := by
  have hz37 := (zero_of_info info37').1
  have HS37 := Lib.hid (zero_of_info info37').2
  have HZ37 : Hid ((pic 0 zc).size = 65) := Lib.hid (pic_size 0 zc zc_size)
  have HZ1 := Lib.hid (zc_one 0)
  have hne := pic_ne
  have hn8 : 1 ≤ n ∧ n ≤ 8 := by rcases side_yes n h0 with e | e | e | e <;> omega
  have e1 : IntKind.i64.wrap (n - 1) = n - 1 := IntWalk.i64_in _ (by omega)
  have hx8 : 0 ≤ x ∧ x ≤ n - 1 := by simp [inside] at h1; omega
  have e2 : IntKind.i64.wrap (n - x) = n - x := IntWalk.i64_in _ (by omega)
  generalize pic 0 zc = Z at *
  have HZI : Hid ((Try.prog.info? 32).map (·.size) = some Z.size) := Lib.hid (by rw [HZ37.out]; exact HS37.out)
  go_enter Try.func38, Try.ntmps38
  go_wp2_with fail
  refine (l01Side_any _ _).mono ?_
  rw [h0]
  rintro e w' ⟨rfl, rfl⟩
  go_wp2_with fail
  refine (l01In_gen _ _ _ _).mono ?_
  rw [h1]
  rintro e w' ⟨rfl, rfl⟩
  go_wp2_with fail
  refine (l01In_gen _ _ _ _).mono ?_
  rw [h2]
  rintro e w' ⟨rfl, rfl⟩
  go_wp2_with (refine wpList_store_row rfl 32 (.tmp 6) (.tmp 29) rfl w.heap.size Z rfl rfl 32 Z (h1_0 _ _) HZI.out rfl HZ1.out ?_)
  refine bodyPost_ret (v := .tuple #[.agg Z, .int .i64 2]) (results_row_tmp (fn := Try.f38) (p := 6) (u := 7) (ty := 32) rfl _ _ w.heap.size 32 Z (0, 0) _ rfl (setRow_heap _ _ _ _ _ _ (h1_0 _ _)) Try.underlying32 rfl HZI.out) rfl ⟨rfl, ?_⟩
  exact below_setRow ((Below.refl _ _).alloc (Nat.le_refl _) _) (Nat.le_refl _) _

set_option maxRecDepth 100000 in
set_option maxHeartbeats 2000000 in
theorem specSlitMask_yes (s : Nat) (x d : Int) (hs : side s = true) (h0 : side (s : Int) = true) (h1 : inside x (0) ((s : Int) - 1) = true) (h2 : inside d (0) ((s : Int) - x) = true) (w : World) :
    Calls Try.prog 38 #[.int .i64 s, .int .i64 x, .int .i64 d] w fun e w' => e = .returned (.tuple #[.agg (pic s (gf (cellSlitMask s x d) (s * s))), .int .i64 0]) ∧ Below w.heap.size w w' := by
  have hz37 := (zero_of_info info37').1
  have HS37 := Lib.hid (zero_of_info info37').2
  have HZ37 : Hid ((pic 0 zc).size = 65) := Lib.hid (pic_size 0 zc zc_size)
  have HE37 : Hid ((pic s zc).size = 65) := Lib.hid (pic_size s zc zc_size)
  have HE1 : Hid ((pic s zc).all (·.oneCell') = true) := Lib.hid (zc_one s)
  have HEI : Hid ((Try.prog.info? 32).map (·.size) = some (pic s zc).size) := Lib.hid (by rw [HE37.out]; exact HS37.out)
  have HZE : Hid ((pic 0 zc).size = (pic s zc).size) := Lib.hid (by rw [HZ37.out, HE37.out])
  have HE := Lib.hid (empty_any s)
  have hne := pic_ne
  have hs8 : 1 ≤ s ∧ s ≤ 8 := by rcases side_nat s hs with rfl | rfl | rfl | rfl <;> omega
  have HPL : Hid (∀ y x, y < s → x < s → s * y + x < 64 ∧ s * y ≤ 56) := Lib.hid fun y x hy hx => place_lt s y x hs hy hx
  have HSS : Hid (s * s ≤ 64) := Lib.hid (sq_le s hs)
  have hn8 : 1 ≤ (s : Int) ∧ (s : Int) ≤ 8 := by rcases side_yes (s : Int) h0 with e | e | e | e <;> omega
  have e1 : IntKind.i64.wrap ((s : Int) - 1) = (s : Int) - 1 := IntWalk.i64_in _ (by omega)
  have hx8 : 0 ≤ x ∧ x ≤ (s : Int) - 1 := by simp [inside] at h1; omega
  have e2 : IntKind.i64.wrap ((s : Int) - x) = (s : Int) - x := IntWalk.i64_in _ (by omega)
  have hd8 : 0 ≤ d ∧ d ≤ (s : Int) - x := by simp [inside] at h2; omega
  have e3 : IntKind.i64.wrap (x + d) = x + d := IntWalk.i64_in _ (by omega)
  obtain ⟨x', rfl⟩ : ∃ x' : Nat, x = x' := ⟨x.toNat, by omega⟩
  obtain ⟨d', rfl⟩ : ∃ d' : Nat, d = d' := ⟨d.toNat, by omega⟩
  have HF : Hid (∀ y k : Nat, y < s → k < s → cellSlitMask s x' d' (s * y + k) = mark (decide ((x' : Int) ≤ (k : Int)) && decide ((k : Int) < (x' : Int) + (d' : Int)))) := Lib.hid fun y k _ hx => by
    obtain ⟨e1, e2⟩ := place_at s y k hx
    unfold cellSlitMask
    rw [e2]
  generalize cellSlitMask s x' d' = F at *
  obtain ⟨E, hE⟩ : ∃ E, E = pic s zc := ⟨_, rfl⟩
  rw [← hE] at HE37 HE1 HEI HZE HE
  have HEE := Lib.hid hE
  generalize pic 0 zc = Z at *
  clear hE
  go_enter Try.func38, Try.ntmps38
  go_wp2_with fail
  refine (l01Side_any _ _).mono ?_
  rw [h0]
  rintro e w' ⟨rfl, rfl⟩
  go_wp2_with fail
  refine (l01In_gen _ _ _ _).mono ?_
  rw [h1]
  rintro e w' ⟨rfl, rfl⟩
  go_wp2_with fail
  refine (l01In_gen _ _ _ _).mono ?_
  rw [h2]
  rintro e w' ⟨rfl, rfl⟩
  clear h0 h1 h2
  go_wp2_with fail
  refine (HE.out _).mono ?_
  rintro e w' ⟨rfl, rfl⟩
  go_wp2_with (refine wpList_store_row rfl 32 (.tmp 8) (.tmp 31) rfl (w.heap.size + 1 + 1) E rfl rfl 32 Z (h3_2 w (.cells Z 32) (.cells E 32) (.cells Z 32)) HEI.out HZE.out HE1.out ?_)
  have GG : Hid (((((w.alloc (.cells Z 32)).alloc (.cells E 32)).alloc (.cells Z 32)).setRow (w.heap.size + 1 + 1) E).heap[w.heap.size + 1 + 1]? = some (.cells E 32 (0, 0))) := Lib.hid (setRow_heap _ _ _ _ _ _ (h3_2 w (.cells Z 32) (.cells E 32) (.cells Z 32)))
  have GZ : Hid (((((w.alloc (.cells Z 32)).alloc (.cells E 32)).alloc (.cells Z 32)).setRow (w.heap.size + 1 + 1) E).heap[w.heap.size]? = some (.cells Z 32 (0, 0))) := Lib.hid (by rw [heap_setRow_other _ _ _ _ (by omega)]; exact h3_0 w (.cells Z 32) (.cells E 32) (.cells Z 32))
  have BB : Hid (Below w.heap.size w ((((w.alloc (.cells Z 32)).alloc (.cells E 32)).alloc (.cells Z 32)).setRow (w.heap.size + 1 + 1) E)) := Lib.hid (below_setRow ((((Below.refl _ _).alloc (Nat.le_refl _) _).alloc (by rw [size_al]; omega) _).alloc (by rw [size_al, size_al]; omega) _) (by omega) _)
  generalize (((w.alloc (.cells Z 32)).alloc (.cells E 32)).alloc (.cells Z 32)).setRow (w.heap.size + 1 + 1) E = V at *
  clear HE HE37 HE1 HEI HZE hz37 hne
  go_loopw [9] (fun i wr => ∃ (y : Nat) (C : Array Value), y ≤ s ∧ i = .int .i64 y ∧ Hid (C = pic s (gf F (s * y))) ∧ Hid (wr.heap[w.heap.size + 1 + 1]? = some (.cells C 32 (0, 0))) ∧ Hid (wr.heap[w.heap.size]? = some (.cells Z 32 (0, 0))) ∧ Hid (Below w.heap.size w wr)) (fun i _ => s - (intOf i).toNat)
  case atStart => exact ⟨0, E, by omega, rfl, Lib.hid (by rw [HEE.out, Nat.mul_zero, gf_zero]), GG, GZ, BB⟩
  case round =>
    obtain ⟨y, C, hy, rfl, HC, G, Z0, B⟩ := hrel
    by_cases hlt : y < s
    · have hdy : decide ((y : Int) < (s : Int)) = true := by simp; omega
      have HROW : Hid (∀ k, k < s → (k < x' ∨ x' + d' ≤ k) → F (s * y + k) = (0, 0)) := Lib.hid fun k hk h => by
        rw [HF.out y k hlt hk]
        rcases h with h | h
        · rw [show decide ((x' : Int) ≤ (k : Int)) = false by simp; omega]; rfl
        · rw [show decide ((k : Int) < (x' : Int) + (d' : Int)) = false by simp; omega, Bool.and_false]; rfl
      have HIN : Hid (∀ k, k < s → x' ≤ k → k < x' + d' → F (s * y + k) = one32) := Lib.hid fun k hk h1 h2 => by
        rw [HF.out y k hlt hk, show decide ((x' : Int) ≤ (k : Int)) = true by simp; omega, show decide ((k : Int) < (x' : Int) + (d' : Int)) = true by simp; omega]
        rfl
      have HFROM : Hid (C = pic s (gf F (s * y + x'))) := Lib.hid (by
        rw [HC.out, gf_skips F (s * y) (s * y + x') (by omega) (fun i h1 h2 => by
          have := HROW.out (i - s * y) (by omega) (.inl (by omega))
          rwa [show s * y + (i - s * y) = i by omega] at this)])
      go_wp2
      go_loopw [10] (fun i wr => ∃ (k : Nat) (D : Array Value), x' ≤ k ∧ k ≤ x' + d' ∧ i = .int .i64 k ∧ Hid (D = pic s (gf F (s * y + k))) ∧ Hid (wr.heap[w.heap.size + 1 + 1]? = some (.cells D 32 (0, 0))) ∧ Hid (wr.heap[w.heap.size]? = some (.cells Z 32 (0, 0))) ∧ Hid (Below w.heap.size w wr)) (fun i _ => x' + d' - (intOf i).toNat)
      case atStart => exact ⟨x', C, by omega, by omega, rfl, HFROM, G, Z0, B⟩
      case round =>
        obtain ⟨k, D, hk0, hk1, rfl, HD, G, Z0, B⟩ := hrel
        by_cases hlt2 : k < x' + d'
        · have hdx : decide ((k : Int) < (x' : Int) + (d' : Int)) = true := by simp; omega
          obtain ⟨hk, hk'⟩ := HPL.out y k hlt (by omega)
          have hw1 : IntKind.i64.wrap ((s : Int) * (y : Int)) = ((s * y : Nat) : Int) := by rw [← Int.natCast_mul]; exact IntWalk.i64_in _ (by omega)
          have hold : wr.cell? ⟨w.heap.size + 1 + 1, 1 + (s * y + k), none⟩ = some (.complex .f32 0 0) := by
            rw [cell_of_row _ _ _ _ _ _ G.out, HD.out]; exact gf_old s F (s * y + k) hk
          have hfree : wr.frozen? ⟨w.heap.size + 1 + 1, 1 + (s * y + k), none⟩ = false := frozen_of_row _ _ _ _ _ G.out
          have HSET : Hid (D.setIfInBounds (1 + (s * y + k)) (.complex .f32 1065353216 0) = pic s (gf F (s * y + k + 1))) := Lib.hid (by
            rw [← gf_set s F _ hk, HIN.out k (by omega) hk0 hlt2, HD.out, one32])
          generalize s * y = p at *
          have hw2 : IntKind.i64.wrap ((p : Int) + (k : Int)) = ((p + k : Nat) : Int) := by rw [Int.natCast_add]; exact IntWalk.i64_in _ (by omega)
          have HQ := Lib.hid (show p + k + 1 = p + (k + 1) by omega)
          have hq : ((p + k : Nat) : Int) < 64 := by omega
          generalize hkk : p + k = j at *
          go_wp2
          refine ⟨⟨k + 1, D.setIfInBounds (1 + j) (.complex .f32 1065353216 0), by omega, by omega, by go_num, Lib.hid (by rw [← HQ.out]; exact HSET.out), Lib.hid (heap_setCell_same _ _ _ _ _ _ G.out), Lib.hid (by rw [heap_setCell_other _ _ _ _ (by show w.heap.size ≠ w.heap.size + 1 + 1; omega)]; exact Z0.out), Lib.hid (B.out.setCell (by show w.heap.size ≤ w.heap.size + 1 + 1; omega) _)⟩, by simp [intOf]; omega⟩
        · obtain rfl : k = x' + d' := by omega
          have hdx : decide (((x' + d' : Nat) : Int) < (x' : Int) + (d' : Int)) = false := decide_eq_false (by omega)
          go_wp2
          exact ⟨⟨y + 1, D, by omega, by go_num, Lib.hid (by
            rw [HD.out, Nat.mul_succ, gf_skips F (s * y + (x' + d')) (s * y + s) (by omega) (fun i h1 h2 => by
              have := HROW.out (i - s * y) (by omega) (.inr (by omega))
              rwa [show s * y + (i - s * y) = i by omega] at this)]), G, Z0, B⟩, by simp [intOf]; omega⟩
    · obtain rfl : y = s := by omega
      have HC1 : Hid (C.all (·.oneCell') = true) := Lib.hid (by rw [HC.out]; exact gf_wav_one _ _ _)
      have HCI : Hid ((Try.prog.info? 32).map (·.size) = some C.size) := Lib.hid (by rw [HC.out, pic_size _ _ (gf_size _ _)]; exact HS37.out)
      have HZC : Hid (Z.size = C.size) := Lib.hid (by rw [HC.out, pic_size _ _ (gf_size _ _)]; exact HZ37.out)
      go_wp2_with (first | (refine wpList_load_row rfl 32 (.tmp 8) rfl (w.heap.size + 1 + 1) rfl 32 C (0, 0) _ G.out Try.underlying32 rfl HCI.out ?_) | (refine wpList_store_row rfl 32 (.tmp 6) (.tmp 52) rfl w.heap.size C rfl rfl 32 Z Z0.out HCI.out HZC.out HC1.out ?_))
      refine bodyPost_ret (v := .tuple #[.agg C, .int .i64 0]) (results_row_tmp (fn := Try.f38) (p := 6) (u := 7) (ty := 32) rfl _ _ w.heap.size 32 C (0, 0) _ rfl (setRow_heap _ _ _ _ _ _ Z0.out) Try.underlying32 rfl HCI.out) rfl ⟨by rw [HC.out], ?_⟩
      exact below_setRow B.out (Nat.le_refl _) _

/-- the answer that is asked: side, cells, code -/
def ansSlitMask (n x d : Int) : Int × Array Value × Int := if okSlitMask n x d = true then (n, gf (cellSlitMask n.toNat x d) (n.toNat * n.toNat), 0) else (0, zc, 2)
theorem ansSlitMask_yes (n x d : Int) (h : okSlitMask n x d = true) : ansSlitMask n x d = (n, gf (cellSlitMask n.toNat x d) (n.toNat * n.toNat), 0) := by
  unfold ansSlitMask
  rw [if_pos h]
theorem ansSlitMask_no (n x d : Int) (h : okSlitMask n x d = false) : ansSlitMask n x d = (0, zc, 2) := by
  unfold ansSlitMask
  rw [if_neg (by rw [h]; decide)]
theorem cellSlitMask_fin (s : Nat) (x d : Int) (i : Nat) : (fin (cellSlitMask s x d i).1 && fin (cellSlitMask s x d i).2) = true := by
  unfold cellSlitMask
  exact mark_fin _
theorem ansSlitMask_cells (n x d : Int) : Cells (ansSlitMask n x d).2.1 := by
  cases h : okSlitMask n x d
  · rw [ansSlitMask_no n x d h]; exact zc_cells3
  · rw [ansSlitMask_yes n x d h]; exact gf_cells (cellSlitMask n.toNat x d) (cellSlitMask_fin _ _ _) _
theorem ansSlitMask_one (n x d : Int) : (pic (ansSlitMask n x d).1 (ansSlitMask n x d).2.1).all (·.oneCell') = true := by
  cases h : okSlitMask n x d
  · rw [ansSlitMask_no n x d h]; exact zc_one 0
  · rw [ansSlitMask_yes n x d h]; exact gf_wav_one _ _ _
theorem specSlitMask_any (n x d : Int) (w : World) : Calls Try.prog 38 #[.int .i64 n, .int .i64 x, .int .i64 d] w fun e w' => e = .returned (.tuple #[.agg (pic (ansSlitMask n x d).1 (ansSlitMask n x d).2.1), .int .i64 (ansSlitMask n x d).2.2]) ∧ Below w.heap.size w w' := by
  cases h0 : side n
  · rw [ansSlitMask_no n x d (by unfold okSlitMask; rw [h0]; rfl)]
    exact specSlitMask_no0 n x d h0 w
  cases h1 : inside x (0) (n - 1)
  · rw [ansSlitMask_no n x d (by unfold okSlitMask; rw [h0, h1]; rfl)]
    exact specSlitMask_no1 n x d h0 h1 w
  cases h2 : inside d (0) (n - x)
  · rw [ansSlitMask_no n x d (by unfold okSlitMask; rw [h0, h1, h2]; rfl)]
    exact specSlitMask_no2 n x d h0 h1 h2 w
  have hsd : side n = true := h0
  obtain ⟨s, rfl⟩ : ∃ s : Nat, n = s := ⟨n.toNat, by rcases side_yes n hsd with rfl | rfl | rfl | rfl <;> rfl⟩
  rw [ansSlitMask_yes s x d (by unfold okSlitMask; rw [h0, h1, h2]; rfl)]
  exact specSlitMask_yes s x d hsd h0 h1 h2 w
end Go.Proofs.Ytjmfffgddmnkmaa
