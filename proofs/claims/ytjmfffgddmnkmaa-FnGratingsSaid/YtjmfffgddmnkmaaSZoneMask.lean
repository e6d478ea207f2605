/- The model's ZoneMask: the wave that the document tells, or zeros and the code of a range. Condition: none. -/
import Derived.Test.YtjmfffgddmnkmaaS3
namespace Go.Proofs.Ytjmfffgddmnkmaa
open Go Go.RowKit

/-- are the arguments in their ranges? -/
def okZoneMask (n v u q : Int) : Bool := (centre n v u) && (inside q (1) (1000))
/-- the cell at a place -/
def cellZoneMask (s : Nat) (v u q : Int) (i : Nat) : Nat × Nat := mark (dist (i / s) (i % s) v u / q % 2 == 0)

set_option maxRecDepth 100000 in
set_option maxHeartbeats 800000 in
theorem specZoneMask_no0 (n v u q : Int) (h0 : centre n v u = false) (w : World) : Calls Try.prog 53 #[.int .i64 n, .int .i64 v, .int .i64 u, .int .i64 q] w fun e w' => e = .returned (.tuple #[.agg (pic 0 zc), .int .i64 2]) ∧ Below w.heap.size w w' := by
  have hz37 := (zero_of_info info37').1
  have HS37 := Lib.hid (zero_of_info info37').2
  have HZ37 : Hid ((pic 0 zc).size = 65) := Lib.hid (pic_size 0 zc zc_size)
  have HZ1 := Lib.hid (zc_one 0)
  have hne := pic_ne
  generalize pic 0 zc = Z at *
  have HZI : Hid ((Try.prog.info? 32).map (·.size) = some Z.size) := Lib.hid (by rw [HZ37.out]; exact HS37.out)
  go_enter Try.func53, Try.ntmps53
  go_wp2_with fail
  refine (centre_any _ _ _ _).mono ?_
  rw [h0]
  rintro e w' ⟨rfl, rfl⟩
  go_wp2_with (refine wpList_store_row rfl 32 (.tmp 8) (.tmp 23) rfl w.heap.size Z rfl rfl 32 Z (h1_0 _ _) HZI.out rfl HZ1.out ?_)
  refine bodyPost_ret (v := .tuple #[.agg Z, .int .i64 2]) (results_row_tmp (fn := Try.f53) (p := 8) (u := 9) (ty := 32) rfl _ _ w.heap.size 32 Z (0, 0) _ rfl (setRow_heap _ _ _ _ _ _ (h1_0 _ _)) Try.underlying32 rfl HZI.out) rfl ⟨rfl, ?_⟩
  exact below_setRow ((Below.refl _ _).alloc (Nat.le_refl _) _) (Nat.le_refl _) _

set_option maxRecDepth 100000 in
set_option maxHeartbeats 800000 in
theorem specZoneMask_no1 (n v u q : Int) (h0 : centre n v u = true) (h1 : inside q (1) (1000) = false) (w : World) : Calls Try.prog 53 #[.int .i64 n, .int .i64 v, .int .i64 u, .int .i64 q] w fun e w' => e = .returned (.tuple #[.agg (pic 0 zc), .int .i64 2]) ∧ Below w.heap.size w w' := by
  have hz37 := (zero_of_info info37').1
  have HS37 := Lib.hid (zero_of_info info37').2
  have HZ37 : Hid ((pic 0 zc).size = 65) := Lib.hid (pic_size 0 zc zc_size)
  have HZ1 := Lib.hid (zc_one 0)
  have hne := pic_ne
  generalize pic 0 zc = Z at *
  have HZI : Hid ((Try.prog.info? 32).map (·.size) = some Z.size) := Lib.hid (by rw [HZ37.out]; exact HS37.out)
  go_enter Try.func53, Try.ntmps53
  go_wp2_with fail
  refine (centre_any _ _ _ _).mono ?_
  rw [h0]
  rintro e w' ⟨rfl, rfl⟩
  go_wp2_with fail
  refine (l01In_gen _ _ _ _).mono ?_
  rw [h1]
  rintro e w' ⟨rfl, rfl⟩
  go_wp2_with (refine wpList_store_row rfl 32 (.tmp 8) (.tmp 23) rfl w.heap.size Z rfl rfl 32 Z (h1_0 _ _) HZI.out rfl HZ1.out ?_)
  refine bodyPost_ret (v := .tuple #[.agg Z, .int .i64 2]) (results_row_tmp (fn := Try.f53) (p := 8) (u := 9) (ty := 32) rfl _ _ w.heap.size 32 Z (0, 0) _ rfl (setRow_heap _ _ _ _ _ _ (h1_0 _ _)) Try.underlying32 rfl HZI.out) rfl ⟨rfl, ?_⟩
  exact below_setRow ((Below.refl _ _).alloc (Nat.le_refl _) _) (Nat.le_refl _) _

set_option maxRecDepth 100000 in
set_option maxHeartbeats 2000000 in
theorem specZoneMask_yes (s : Nat) (v u q : Int) (hs : side s = true) (h0 : centre (s : Int) v u = true) (h1 : inside q (1) (1000) = true) (w : World) :
    Calls Try.prog 53 #[.int .i64 s, .int .i64 v, .int .i64 u, .int .i64 q] w fun e w' => e = .returned (.tuple #[.agg (pic s (gf (cellZoneMask s v u q) (s * s))), .int .i64 0]) ∧ Below w.heap.size w w' := by
  have hz37 := (zero_of_info info37').1
  have HS37 := Lib.hid (zero_of_info info37').2
  have HZ37 : Hid ((pic 0 zc).size = 65) := Lib.hid (pic_size 0 zc zc_size)
  have HE37 : Hid ((pic s zc).size = 65) := Lib.hid (pic_size s zc zc_size)
  have HE1 : Hid ((pic s zc).all (·.oneCell') = true) := Lib.hid (zc_one s)
  have HEI : Hid ((Try.prog.info? 32).map (·.size) = some (pic s zc).size) := Lib.hid (by rw [HE37.out]; exact HS37.out)
  have HZE : Hid ((pic 0 zc).size = (pic s zc).size) := Lib.hid (by rw [HZ37.out, HE37.out])
  have HE := Lib.hid (empty_any s)
  have hne := pic_ne
  have hs8 : 1 ≤ s ∧ s ≤ 8 := by rcases side_nat s hs with rfl | rfl | rfl | rfl <;> omega
  have HPL : Hid (∀ y x, y < s → x < s → s * y + x < 64 ∧ s * y ≤ 56) := Lib.hid fun y x hy hx => place_lt s y x hs hy hx
  have HSS : Hid (s * s ≤ 64) := Lib.hid (sq_le s hs)
  have hv14 : 0 ≤ v ∧ v ≤ 14 := by
    unfold centre at h0
    simp [inside] at h0
    omega
  have hu14 : 0 ≤ u ∧ u ≤ 14 := by
    unfold centre at h0
    simp [inside] at h0
    omega
  have hq1 : 1 ≤ q ∧ q ≤ 1000 := by simp [inside] at h1; omega
  have HF : Hid (∀ y x, y < s → x < s → cellZoneMask s v u q (s * y + x) = mark (dist y x v u / q % 2 == 0)) := Lib.hid fun y x _ hx => by
    obtain ⟨e1, e2⟩ := place_at s y x hx
    unfold cellZoneMask
    rw [e1, e2]
  generalize cellZoneMask s v u q = F at *
  obtain ⟨E, hE⟩ : ∃ E, E = pic s zc := ⟨_, rfl⟩
  rw [← hE] at HE37 HE1 HEI HZE HE
  have HEE := Lib.hid hE
  generalize pic 0 zc = Z at *
  clear hE
  go_enter Try.func53, Try.ntmps53
  go_wp2_with fail
  refine (centre_any _ _ _ _).mono ?_
  rw [h0]
  rintro e w' ⟨rfl, rfl⟩
  go_wp2_with fail
  refine (l01In_gen _ _ _ _).mono ?_
  rw [h1]
  rintro e w' ⟨rfl, rfl⟩
  clear h0 h1
  go_wp2_with fail
  refine (HE.out _).mono ?_
  rintro e w' ⟨rfl, rfl⟩
  go_wp2_with (refine wpList_store_row rfl 32 (.tmp 10) (.tmp 25) rfl (w.heap.size + 1 + 1) E rfl rfl 32 Z (h3_2 w (.cells Z 32) (.cells E 32) (.cells Z 32)) HEI.out HZE.out HE1.out ?_)
  have GG : Hid (((((w.alloc (.cells Z 32)).alloc (.cells E 32)).alloc (.cells Z 32)).setRow (w.heap.size + 1 + 1) E).heap[w.heap.size + 1 + 1]? = some (.cells E 32 (0, 0))) := Lib.hid (setRow_heap _ _ _ _ _ _ (h3_2 w (.cells Z 32) (.cells E 32) (.cells Z 32)))
  have GZ : Hid (((((w.alloc (.cells Z 32)).alloc (.cells E 32)).alloc (.cells Z 32)).setRow (w.heap.size + 1 + 1) E).heap[w.heap.size]? = some (.cells Z 32 (0, 0))) := Lib.hid (by rw [heap_setRow_other _ _ _ _ (by omega)]; exact h3_0 w (.cells Z 32) (.cells E 32) (.cells Z 32))
  have BB : Hid (Below w.heap.size w ((((w.alloc (.cells Z 32)).alloc (.cells E 32)).alloc (.cells Z 32)).setRow (w.heap.size + 1 + 1) E)) := Lib.hid (below_setRow ((((Below.refl _ _).alloc (Nat.le_refl _) _).alloc (by rw [size_al]; omega) _).alloc (by rw [size_al, size_al]; omega) _) (by omega) _)
  generalize (((w.alloc (.cells Z 32)).alloc (.cells E 32)).alloc (.cells Z 32)).setRow (w.heap.size + 1 + 1) E = V at *
  clear HE HE37 HE1 HEI HZE hz37 hne
  go_loopw [11] (fun i wr => ∃ (y : Nat) (C : Array Value), y ≤ s ∧ i = .int .i64 y ∧ Hid (C = pic s (gf F (s * y))) ∧ Hid (wr.heap[w.heap.size + 1 + 1]? = some (.cells C 32 (0, 0))) ∧ Hid (wr.heap[w.heap.size]? = some (.cells Z 32 (0, 0))) ∧ Hid (Below w.heap.size w wr)) (fun i _ => s - (intOf i).toNat)
  case atStart => exact ⟨0, E, by omega, rfl, Lib.hid (by rw [HEE.out, Nat.mul_zero, gf_zero]), GG, GZ, BB⟩
  case round =>
    obtain ⟨y, C, hy, rfl, HC, G, Z0, B⟩ := hrel
    by_cases hlt : y < s
    · have hdy : decide ((y : Int) < (s : Int)) = true := by simp; omega
      go_wp2
      go_loopw [12] (fun i wr => ∃ (x : Nat) (D : Array Value), x ≤ s ∧ i = .int .i64 x ∧ Hid (D = pic s (gf F (s * y + x))) ∧ Hid (wr.heap[w.heap.size + 1 + 1]? = some (.cells D 32 (0, 0))) ∧ Hid (wr.heap[w.heap.size]? = some (.cells Z 32 (0, 0))) ∧ Hid (Below w.heap.size w wr)) (fun i _ => s - (intOf i).toNat)
      case atStart => exact ⟨0, C, by omega, rfl, HC, G, Z0, B⟩
      case round =>
        obtain ⟨x, D, hx, rfl, HD, G, Z0, B⟩ := hrel
        by_cases hlt2 : x < s
        · have hdx : decide ((x : Int) < (s : Int)) = true := by simp; omega
          obtain ⟨hk, hk'⟩ := HPL.out y x hlt hlt2
          have hw1 : IntKind.i64.wrap ((s : Int) * (y : Int)) = ((s * y : Nat) : Int) := by rw [← Int.natCast_mul]; exact IntWalk.i64_in _ (by omega)
          have hold : wr.cell? ⟨w.heap.size + 1 + 1, 1 + (s * y + x), none⟩ = some (.complex .f32 0 0) := by
            rw [cell_of_row _ _ _ _ _ _ G.out, HD.out]; exact gf_old s F (s * y + x) hk
          have hfree : wr.frozen? ⟨w.heap.size + 1 + 1, 1 + (s * y + x), none⟩ = false := frozen_of_row _ _ _ _ _ G.out
          have HSET : Hid (D.setIfInBounds (1 + (s * y + x)) (.complex .f32 (F (s * y + x)).1 (F (s * y + x)).2) = pic s (gf F (s * y + x + 1))) := Lib.hid (by rw [HD.out]; exact gf_set s F _ hk)
          have HFF := Lib.hid (HF.out y x hlt hlt2)
          have HSK : Hid (F (s * y + x) = (0, 0) → D = pic s (gf F (s * y + x + 1))) := Lib.hid fun h => by rw [HD.out, gf_skip F _ h]
          have HDI := Lib.hid (fun w => dist_any y x v u (by omega) (by omega) hv14 hu14 w)
          have hds := dist_small y x v u (by omega) (by omega) hv14 hu14
          generalize dist y x v u = d at *
          have hdq0 : 0 ≤ d / q := Int.ediv_nonneg hds.1 (by omega)
          have hdq1 : d / q ≤ d := Int.ediv_le_self _ hds.1
          have hdq : d.tdiv q = d / q := Int.tdiv_eq_ediv_of_nonneg hds.1
          have hwd : IntKind.i64.wrap (d / q) = d / q := IntWalk.i64_in _ (by omega)
          have hdm : (d / q).tmod 2 = d / q % 2 := Int.tmod_eq_emod_of_nonneg hdq0
          have hq0 : q ≠ 0 := by omega
          have hq00 : (q == 0) = false := by simp; omega
          generalize s * y = p at *
          have hw2 : IntKind.i64.wrap ((p : Int) + (x : Int)) = ((p + x : Nat) : Int) := by rw [Int.natCast_add]; exact IntWalk.i64_in _ (by omega)
          have HQ := Lib.hid (show p + x + 1 = p + (x + 1) by omega)
          have hq : ((p + x : Nat) : Int) < 64 := by omega
          generalize hkk : p + x = k at *
          cases hb : d / q % 2 == 0
          · rw [hb] at HFF
            go_wp2_with fail
            refine (HDI.out _).mono ?_
            rintro e w' ⟨rfl, rfl⟩
            go_wp2_with fail
            exact ⟨⟨x + 1, D, by omega, by go_num, Lib.hid (by rw [← HQ.out]; exact HSK.out HFF.out), G, Z0, B⟩, by simp [intOf]; omega⟩
          · rw [hb] at HFF
            go_wp2_with fail
            refine (HDI.out _).mono ?_
            rintro e w' ⟨rfl, rfl⟩
            go_wp2_with fail
            refine ⟨⟨x + 1, D.setIfInBounds (1 + k) (.complex .f32 1065353216 0), by omega, by go_num, Lib.hid (by rw [← HQ.out, ← HSET.out, HFF.out]; rfl), Lib.hid (heap_setCell_same _ _ _ _ _ _ G.out), Lib.hid (by rw [heap_setCell_other _ _ _ _ (by show w.heap.size ≠ w.heap.size + 1 + 1; omega)]; exact Z0.out), Lib.hid (B.out.setCell (by show w.heap.size ≤ w.heap.size + 1 + 1; omega) _)⟩, by simp [intOf]; omega⟩
        · obtain rfl : x = s := by omega
          go_wp2
          exact ⟨⟨y + 1, D, by omega, by go_num, Lib.hid (by rw [HD.out, show x * (y + 1) = x * y + x by rw [Nat.mul_succ]]), G, Z0, B⟩, by simp [intOf]; omega⟩
    · obtain rfl : y = s := by omega
      have HC1 : Hid (C.all (·.oneCell') = true) := Lib.hid (by rw [HC.out]; exact gf_wav_one _ _ _)
      have HCI : Hid ((Try.prog.info? 32).map (·.size) = some C.size) := Lib.hid (by rw [HC.out, pic_size _ _ (gf_size _ _)]; exact HS37.out)
      have HZC : Hid (Z.size = C.size) := Lib.hid (by rw [HC.out, pic_size _ _ (gf_size _ _)]; exact HZ37.out)
      go_wp2_with (first | (refine wpList_load_row rfl 32 (.tmp 10) rfl (w.heap.size + 1 + 1) rfl 32 C (0, 0) _ G.out Try.underlying32 rfl HCI.out ?_) | (refine wpList_store_row rfl 32 (.tmp 8) (.tmp 52) rfl w.heap.size C rfl rfl 32 Z Z0.out HCI.out HZC.out HC1.out ?_))
      refine bodyPost_ret (v := .tuple #[.agg C, .int .i64 0]) (results_row_tmp (fn := Try.f53) (p := 8) (u := 9) (ty := 32) rfl _ _ w.heap.size 32 C (0, 0) _ rfl (setRow_heap _ _ _ _ _ _ Z0.out) Try.underlying32 rfl HCI.out) rfl ⟨by rw [HC.out], ?_⟩
      exact below_setRow B.out (Nat.le_refl _) _

/-- the answer that is asked: side, cells, code -/
def ansZoneMask (n v u q : Int) : Int × Array Value × Int := if okZoneMask n v u q = true then (n, gf (cellZoneMask n.toNat v u q) (n.toNat * n.toNat), 0) else (0, zc, 2)
theorem ansZoneMask_yes (n v u q : Int) (h : okZoneMask n v u q = true) : ansZoneMask n v u q = (n, gf (cellZoneMask n.toNat v u q) (n.toNat * n.toNat), 0) := by
  unfold ansZoneMask
  rw [if_pos h]
theorem ansZoneMask_no (n v u q : Int) (h : okZoneMask n v u q = false) : ansZoneMask n v u q = (0, zc, 2) := by
  unfold ansZoneMask
  rw [if_neg (by rw [h]; decide)]
theorem cellZoneMask_fin (s : Nat) (v u q : Int) (i : Nat) : (fin (cellZoneMask s v u q i).1 && fin (cellZoneMask s v u q i).2) = true := by
  unfold cellZoneMask
  exact mark_fin _
theorem ansZoneMask_cells (n v u q : Int) : Cells (ansZoneMask n v u q).2.1 := by
  cases h : okZoneMask n v u q
  · rw [ansZoneMask_no n v u q h]; exact zc_cells3
  · rw [ansZoneMask_yes n v u q h]; exact gf_cells (cellZoneMask n.toNat v u q) (cellZoneMask_fin _ _ _ _) _
theorem ansZoneMask_one (n v u q : Int) : (pic (ansZoneMask n v u q).1 (ansZoneMask n v u q).2.1).all (·.oneCell') = true := by
  cases h : okZoneMask n v u q
  · rw [ansZoneMask_no n v u q h]; exact zc_one 0
  · rw [ansZoneMask_yes n v u q h]; exact gf_wav_one _ _ _
theorem specZoneMask_any (n v u q : Int) (w : World) : Calls Try.prog 53 #[.int .i64 n, .int .i64 v, .int .i64 u, .int .i64 q] w fun e w' => e = .returned (.tuple #[.agg (pic (ansZoneMask n v u q).1 (ansZoneMask n v u q).2.1), .int .i64 (ansZoneMask n v u q).2.2]) ∧ Below w.heap.size w w' := by
  cases h0 : centre n v u
  · rw [ansZoneMask_no n v u q (by unfold okZoneMask; rw [h0]; rfl)]
    exact specZoneMask_no0 n v u q h0 w
  cases h1 : inside q (1) (1000)
  · rw [ansZoneMask_no n v u q (by unfold okZoneMask; rw [h0, h1]; rfl)]
    exact specZoneMask_no1 n v u q h0 h1 w
  have hsd : side n = true := (by have h := h0; unfold centre at h; rw [Bool.and_eq_true, Bool.and_eq_true] at h; exact h.1.1)
  obtain ⟨s, rfl⟩ : ∃ s : Nat, n = s := ⟨n.toNat, by rcases side_yes n hsd with rfl | rfl | rfl | rfl <;> rfl⟩
  rw [ansZoneMask_yes s v u q (by unfold okZoneMask; rw [h0, h1]; rfl)]
  exact specZoneMask_yes s v u q hsd h0 h1 w
end Go.Proofs.Ytjmfffgddmnkmaa
