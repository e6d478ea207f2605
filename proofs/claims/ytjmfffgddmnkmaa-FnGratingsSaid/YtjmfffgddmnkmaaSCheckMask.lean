/- The model's CheckMask: the wave that the document tells, or zeros and the code of a range. Condition: none. -/
import Derived.Test.YtjmfffgddmnkmaaS3
import Derived.Deep.QuietTactic
import Derived.BigQuiet
namespace Go.Proofs.Ytjmfffgddmnkmaa
open Go Go.RowKit

/-- are the arguments in their ranges? -/
def okCheckMask (n p : Int) : Bool := (side n) && (inside p (1) (n))
/-- the cell at a place -/
def cellCheckMask (s : Nat) (p : Int) (i : Nat) : Nat × Nat := mark ((((i / s : Nat) : Int) / p + ((i % s : Nat) : Int) / p) % 2 == 0)

set_option maxRecDepth 100000 in
set_option maxHeartbeats 800000 in
theorem specCheckMask_no0 (n p : Int) (h0 : side n = false) (w : World) : Calls Try.prog 50 #[.int .i64 n, .int .i64 p] w fun e w' => e = .returned (.tuple #[.agg (pic 0 zc), .int .i64 2]) ∧ Below w.heap.size w w' := by
  have hz37 := (zero_of_info info37').1
  have HS37 := Lib.hid (zero_of_info info37').2
  have HZ37 : Hid ((pic 0 zc).size = 65) := Lib.hid (pic_size 0 zc zc_size)
  have HZ1 := Lib.hid (zc_one 0)
  have hne := pic_ne
  generalize pic 0 zc = Z at *
  have HZI : Hid ((Try.prog.info? 32).map (·.size) = some Z.size) := Lib.hid (by rw [HZ37.out]; exact HS37.out)
  go_enter Try.func50, Try.ntmps50
  go_wp2_with fail
  refine (l01Side_any _ _).mono ?_
  rw [h0]
  rintro e w' ⟨rfl, rfl⟩
  go_wp2_with (refine wpList_store_row rfl 32 (.tmp 4) (.tmp 18) rfl w.heap.size Z rfl rfl 32 Z (h1_0 _ _) HZI.out rfl HZ1.out ?_)
  refine bodyPost_ret (v := .tuple #[.agg Z, .int .i64 2]) (results_row_tmp (fn := Try.f50) (p := 4) (u := 5) (ty := 32) rfl _ _ w.heap.size 32 Z (0, 0) _ rfl (setRow_heap _ _ _ _ _ _ (h1_0 _ _)) Try.underlying32 rfl HZI.out) rfl ⟨rfl, ?_⟩
  exact below_setRow ((Below.refl _ _).alloc (Nat.le_refl _) _) (Nat.le_refl _) _

set_option maxRecDepth 100000 in
set_option maxHeartbeats 800000 in
theorem specCheckMask_no1 (n p : Int) (h0 : side n = true) (h1 : inside p (1) (n) = false) (w : World) : Calls Try.prog 50 #[.int .i64 n, .int .i64 p] w fun e w' => e = .returned (.tuple #[.agg (pic 0 zc), .int .i64 2]) ∧ Below w.heap.size w w' := by
  have hz37 := (zero_of_info info37').1
  have HS37 := Lib.hid (zero_of_info info37').2
  have HZ37 : Hid ((pic 0 zc).size = 65) := Lib.hid (pic_size 0 zc zc_size)
  have HZ1 := Lib.hid (zc_one 0)
  have hne := pic_ne
  generalize pic 0 zc = Z at *
  have HZI : Hid ((Try.prog.info? 32).map (·.size) = some Z.size) := Lib.hid (by rw [HZ37.out]; exact HS37.out)
  go_enter Try.func50, Try.ntmps50
  go_wp2_with fail
  refine (l01Side_any _ _).mono ?_
  rw [h0]
  rintro e w' ⟨rfl, rfl⟩
  go_wp2_with fail
  refine (l01In_gen _ _ _ _).mono ?_
  rw [h1]
  rintro e w' ⟨rfl, rfl⟩
  go_wp2_with (refine wpList_store_row rfl 32 (.tmp 4) (.tmp 18) rfl w.heap.size Z rfl rfl 32 Z (h1_0 _ _) HZI.out rfl HZ1.out ?_)
  refine bodyPost_ret (v := .tuple #[.agg Z, .int .i64 2]) (results_row_tmp (fn := Try.f50) (p := 4) (u := 5) (ty := 32) rfl _ _ w.heap.size 32 Z (0, 0) _ rfl (setRow_heap _ _ _ _ _ _ (h1_0 _ _)) Try.underlying32 rfl HZI.out) rfl ⟨rfl, ?_⟩
  exact below_setRow ((Below.refl _ _).alloc (Nat.le_refl _) _) (Nat.le_refl _) _

set_option maxRecDepth 100000 in
set_option maxHeartbeats 2000000 in
theorem specCheckMask_yes (s : Nat) (p : Int) (hs : side s = true) (h0 : side (s : Int) = true) (h1 : inside p (1) ((s : Int)) = true) (w : World) :
    Calls Try.prog 50 #[.int .i64 s, .int .i64 p] w fun e w' => e = .returned (.tuple #[.agg (pic s (gf (cellCheckMask s p) (s * s))), .int .i64 0]) ∧ Below w.heap.size w w' := by
  have hz37 := (zero_of_info info37').1
  have HS37 := Lib.hid (zero_of_info info37').2
  have HZ37 : Hid ((pic 0 zc).size = 65) := Lib.hid (pic_size 0 zc zc_size)
  have HE37 : Hid ((pic s zc).size = 65) := Lib.hid (pic_size s zc zc_size)
  have HE1 : Hid ((pic s zc).all (·.oneCell') = true) := Lib.hid (zc_one s)
  have HEI : Hid ((Try.prog.info? 32).map (·.size) = some (pic s zc).size) := Lib.hid (by rw [HE37.out]; exact HS37.out)
  have HZE : Hid ((pic 0 zc).size = (pic s zc).size) := Lib.hid (by rw [HZ37.out, HE37.out])
  have HE := Lib.hid (empty_any s)
  have hne := pic_ne
  have hs8 : 1 ≤ s ∧ s ≤ 8 := by rcases side_nat s hs with rfl | rfl | rfl | rfl <;> omega
  have HPL : Hid (∀ y x, y < s → x < s → s * y + x < 64 ∧ s * y ≤ 56) := Lib.hid fun y x hy hx => place_lt s y x hs hy hx
  have HSS : Hid (s * s ≤ 64) := Lib.hid (sq_le s hs)
  have hp8 : 1 ≤ p ∧ p ≤ 8 := by
    simp [inside] at h1
    rcases side_yes (s : Int) h0 with e | e | e | e <;> omega
  have HF : Hid (∀ y x, y < s → x < s → cellCheckMask s p (s * y + x) = mark (((y : Int) / p + (x : Int) / p) % 2 == 0)) := Lib.hid fun y x _ hx => by
    obtain ⟨e1, e2⟩ := place_at s y x hx
    unfold cellCheckMask
    rw [e1, e2]
  generalize cellCheckMask s p = F at *
  obtain ⟨E, hE⟩ : ∃ E, E = pic s zc := ⟨_, rfl⟩
  rw [← hE] at HE37 HE1 HEI HZE HE
  have HEE := Lib.hid hE
  generalize pic 0 zc = Z at *
  clear hE
  go_enter Try.func50, Try.ntmps50
  go_wp2_with fail
  refine (l01Side_any _ _).mono ?_
  rw [h0]
  rintro e w' ⟨rfl, rfl⟩
  go_wp2_with fail
  refine (l01In_gen _ _ _ _).mono ?_
  rw [h1]
  rintro e w' ⟨rfl, rfl⟩
  clear h0 h1
  go_wp2_with fail
  refine (HE.out _).mono ?_
  rintro e w' ⟨rfl, rfl⟩
  go_wp2_with (refine wpList_store_row rfl 32 (.tmp 6) (.tmp 20) rfl (w.heap.size + 1 + 1) E rfl rfl 32 Z (h3_2 w (.cells Z 32) (.cells E 32) (.cells Z 32)) HEI.out HZE.out HE1.out ?_)
  have GG : Hid (((((w.alloc (.cells Z 32)).alloc (.cells E 32)).alloc (.cells Z 32)).setRow (w.heap.size + 1 + 1) E).heap[w.heap.size + 1 + 1]? = some (.cells E 32 (0, 0))) := Lib.hid (setRow_heap _ _ _ _ _ _ (h3_2 w (.cells Z 32) (.cells E 32) (.cells Z 32)))
  have GZ : Hid (((((w.alloc (.cells Z 32)).alloc (.cells E 32)).alloc (.cells Z 32)).setRow (w.heap.size + 1 + 1) E).heap[w.heap.size]? = some (.cells Z 32 (0, 0))) := Lib.hid (by rw [heap_setRow_other _ _ _ _ (by omega)]; exact h3_0 w (.cells Z 32) (.cells E 32) (.cells Z 32))
  have BB : Hid (Below w.heap.size w ((((w.alloc (.cells Z 32)).alloc (.cells E 32)).alloc (.cells Z 32)).setRow (w.heap.size + 1 + 1) E)) := Lib.hid (below_setRow ((((Below.refl _ _).alloc (Nat.le_refl _) _).alloc (by rw [size_al]; omega) _).alloc (by rw [size_al, size_al]; omega) _) (by omega) _)
  generalize (((w.alloc (.cells Z 32)).alloc (.cells E 32)).alloc (.cells Z 32)).setRow (w.heap.size + 1 + 1) E = V at *
  clear HE HE37 HE1 HEI HZE hz37 hne
  go_loopw [7] (fun i wr => ∃ (y : Nat) (C : Array Value), y ≤ s ∧ i = .int .i64 y ∧ Hid (C = pic s (gf F (s * y))) ∧ Hid (wr.heap[w.heap.size + 1 + 1]? = some (.cells C 32 (0, 0))) ∧ Hid (wr.heap[w.heap.size]? = some (.cells Z 32 (0, 0))) ∧ Hid (Below w.heap.size w wr)) (fun i _ => s - (intOf i).toNat)
  case atStart => exact ⟨0, E, by omega, rfl, Lib.hid (by rw [HEE.out, Nat.mul_zero, gf_zero]), GG, GZ, BB⟩
  case round =>
    obtain ⟨y, C, hy, rfl, HC, G, Z0, B⟩ := hrel
    by_cases hlt : y < s
    · have hdy : decide ((y : Int) < (s : Int)) = true := by simp; omega
      go_wp2
      go_loopw [8] (fun i wr => ∃ (x : Nat) (D : Array Value), x ≤ s ∧ i = .int .i64 x ∧ Hid (D = pic s (gf F (s * y + x))) ∧ Hid (wr.heap[w.heap.size + 1 + 1]? = some (.cells D 32 (0, 0))) ∧ Hid (wr.heap[w.heap.size]? = some (.cells Z 32 (0, 0))) ∧ Hid (Below w.heap.size w wr)) (fun i _ => s - (intOf i).toNat)
      case atStart => exact ⟨0, C, by omega, rfl, HC, G, Z0, B⟩
      case round =>
        obtain ⟨x, D, hx, rfl, HD, G, Z0, B⟩ := hrel
        by_cases hlt2 : x < s
        · have hdx : decide ((x : Int) < (s : Int)) = true := by simp; omega
          obtain ⟨hk, hk'⟩ := HPL.out y x hlt hlt2
          have hw1 : IntKind.i64.wrap ((s : Int) * (y : Int)) = ((s * y : Nat) : Int) := by rw [← Int.natCast_mul]; exact IntWalk.i64_in _ (by omega)
          have hold : wr.cell? ⟨w.heap.size + 1 + 1, 1 + (s * y + x), none⟩ = some (.complex .f32 0 0) := by
            rw [cell_of_row _ _ _ _ _ _ G.out, HD.out]; exact gf_old s F (s * y + x) hk
          have hfree : wr.frozen? ⟨w.heap.size + 1 + 1, 1 + (s * y + x), none⟩ = false := frozen_of_row _ _ _ _ _ G.out
          have HSET : Hid (D.setIfInBounds (1 + (s * y + x)) (.complex .f32 (F (s * y + x)).1 (F (s * y + x)).2) = pic s (gf F (s * y + x + 1))) := Lib.hid (by rw [HD.out]; exact gf_set s F _ hk)
          have HFF := Lib.hid (HF.out y x hlt hlt2)
          have HSK : Hid (F (s * y + x) = (0, 0) → D = pic s (gf F (s * y + x + 1))) := Lib.hid fun h => by rw [HD.out, gf_skip F _ h]
          have ha0 : 0 ≤ (y : Int) / p := Int.ediv_nonneg (by omega) (by omega)
          have ha1 : (y : Int) / p ≤ y := Int.ediv_le_self _ (by omega)
          have hb0 : 0 ≤ (x : Int) / p := Int.ediv_nonneg (by omega) (by omega)
          have hb1 : (x : Int) / p ≤ x := Int.ediv_le_self _ (by omega)
          have ha : (y : Int).tdiv p = (y : Int) / p := Int.tdiv_eq_ediv_of_nonneg (by omega)
          have hb' : (x : Int).tdiv p = (x : Int) / p := Int.tdiv_eq_ediv_of_nonneg (by omega)
          generalize (y : Int) / p = a at *
          generalize (x : Int) / p = b at *
          have hwa : IntKind.i64.wrap a = a := IntWalk.i64_in _ (by omega)
          have hwb : IntKind.i64.wrap b = b := IntWalk.i64_in _ (by omega)
          have hwab : IntKind.i64.wrap (a + b) = a + b := IntWalk.i64_in _ (by omega)
          have hm : (a + b).tmod 2 = (a + b) % 2 := Int.tmod_eq_emod_of_nonneg (by omega)
          have hp0 : p ≠ 0 := by omega
          have hp00 : (p == 0) = false := by simp; omega
          generalize s * y = p at *
          have hw2 : IntKind.i64.wrap ((p : Int) + (x : Int)) = ((p + x : Nat) : Int) := by rw [Int.natCast_add]; exact IntWalk.i64_in _ (by omega)
          have HQ := Lib.hid (show p + x + 1 = p + (x + 1) by omega)
          have hq : ((p + x : Nat) : Int) < 64 := by omega
          generalize hkk : p + x = k at *
          cases hb : (a + b) % 2 == 0
          · rw [hb] at HFF
            go_wp2_with fail
            go_quiet (fail)
            go_wp2
            exact ⟨⟨x + 1, D, by omega, by go_num, Lib.hid (by rw [← HQ.out]; exact HSK.out HFF.out), Lib.hid G.out, Lib.hid Z0.out, Lib.hid (below_drewN B.out _)⟩, by simp [intOf]; omega⟩
          · rw [hb] at HFF
            go_wp2_with fail
            go_quiet (fail)
            go_wp2
            refine ⟨⟨x + 1, D.setIfInBounds (1 + k) (.complex .f32 1065353216 0), by omega, by go_num, Lib.hid (by rw [← HQ.out, ← HSET.out, HFF.out]; rfl), Lib.hid (heap_setCell_same _ _ _ _ _ _ G.out), Lib.hid (by rw [heap_setCell_other _ _ _ _ (by show w.heap.size ≠ w.heap.size + 1 + 1; omega)]; exact Z0.out), Lib.hid ((below_drewN B.out _).setCell (by show w.heap.size ≤ w.heap.size + 1 + 1; omega) _)⟩, by simp [intOf]; omega⟩
        · obtain rfl : x = s := by omega
          go_wp2
          exact ⟨⟨y + 1, D, by omega, by go_num, Lib.hid (by rw [HD.out, show x * (y + 1) = x * y + x by rw [Nat.mul_succ]]), G, Z0, B⟩, by simp [intOf]; omega⟩
    · obtain rfl : y = s := by omega
      have HC1 : Hid (C.all (·.oneCell') = true) := Lib.hid (by rw [HC.out]; exact gf_wav_one _ _ _)
      have HCI : Hid ((Try.prog.info? 32).map (·.size) = some C.size) := Lib.hid (by rw [HC.out, pic_size _ _ (gf_size _ _)]; exact HS37.out)
      have HZC : Hid (Z.size = C.size) := Lib.hid (by rw [HC.out, pic_size _ _ (gf_size _ _)]; exact HZ37.out)
      go_wp2_with (first | (refine wpList_load_row rfl 32 (.tmp 6) rfl (w.heap.size + 1 + 1) rfl 32 C (0, 0) _ G.out Try.underlying32 rfl HCI.out ?_) | (refine wpList_store_row rfl 32 (.tmp 4) (.tmp 47) rfl w.heap.size C rfl rfl 32 Z Z0.out HCI.out HZC.out HC1.out ?_))
      refine bodyPost_ret (v := .tuple #[.agg C, .int .i64 0]) (results_row_tmp (fn := Try.f50) (p := 4) (u := 5) (ty := 32) rfl _ _ w.heap.size 32 C (0, 0) _ rfl (setRow_heap _ _ _ _ _ _ Z0.out) Try.underlying32 rfl HCI.out) rfl ⟨by rw [HC.out], ?_⟩
      exact below_setRow B.out (Nat.le_refl _) _

/-- the answer that is asked: side, cells, code -/
def ansCheckMask (n p : Int) : Int × Array Value × Int := if okCheckMask n p = true then (n, gf (cellCheckMask n.toNat p) (n.toNat * n.toNat), 0) else (0, zc, 2)
theorem ansCheckMask_yes (n p : Int) (h : okCheckMask n p = true) : ansCheckMask n p = (n, gf (cellCheckMask n.toNat p) (n.toNat * n.toNat), 0) := by
  unfold ansCheckMask
  rw [if_pos h]
theorem ansCheckMask_no (n p : Int) (h : okCheckMask n p = false) : ansCheckMask n p = (0, zc, 2) := by
  unfold ansCheckMask
  rw [if_neg (by rw [h]; decide)]
theorem cellCheckMask_fin (s : Nat) (p : Int) (i : Nat) : (fin (cellCheckMask s p i).1 && fin (cellCheckMask s p i).2) = true := by
  unfold cellCheckMask
  exact mark_fin _
theorem ansCheckMask_cells (n p : Int) : Cells (ansCheckMask n p).2.1 := by
  cases h : okCheckMask n p
  · rw [ansCheckMask_no n p h]; exact zc_cells3
  · rw [ansCheckMask_yes n p h]; exact gf_cells (cellCheckMask n.toNat p) (cellCheckMask_fin _ _) _
theorem ansCheckMask_one (n p : Int) : (pic (ansCheckMask n p).1 (ansCheckMask n p).2.1).all (·.oneCell') = true := by
  cases h : okCheckMask n p
  · rw [ansCheckMask_no n p h]; exact zc_one 0
  · rw [ansCheckMask_yes n p h]; exact gf_wav_one _ _ _
theorem specCheckMask_any (n p : Int) (w : World) : Calls Try.prog 50 #[.int .i64 n, .int .i64 p] w fun e w' => e = .returned (.tuple #[.agg (pic (ansCheckMask n p).1 (ansCheckMask n p).2.1), .int .i64 (ansCheckMask n p).2.2]) ∧ Below w.heap.size w w' := by
  cases h0 : side n
  · rw [ansCheckMask_no n p (by unfold okCheckMask; rw [h0]; rfl)]
    exact specCheckMask_no0 n p h0 w
  cases h1 : inside p (1) (n)
  · rw [ansCheckMask_no n p (by unfold okCheckMask; rw [h0, h1]; rfl)]
    exact specCheckMask_no1 n p h0 h1 w
  have hsd : side n = true := h0
  obtain ⟨s, rfl⟩ : ∃ s : Nat, n = s := ⟨n.toNat, by rcases side_yes n hsd with rfl | rfl | rfl | rfl <;> rfl⟩
  rw [ansCheckMask_yes s p (by unfold okCheckMask; rw [h0, h1]; rfl)]
  exact specCheckMask_yes s p hsd h0 h1 w
end Go.Proofs.Ytjmfffgddmnkmaa
