/- The model's plane waves. Condition: slopes within -64 and 64. -/
import Derived.Test.YtjmfffgddmnkmabM11
namespace Go.Proofs.Ytjmfffgddmnkmab
open Go Go.RowKit

set_option maxRecDepth 100000 in
set_option maxHeartbeats 1000000 in
theorem plane_two (u v : Int) (hu : within u = true) (hv : within v = true) (w : World) : Calls Try.prog 114 #[.int .i64 2, .int .i64 u, .int .i64 v] w fun e w' => e = .returned (.agg (pic 2 (fill (parts 2 32 u v) 4))) ∧ Below w.heap.size w w' := by
  have HU := Lib.hid hu
  have HV := Lib.hid hv
  have hz37 := (zero_of_info info37').1
  have HS37 := Lib.hid (zero_of_info info37').2
  obtain ⟨f, hf⟩ : ∃ f, f = parts 2 32 u v := ⟨_, rfl⟩
  have HF := Lib.hid hf
  rw [← hf]
  have HZ37 : Hid ((pic 0 zc).size = 65) := Lib.hid (pic_size 0 zc zc_size)
  have HE37 : Hid ((pic 2 zc).size = 65) := Lib.hid (pic_size 2 zc zc_size)
  have HE1 : Hid ((pic 2 zc).all (·.oneCell') = true) := Lib.hid (zc_one 2)
  have HEI : Hid ((Try.prog.info? 30).map (·.size) = some (pic 2 zc).size) := Lib.hid (by rw [HE37.out]; exact HS37.out)
  have HZE : Hid ((pic 0 zc).size = (pic 2 zc).size) := Lib.hid (by rw [HZ37.out, HE37.out])
  have HE := Lib.hid (empty_any 2)
  obtain ⟨E, hE⟩ : ∃ E, E = pic 2 zc := ⟨_, rfl⟩
  rw [← hE] at HE37 HE1 HEI HZE HE
  have HEE := Lib.hid hE
  generalize pic 0 zc = Z at *
  clear hu hv hf hE
  go_enter Try.func114, Try.ntmps114
  go_wp2_with (first | (go_at_call 106; refine (HE.out _).mono ?_; rintro e w' ⟨rfl, rfl⟩) | (refine wpList_store_row rfl 30 (.tmp 7) (.tmp 11) rfl (w.heap.size + 1 + 1) E rfl rfl 30 Z (h3_2 _ _ _ _) HEI.out HZE.out HE1.out ?_; rw [setRow_al3]))
  clear hz37
  go_loopw [8] (fun i wr => ∃ (y : Nat) (C : Array Value), y ≤ 2 ∧ i = .int .i64 y ∧ Hid (C = pic 2 (fill f (2 * y))) ∧ wr = ((w.alloc (.cells Z 30)).alloc (.cells E 30)).alloc (.cells C 30)) (fun i _ => 2 - (intOf i).toNat)
  case atStart => exact ⟨0, E, by omega, rfl, Lib.hid (by rw [HEE.out, Nat.mul_zero, fill_zero]), rfl⟩
  case round =>
    obtain ⟨y, C, hy, rfl, HC, rfl⟩ := hrel
    by_cases hlt : y < 2
    · have hdy : decide ((y : Int) < 2) = true := by simp; omega
      go_wp2
      go_loopw [9] (fun i wr => ∃ (x : Nat) (D : Array Value), x ≤ 2 ∧ i = .int .i64 x ∧ Hid (D = pic 2 (fill f (2 * y + x))) ∧ wr = ((w.alloc (.cells Z 30)).alloc (.cells E 30)).alloc (.cells D 30)) (fun i _ => 2 - (intOf i).toNat)
      case atStart => exact ⟨0, C, by omega, rfl, HC, rfl⟩
      case round =>
        obtain ⟨x, D, hx, rfl, HD, rfl⟩ := hrel
        by_cases hlt2 : x < 2
        · obtain ⟨mu1, mu2⟩ := small_mul u x HU.out (by omega)
          obtain ⟨mv1, mv2⟩ := small_mul v y HV.out (by omega)
          have hold : D[1 + (2 * y + x)]? = some (.complex .f32 0 0) := by rw [HD.out]; exact fill_old 2 f (2 * y + x) (by omega)
          go_wp2_with (go_at_call 125; refine (spec_phase _ _).mono ?_; rintro e w' ⟨rfl, rfl⟩)
          refine ⟨⟨x + 1, _, by omega, by go_num, Lib.hid ?_, rfl⟩, by simp [intOf]; omega⟩
          have e : ((u * (x : Int) + v * (y : Int)) * 32 % 64).toNat = f (2 * y + x) := by
            rw [HF.out]
            unfold parts idx
            rw [show (2 * y + x) / 2 = y by omega, show (2 * y + x) % 2 = x by omega]
          rw [HD.out, e]
          exact pic_fill 2 f (2 * y + x) (by omega)
        · obtain rfl : x = 2 := by omega
          go_wp2
          exact ⟨⟨y + 1, D, by omega, by go_num, Lib.hid (by rw [HD.out, show 2 * (y + 1) = 2 * y + 2 by omega]), rfl⟩, by simp [intOf]; omega⟩
    · obtain rfl : y = 2 := by omega
      have hC : C = pic 2 (fill f 4) := HC.out
      have HCI : Hid ((Try.prog.info? 30).map (·.size) = some C.size) := Lib.hid (by rw [hC, pic_size _ _ (fill_size _ _)]; exact HS37.out)
      have HZC : Hid (Z.size = C.size) := Lib.hid (by rw [hC, pic_size _ _ (fill_size _ _)]; exact HZ37.out)
      have HC1 : Hid (C.all (·.oneCell') = true) := Lib.hid (by rw [hC]; exact fill_one _ _ _)
      have HCC := Lib.hid hC
      clear hC
      go_wp2_with (first | (refine wpList_load_row rfl 30 (.tmp 7) rfl (w.heap.size + 1 + 1) rfl 30 C (0, 0) _ (h3_2 _ _ _ _) Try.underlying30 rfl HCI.out ?_) | (refine wpList_store_row rfl 30 (.tmp 6) (.tmp 40) rfl w.heap.size C rfl rfl 30 Z (h3_0 _ _ _ _) HCI.out HZC.out HC1.out ?_))
      refine bodyPost_ret (v := .agg C) (results_cell_row (fn := Try.f114) (p := 6) (ty := 30) rfl _ _ w.heap.size 30 C (0, 0) _ rfl (setRow_heap _ _ _ _ _ _ (h3_0 _ _ _ _)) Try.underlying30 rfl HCI.out) rfl ⟨by rw [HCC.out], ?_⟩
      exact below_setRow ((((Below.refl _ _).alloc (Nat.le_refl _) _).alloc (by rw [size_al]; omega) _).alloc (by rw [size_al, size_al]; omega) _) (Nat.le_refl _) _

set_option maxRecDepth 100000 in
set_option maxHeartbeats 1000000 in
theorem plane_one (u v : Int) (hu : within u = true) (hv : within v = true) (w : World) : Calls Try.prog 114 #[.int .i64 1, .int .i64 u, .int .i64 v] w fun e w' => e = .returned (.agg (pic 1 (fill (parts 1 64 u v) 1))) ∧ Below w.heap.size w w' := by
  have HU := Lib.hid hu
  have HV := Lib.hid hv
  have hz37 := (zero_of_info info37').1
  have HS37 := Lib.hid (zero_of_info info37').2
  obtain ⟨f, hf⟩ : ∃ f, f = parts 1 64 u v := ⟨_, rfl⟩
  have HF := Lib.hid hf
  rw [← hf]
  have HZ37 : Hid ((pic 0 zc).size = 65) := Lib.hid (pic_size 0 zc zc_size)
  have HE37 : Hid ((pic 1 zc).size = 65) := Lib.hid (pic_size 1 zc zc_size)
  have HE1 : Hid ((pic 1 zc).all (·.oneCell') = true) := Lib.hid (zc_one 1)
  have HEI : Hid ((Try.prog.info? 30).map (·.size) = some (pic 1 zc).size) := Lib.hid (by rw [HE37.out]; exact HS37.out)
  have HZE : Hid ((pic 0 zc).size = (pic 1 zc).size) := Lib.hid (by rw [HZ37.out, HE37.out])
  have HE := Lib.hid (empty_any 1)
  obtain ⟨E, hE⟩ : ∃ E, E = pic 1 zc := ⟨_, rfl⟩
  rw [← hE] at HE37 HE1 HEI HZE HE
  have HEE := Lib.hid hE
  generalize pic 0 zc = Z at *
  clear hu hv hf hE
  go_enter Try.func114, Try.ntmps114
  go_wp2_with (first | (go_at_call 106; refine (HE.out _).mono ?_; rintro e w' ⟨rfl, rfl⟩) | (refine wpList_store_row rfl 30 (.tmp 7) (.tmp 11) rfl (w.heap.size + 1 + 1) E rfl rfl 30 Z (h3_2 _ _ _ _) HEI.out HZE.out HE1.out ?_; rw [setRow_al3]))
  clear hz37
  go_loopw [8] (fun i wr => ∃ (y : Nat) (C : Array Value), y ≤ 1 ∧ i = .int .i64 y ∧ Hid (C = pic 1 (fill f (1 * y))) ∧ wr = ((w.alloc (.cells Z 30)).alloc (.cells E 30)).alloc (.cells C 30)) (fun i _ => 1 - (intOf i).toNat)
  case atStart => exact ⟨0, E, by omega, rfl, Lib.hid (by rw [HEE.out, Nat.mul_zero, fill_zero]), rfl⟩
  case round =>
    obtain ⟨y, C, hy, rfl, HC, rfl⟩ := hrel
    by_cases hlt : y < 1
    · have hdy : decide ((y : Int) < 1) = true := by simp; omega
      go_wp2
      go_loopw [9] (fun i wr => ∃ (x : Nat) (D : Array Value), x ≤ 1 ∧ i = .int .i64 x ∧ Hid (D = pic 1 (fill f (1 * y + x))) ∧ wr = ((w.alloc (.cells Z 30)).alloc (.cells E 30)).alloc (.cells D 30)) (fun i _ => 1 - (intOf i).toNat)
      case atStart => exact ⟨0, C, by omega, rfl, HC, rfl⟩
      case round =>
        obtain ⟨x, D, hx, rfl, HD, rfl⟩ := hrel
        by_cases hlt2 : x < 1
        · obtain ⟨mu1, mu2⟩ := small_mul u x HU.out (by omega)
          obtain ⟨mv1, mv2⟩ := small_mul v y HV.out (by omega)
          have hold : D[1 + (y + x)]? = some (.complex .f32 0 0) := by rw [HD.out, show 1 + (y + x) = 1 + (1 * y + x) by omega]; exact fill_old 1 f (1 * y + x) (by omega)
          go_wp2_with (go_at_call 125; refine (spec_phase _ _).mono ?_; rintro e w' ⟨rfl, rfl⟩)
          refine ⟨⟨x + 1, _, by omega, by go_num, Lib.hid ?_, rfl⟩, by simp [intOf]; omega⟩
          have e : f (1 * y + x) = 0 := by
            rw [HF.out]
            unfold parts idx
            omega
          have p := pic_fill 1 f (1 * y + x) (by omega)
          rw [e] at p
          rw [HD.out, show 1 + (y + x) = 1 + (1 * y + x) by omega]
          exact p
        · obtain rfl : x = 1 := by omega
          go_wp2
          exact ⟨⟨y + 1, D, by omega, by go_num, Lib.hid (by rw [HD.out, show 1 * (y + 1) = 1 * y + 1 by omega]), rfl⟩, by simp [intOf]; omega⟩
    · obtain rfl : y = 1 := by omega
      have hC : C = pic 1 (fill f 1) := HC.out
      have HCI : Hid ((Try.prog.info? 30).map (·.size) = some C.size) := Lib.hid (by rw [hC, pic_size _ _ (fill_size _ _)]; exact HS37.out)
      have HZC : Hid (Z.size = C.size) := Lib.hid (by rw [hC, pic_size _ _ (fill_size _ _)]; exact HZ37.out)
      have HC1 : Hid (C.all (·.oneCell') = true) := Lib.hid (by rw [hC]; exact fill_one _ _ _)
      have HCC := Lib.hid hC
      clear hC
      go_wp2_with (first | (refine wpList_load_row rfl 30 (.tmp 7) rfl (w.heap.size + 1 + 1) rfl 30 C (0, 0) _ (h3_2 _ _ _ _) Try.underlying30 rfl HCI.out ?_) | (refine wpList_store_row rfl 30 (.tmp 6) (.tmp 40) rfl w.heap.size C rfl rfl 30 Z (h3_0 _ _ _ _) HCI.out HZC.out HC1.out ?_))
      refine bodyPost_ret (v := .agg C) (results_cell_row (fn := Try.f114) (p := 6) (ty := 30) rfl _ _ w.heap.size 30 C (0, 0) _ rfl (setRow_heap _ _ _ _ _ _ (h3_0 _ _ _ _)) Try.underlying30 rfl HCI.out) rfl ⟨by rw [HCC.out], ?_⟩
      exact below_setRow ((((Below.refl _ _).alloc (Nat.le_refl _) _).alloc (by rw [size_al]; omega) _).alloc (by rw [size_al, size_al]; omega) _) (Nat.le_refl _) _

set_option maxRecDepth 100000 in
set_option maxHeartbeats 1000000 in
theorem plane_four (u v : Int) (hu : within u = true) (hv : within v = true) (w : World) : Calls Try.prog 114 #[.int .i64 4, .int .i64 u, .int .i64 v] w fun e w' => e = .returned (.agg (pic 4 (fill (parts 4 16 u v) 16))) ∧ Below w.heap.size w w' := by
  have HU := Lib.hid hu
  have HV := Lib.hid hv
  have hz37 := (zero_of_info info37').1
  have HS37 := Lib.hid (zero_of_info info37').2
  obtain ⟨f, hf⟩ : ∃ f, f = parts 4 16 u v := ⟨_, rfl⟩
  have HF := Lib.hid hf
  rw [← hf]
  have HZ37 : Hid ((pic 0 zc).size = 65) := Lib.hid (pic_size 0 zc zc_size)
  have HE37 : Hid ((pic 4 zc).size = 65) := Lib.hid (pic_size 4 zc zc_size)
  have HE1 : Hid ((pic 4 zc).all (·.oneCell') = true) := Lib.hid (zc_one 4)
  have HEI : Hid ((Try.prog.info? 30).map (·.size) = some (pic 4 zc).size) := Lib.hid (by rw [HE37.out]; exact HS37.out)
  have HZE : Hid ((pic 0 zc).size = (pic 4 zc).size) := Lib.hid (by rw [HZ37.out, HE37.out])
  have HE := Lib.hid (empty_any 4)
  obtain ⟨E, hE⟩ : ∃ E, E = pic 4 zc := ⟨_, rfl⟩
  rw [← hE] at HE37 HE1 HEI HZE HE
  have HEE := Lib.hid hE
  generalize pic 0 zc = Z at *
  clear hu hv hf hE
  go_enter Try.func114, Try.ntmps114
  go_wp2_with (first | (go_at_call 106; refine (HE.out _).mono ?_; rintro e w' ⟨rfl, rfl⟩) | (refine wpList_store_row rfl 30 (.tmp 7) (.tmp 11) rfl (w.heap.size + 1 + 1) E rfl rfl 30 Z (h3_2 _ _ _ _) HEI.out HZE.out HE1.out ?_; rw [setRow_al3]))
  clear hz37
  go_loopw [8] (fun i wr => ∃ (y : Nat) (C : Array Value), y ≤ 4 ∧ i = .int .i64 y ∧ Hid (C = pic 4 (fill f (4 * y))) ∧ wr = ((w.alloc (.cells Z 30)).alloc (.cells E 30)).alloc (.cells C 30)) (fun i _ => 4 - (intOf i).toNat)
  case atStart => exact ⟨0, E, by omega, rfl, Lib.hid (by rw [HEE.out, Nat.mul_zero, fill_zero]), rfl⟩
  case round =>
    obtain ⟨y, C, hy, rfl, HC, rfl⟩ := hrel
    by_cases hlt : y < 4
    · have hdy : decide ((y : Int) < 4) = true := by simp; omega
      go_wp2
      go_loopw [9] (fun i wr => ∃ (x : Nat) (D : Array Value), x ≤ 4 ∧ i = .int .i64 x ∧ Hid (D = pic 4 (fill f (4 * y + x))) ∧ wr = ((w.alloc (.cells Z 30)).alloc (.cells E 30)).alloc (.cells D 30)) (fun i _ => 4 - (intOf i).toNat)
      case atStart => exact ⟨0, C, by omega, rfl, HC, rfl⟩
      case round =>
        obtain ⟨x, D, hx, rfl, HD, rfl⟩ := hrel
        by_cases hlt2 : x < 4
        · obtain ⟨mu1, mu2⟩ := small_mul u x HU.out (by omega)
          obtain ⟨mv1, mv2⟩ := small_mul v y HV.out (by omega)
          have hold : D[1 + (4 * y + x)]? = some (.complex .f32 0 0) := by rw [HD.out]; exact fill_old 4 f (4 * y + x) (by omega)
          go_wp2_with (go_at_call 125; refine (spec_phase _ _).mono ?_; rintro e w' ⟨rfl, rfl⟩)
          refine ⟨⟨x + 1, _, by omega, by go_num, Lib.hid ?_, rfl⟩, by simp [intOf]; omega⟩
          have e : ((u * (x : Int) + v * (y : Int)) * 16 % 64).toNat = f (4 * y + x) := by
            rw [HF.out]
            unfold parts idx
            rw [show (4 * y + x) / 4 = y by omega, show (4 * y + x) % 4 = x by omega]
          rw [HD.out, e]
          exact pic_fill 4 f (4 * y + x) (by omega)
        · obtain rfl : x = 4 := by omega
          go_wp2
          exact ⟨⟨y + 1, D, by omega, by go_num, Lib.hid (by rw [HD.out, show 4 * (y + 1) = 4 * y + 4 by omega]), rfl⟩, by simp [intOf]; omega⟩
    · obtain rfl : y = 4 := by omega
      have hC : C = pic 4 (fill f 16) := HC.out
      have HCI : Hid ((Try.prog.info? 30).map (·.size) = some C.size) := Lib.hid (by rw [hC, pic_size _ _ (fill_size _ _)]; exact HS37.out)
      have HZC : Hid (Z.size = C.size) := Lib.hid (by rw [hC, pic_size _ _ (fill_size _ _)]; exact HZ37.out)
      have HC1 : Hid (C.all (·.oneCell') = true) := Lib.hid (by rw [hC]; exact fill_one _ _ _)
      have HCC := Lib.hid hC
      clear hC
      go_wp2_with (first | (refine wpList_load_row rfl 30 (.tmp 7) rfl (w.heap.size + 1 + 1) rfl 30 C (0, 0) _ (h3_2 _ _ _ _) Try.underlying30 rfl HCI.out ?_) | (refine wpList_store_row rfl 30 (.tmp 6) (.tmp 40) rfl w.heap.size C rfl rfl 30 Z (h3_0 _ _ _ _) HCI.out HZC.out HC1.out ?_))
      refine bodyPost_ret (v := .agg C) (results_cell_row (fn := Try.f114) (p := 6) (ty := 30) rfl _ _ w.heap.size 30 C (0, 0) _ rfl (setRow_heap _ _ _ _ _ _ (h3_0 _ _ _ _)) Try.underlying30 rfl HCI.out) rfl ⟨by rw [HCC.out], ?_⟩
      exact below_setRow ((((Below.refl _ _).alloc (Nat.le_refl _) _).alloc (by rw [size_al]; omega) _).alloc (by rw [size_al, size_al]; omega) _) (Nat.le_refl _) _

set_option maxRecDepth 100000 in
set_option maxHeartbeats 1000000 in
theorem plane_eight (u v : Int) (hu : within u = true) (hv : within v = true) (w : World) : Calls Try.prog 114 #[.int .i64 8, .int .i64 u, .int .i64 v] w fun e w' => e = .returned (.agg (pic 8 (fill (parts 8 8 u v) 64))) ∧ Below w.heap.size w w' := by
  have HU := Lib.hid hu
  have HV := Lib.hid hv
  have hz37 := (zero_of_info info37').1
  have HS37 := Lib.hid (zero_of_info info37').2
  obtain ⟨f, hf⟩ : ∃ f, f = parts 8 8 u v := ⟨_, rfl⟩
  have HF := Lib.hid hf
  rw [← hf]
  have HZ37 : Hid ((pic 0 zc).size = 65) := Lib.hid (pic_size 0 zc zc_size)
  have HE37 : Hid ((pic 8 zc).size = 65) := Lib.hid (pic_size 8 zc zc_size)
  have HE1 : Hid ((pic 8 zc).all (·.oneCell') = true) := Lib.hid (zc_one 8)
  have HEI : Hid ((Try.prog.info? 30).map (·.size) = some (pic 8 zc).size) := Lib.hid (by rw [HE37.out]; exact HS37.out)
  have HZE : Hid ((pic 0 zc).size = (pic 8 zc).size) := Lib.hid (by rw [HZ37.out, HE37.out])
  have HE := Lib.hid (empty_any 8)
  obtain ⟨E, hE⟩ : ∃ E, E = pic 8 zc := ⟨_, rfl⟩
  rw [← hE] at HE37 HE1 HEI HZE HE
  have HEE := Lib.hid hE
  generalize pic 0 zc = Z at *
  clear hu hv hf hE
  go_enter Try.func114, Try.ntmps114
  go_wp2_with (first | (go_at_call 106; refine (HE.out _).mono ?_; rintro e w' ⟨rfl, rfl⟩) | (refine wpList_store_row rfl 30 (.tmp 7) (.tmp 11) rfl (w.heap.size + 1 + 1) E rfl rfl 30 Z (h3_2 _ _ _ _) HEI.out HZE.out HE1.out ?_; rw [setRow_al3]))
  clear hz37
  go_loopw [8] (fun i wr => ∃ (y : Nat) (C : Array Value), y ≤ 8 ∧ i = .int .i64 y ∧ Hid (C = pic 8 (fill f (8 * y))) ∧ wr = ((w.alloc (.cells Z 30)).alloc (.cells E 30)).alloc (.cells C 30)) (fun i _ => 8 - (intOf i).toNat)
  case atStart => exact ⟨0, E, by omega, rfl, Lib.hid (by rw [HEE.out, Nat.mul_zero, fill_zero]), rfl⟩
  case round =>
    obtain ⟨y, C, hy, rfl, HC, rfl⟩ := hrel
    by_cases hlt : y < 8
    · have hdy : decide ((y : Int) < 8) = true := by simp; omega
      go_wp2
      go_loopw [9] (fun i wr => ∃ (x : Nat) (D : Array Value), x ≤ 8 ∧ i = .int .i64 x ∧ Hid (D = pic 8 (fill f (8 * y + x))) ∧ wr = ((w.alloc (.cells Z 30)).alloc (.cells E 30)).alloc (.cells D 30)) (fun i _ => 8 - (intOf i).toNat)
      case atStart => exact ⟨0, C, by omega, rfl, HC, rfl⟩
      case round =>
        obtain ⟨x, D, hx, rfl, HD, rfl⟩ := hrel
        by_cases hlt2 : x < 8
        · obtain ⟨mu1, mu2⟩ := small_mul u x HU.out (by omega)
          obtain ⟨mv1, mv2⟩ := small_mul v y HV.out (by omega)
          have hold : D[1 + (8 * y + x)]? = some (.complex .f32 0 0) := by rw [HD.out]; exact fill_old 8 f (8 * y + x) (by omega)
          go_wp2_with (go_at_call 125; refine (spec_phase _ _).mono ?_; rintro e w' ⟨rfl, rfl⟩)
          refine ⟨⟨x + 1, _, by omega, by go_num, Lib.hid ?_, rfl⟩, by simp [intOf]; omega⟩
          have e : ((u * (x : Int) + v * (y : Int)) * 8 % 64).toNat = f (8 * y + x) := by
            rw [HF.out]
            unfold parts idx
            rw [show (8 * y + x) / 8 = y by omega, show (8 * y + x) % 8 = x by omega]
          rw [HD.out, e]
          exact pic_fill 8 f (8 * y + x) (by omega)
        · obtain rfl : x = 8 := by omega
          go_wp2
          exact ⟨⟨y + 1, D, by omega, by go_num, Lib.hid (by rw [HD.out, show 8 * (y + 1) = 8 * y + 8 by omega]), rfl⟩, by simp [intOf]; omega⟩
    · obtain rfl : y = 8 := by omega
      have hC : C = pic 8 (fill f 64) := HC.out
      have HCI : Hid ((Try.prog.info? 30).map (·.size) = some C.size) := Lib.hid (by rw [hC, pic_size _ _ (fill_size _ _)]; exact HS37.out)
      have HZC : Hid (Z.size = C.size) := Lib.hid (by rw [hC, pic_size _ _ (fill_size _ _)]; exact HZ37.out)
      have HC1 : Hid (C.all (·.oneCell') = true) := Lib.hid (by rw [hC]; exact fill_one _ _ _)
      have HCC := Lib.hid hC
      clear hC
      go_wp2_with (first | (refine wpList_load_row rfl 30 (.tmp 7) rfl (w.heap.size + 1 + 1) rfl 30 C (0, 0) _ (h3_2 _ _ _ _) Try.underlying30 rfl HCI.out ?_) | (refine wpList_store_row rfl 30 (.tmp 6) (.tmp 40) rfl w.heap.size C rfl rfl 30 Z (h3_0 _ _ _ _) HCI.out HZC.out HC1.out ?_))
      refine bodyPost_ret (v := .agg C) (results_cell_row (fn := Try.f114) (p := 6) (ty := 30) rfl _ _ w.heap.size 30 C (0, 0) _ rfl (setRow_heap _ _ _ _ _ _ (h3_0 _ _ _ _)) Try.underlying30 rfl HCI.out) rfl ⟨by rw [HCC.out], ?_⟩
      exact below_setRow ((((Below.refl _ _).alloc (Nat.le_refl _) _).alloc (by rw [size_al]; omega) _).alloc (by rw [size_al, size_al]; omega) _) (Nat.le_refl _) _

end Go.Proofs.Ytjmfffgddmnkmab
