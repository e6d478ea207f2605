/- The program builds the plane wave of a side as the model does. Condition: slopes within -64 and 64. -/
import Derived.Test.YtokdhggajpklcaaRule
namespace Go.Proofs.Ytokdhggajpklcaa
open Go Go.RowKit

theorem cell_al2 (w : World) (A B : Obj) (n : Nat) (p : Addr) (v : Value) (h : w.cell? p = some v) : (((w.alloc A).alloc B).drewN n).cell? p = some v := by
  have hb := World.block_lt_of_cell? w _ h
  rw [World.cell?_drewN, World.cell?_alloc_lt _ _ _ (by rw [size_al]; omega), World.cell?_alloc_lt _ _ _ hb, h]

set_option maxRecDepth 100000 in
set_option maxHeartbeats 1000000 in
theorem build_two (u v : Int) (hu : within u = true) (hv : within v = true) (pu pv pn : Addr) (w : World)
    (cu : w.cell? pu = some (.int .i64 u)) (cv : w.cell? pv = some (.int .i64 v)) (cn : w.cell? pn = some (.int .i64 2)) :
    Calls Try.prog 28 #[.int .i64 2, .func (.func 29) #[] #[.pointer (some pu), .pointer (some pv), .pointer (some pn)]] w fun e w' =>
      e = .returned (.tuple #[.agg (pw 2 u v), .int .i64 0]) ∧ Below w.heap.size w w' := by
  have hz37 := (zero_of_info info37').1
  have HS37 := Lib.hid (zero_of_info info37').2
  have HZ37 : Hid ((pic 0 zc).size = 65) := Lib.hid (pic_size 0 zc zc_size)
  have hne := pic_ne
  have HB := Lib.hid (pic_set0 0 2 zc)
  obtain ⟨Z, hZ⟩ : ∃ Z, Z = pic 0 zc := ⟨_, rfl⟩
  rw [← hZ] at hz37 HZ37 hne HB
  have HE2 : Hid ((Try.prog.info? 37).map (·.size) = some (Z.setIfInBounds 0 (Value.int .i64 2)).size) := Lib.hid (by rw [HB.out, pic_size _ _ zc_size]; exact HS37.out)
  have HZ2 : Hid (Z.size = (Z.setIfInBounds 0 (Value.int .i64 2)).size) := Lib.hid (by simp)
  have H2 : Hid ((Z.setIfInBounds 0 (Value.int .i64 2)).all (·.oneCell') = true) := Lib.hid (by rw [HB.out]; exact zc_one 2)
  obtain ⟨g, hg⟩ : ∃ g, g = idx 32 u v := ⟨_, rfl⟩
  have HR : Hid (∀ (y x : Nat) (C : Array Value) (n : Nat), y < 2 → x < 2 → Calls Try.prog 29 #[.int .i64 y, .int .i64 x, .pointer (some pu), .pointer (some pv), .pointer (some pn)] (((w.alloc (.cells Z 37)).alloc (.cells C 37)).drewN n) fun e w' =>
      e = .returned (.complex .f32 (tre (g y x)) (tim (g y x))) ∧ ∃ m, w' = (((w.alloc (.cells Z 37)).alloc (.cells C 37)).drewN n).drewN m) :=
    Lib.hid fun y x C n hy hx => by rw [hg]; exact rule_two u v y x hu hv (by omega) (by omega) pu pv pn _ (cell_al2 _ _ _ _ _ _ cu) (cell_al2 _ _ _ _ _ _ cv) (cell_al2 _ _ _ _ _ _ cn)
  obtain ⟨f, hf⟩ : ∃ f, f = parts 2 32 u v := ⟨_, rfl⟩
  have HF := Lib.hid hf
  have HFL : Hid (∀ i, f i < 64) := Lib.hid (by rw [hf]; exact parts_lt 2 32 u v)
  have HT : Hid (∀ y x, fin (tre (g y x)) = true ∧ fin (tim (g y x)) = true) := Lib.hid fun y x => tab_fin _ (by rw [hg]; unfold idx; omega)
  have HI : Hid (∀ y x, x < 2 → f (2 * y + x) = g y x) := Lib.hid fun y x hx => by
    rw [hf, hg]
    unfold parts
    rw [show (2 * y + x) / 2 = y by omega, show (2 * y + x) % 2 = x by omega]
  obtain ⟨E, hE⟩ : ∃ E, E = pic 2 zc := ⟨_, rfl⟩
  rw [← hE] at HB
  have HEE := Lib.hid hE
  clear hu hv cu cv cn hf hZ hE hg
  go_enter Try.func28, Try.ntmps28
  go_wp2_with (first | fail | (refine wpList_store_row rfl 37 (.tmp 6) (.tmp 11) rfl (w.heap.size + 1) (Z.setIfInBounds 0 (Value.int .i64 2)) rfl rfl 37 Z (h2_1 _ _ _) HE2.out HZ2.out H2.out ?_; rw [setRow_al2, HB.out]))
  clear hz37 hne HE2 HZ2 H2
  go_loopw [13] (fun i wr => ∃ (y n : Nat) (C : Array Value), y ≤ 2 ∧ i = .int .i64 y ∧ Hid (C = pic 2 (fill f (2 * y))) ∧ wr = ((w.alloc (.cells Z 37)).alloc (.cells C 37)).drewN n) (fun i _ => 2 - (intOf i).toNat)
  case atStart => exact ⟨0, 0, E, by omega, rfl, Lib.hid (by rw [HEE.out, Nat.mul_zero, fill_zero]), rfl⟩
  case round =>
    obtain ⟨y, n, C, hy, rfl, HC, rfl⟩ := hrel
    by_cases hlt : y < 2
    · have hdy : decide ((y : Int) < 2) = true := by simp; omega
      go_wp2
      go_loopw [17] (fun i wr => ∃ (x n : Nat) (D : Array Value), x ≤ 2 ∧ i = .int .i64 x ∧ Hid (D = pic 2 (fill f (2 * y + x))) ∧ wr = ((w.alloc (.cells Z 37)).alloc (.cells D 37)).drewN n) (fun i _ => 2 - (intOf i).toNat)
      case atStart => exact ⟨0, n, C, by omega, rfl, HC, rfl⟩
      case round =>
        obtain ⟨x, n1, D, hx, rfl, HD, rfl⟩ := hrel
        by_cases hlt2 : x < 2
        · have hold : D[1 + (2 * y + x)]? = some (.complex .f32 0 0) := by rw [HD.out]; exact fill_old 2 f (2 * y + x) (by omega)
          go_wp2_with (first | (go_at_call 29; refine (HR.out _ _ _ _ hlt hlt2).mono ?_; rintro e w' ⟨rfl, m, rfl⟩) | (go_at_call 38; refine (isComplex_yes _ _ (HT.out _ _).1 (HT.out _ _).2 _).mono ?_; rintro e w' ⟨rfl, m', rfl⟩))
          rw [setCell_al2]
          refine ⟨⟨x + 1, _, _, by omega, by go_num, Lib.hid ?_, rfl⟩, by simp [intOf]; omega⟩
          rw [HD.out, ← HI.out y x hlt2]
          exact pic_fill 2 f (2 * y + x) (by omega)
        · obtain rfl : x = 2 := by omega
          go_wp2
          exact ⟨⟨y + 1, n1, D, by omega, by go_num, Lib.hid (by rw [HD.out, show 2 * (y + 1) = 2 * y + 2 by omega]), rfl⟩, by simp [intOf]; omega⟩
    · obtain rfl : y = 2 := by omega
      have hC : C = pic 2 (fill f 4) := HC.out
      have HCI : Hid ((Try.prog.info? 37).map (·.size) = some C.size) := Lib.hid (by rw [hC, pic_size _ _ (fill_size _ _)]; exact HS37.out)
      have HZC : Hid (Z.size = C.size) := Lib.hid (by rw [hC, pic_size _ _ (fill_size _ _)]; exact HZ37.out)
      have HC1 : Hid (C.all (·.oneCell') = true) := Lib.hid (by rw [hC]; exact fill_one _ _ _)
      have HCC := Lib.hid hC
      have HH1 : Hid ((((w.alloc (.cells Z 37)).alloc (.cells C 37)).drewN n).heap[w.heap.size + 1]? = some (.cells C 37)) := Lib.hid (h2_1 _ _ _)
      have HH0 : Hid ((((w.alloc (.cells Z 37)).alloc (.cells C 37)).drewN n).heap[w.heap.size]? = some (.cells Z 37)) := Lib.hid (h2_0 _ _ _)
      clear hC
      go_wp2_with (first | (refine wpList_load_row rfl 37 (.tmp 6) rfl (w.heap.size + 1) rfl 37 C (0, 0) _ HH1.out Try.underlying37 rfl HCI.out ?_) | (refine wpList_store_row rfl 37 (.tmp 4) (.tmp 38) rfl w.heap.size C rfl rfl 37 Z HH0.out HCI.out HZC.out HC1.out ?_))
      refine bodyPost_ret (v := .tuple #[.agg C, .int .i64 0]) (results_row_tmp (fn := Try.f28) (p := 4) (u := 5) (ty := 37) rfl _ _ w.heap.size 37 C (0, 0) _ rfl (setRow_heap _ _ _ _ _ _ HH0.out) Try.underlying37 rfl HCI.out) rfl ⟨by rw [HCC.out, HF.out]; rfl, ?_⟩
      exact below_setRow (below_drewN (below_al2 _ _ _) _) (Nat.le_refl _) _

set_option maxRecDepth 100000 in
set_option maxHeartbeats 1000000 in
theorem build_one (u v : Int) (hu : within u = true) (hv : within v = true) (pu pv pn : Addr) (w : World)
    (cu : w.cell? pu = some (.int .i64 u)) (cv : w.cell? pv = some (.int .i64 v)) (cn : w.cell? pn = some (.int .i64 1)) :
    Calls Try.prog 28 #[.int .i64 1, .func (.func 29) #[] #[.pointer (some pu), .pointer (some pv), .pointer (some pn)]] w fun e w' =>
      e = .returned (.tuple #[.agg (pw 1 u v), .int .i64 0]) ∧ Below w.heap.size w w' := by
  have hz37 := (zero_of_info info37').1
  have HS37 := Lib.hid (zero_of_info info37').2
  have HZ37 : Hid ((pic 0 zc).size = 65) := Lib.hid (pic_size 0 zc zc_size)
  have hne := pic_ne
  have HB := Lib.hid (pic_set0 0 1 zc)
  obtain ⟨Z, hZ⟩ : ∃ Z, Z = pic 0 zc := ⟨_, rfl⟩
  rw [← hZ] at hz37 HZ37 hne HB
  have HE2 : Hid ((Try.prog.info? 37).map (·.size) = some (Z.setIfInBounds 0 (Value.int .i64 1)).size) := Lib.hid (by rw [HB.out, pic_size _ _ zc_size]; exact HS37.out)
  have HZ2 : Hid (Z.size = (Z.setIfInBounds 0 (Value.int .i64 1)).size) := Lib.hid (by simp)
  have H2 : Hid ((Z.setIfInBounds 0 (Value.int .i64 1)).all (·.oneCell') = true) := Lib.hid (by rw [HB.out]; exact zc_one 1)
  obtain ⟨g, hg⟩ : ∃ g, g = idx 64 u v := ⟨_, rfl⟩
  have HR : Hid (∀ (y x : Nat) (C : Array Value) (n : Nat), y < 1 → x < 1 → Calls Try.prog 29 #[.int .i64 y, .int .i64 x, .pointer (some pu), .pointer (some pv), .pointer (some pn)] (((w.alloc (.cells Z 37)).alloc (.cells C 37)).drewN n) fun e w' =>
      e = .returned (.complex .f32 (tre (g y x)) (tim (g y x))) ∧ ∃ m, w' = (((w.alloc (.cells Z 37)).alloc (.cells C 37)).drewN n).drewN m) :=
    Lib.hid fun y x C n hy hx => by rw [hg]; exact rule_one u v y x hu hv (by omega) (by omega) pu pv pn _ (cell_al2 _ _ _ _ _ _ cu) (cell_al2 _ _ _ _ _ _ cv) (cell_al2 _ _ _ _ _ _ cn)
  obtain ⟨f, hf⟩ : ∃ f, f = parts 1 64 u v := ⟨_, rfl⟩
  have HF := Lib.hid hf
  have HFL : Hid (∀ i, f i < 64) := Lib.hid (by rw [hf]; exact parts_lt 1 64 u v)
  have HT : Hid (∀ y x, fin (tre (g y x)) = true ∧ fin (tim (g y x)) = true) := Lib.hid fun y x => tab_fin _ (by rw [hg]; unfold idx; omega)
  have HI : Hid (∀ y x, x < 1 → f (1 * y + x) = g y x) := Lib.hid fun y x hx => by
    rw [hf, hg]
    unfold parts
    rw [show (1 * y + x) / 1 = y by omega, show (1 * y + x) % 1 = x by omega]
  obtain ⟨E, hE⟩ : ∃ E, E = pic 1 zc := ⟨_, rfl⟩
  rw [← hE] at HB
  have HEE := Lib.hid hE
  clear hu hv cu cv cn hf hZ hE hg
  go_enter Try.func28, Try.ntmps28
  go_wp2_with (first | fail | (refine wpList_store_row rfl 37 (.tmp 6) (.tmp 11) rfl (w.heap.size + 1) (Z.setIfInBounds 0 (Value.int .i64 1)) rfl rfl 37 Z (h2_1 _ _ _) HE2.out HZ2.out H2.out ?_; rw [setRow_al2, HB.out]))
  clear hz37 hne HE2 HZ2 H2
  go_loopw [13] (fun i wr => ∃ (y n : Nat) (C : Array Value), y ≤ 1 ∧ i = .int .i64 y ∧ Hid (C = pic 1 (fill f (1 * y))) ∧ wr = ((w.alloc (.cells Z 37)).alloc (.cells C 37)).drewN n) (fun i _ => 1 - (intOf i).toNat)
  case atStart => exact ⟨0, 0, E, by omega, rfl, Lib.hid (by rw [HEE.out, Nat.mul_zero, fill_zero]), rfl⟩
  case round =>
    obtain ⟨y, n, C, hy, rfl, HC, rfl⟩ := hrel
    by_cases hlt : y < 1
    · have hdy : decide ((y : Int) < 1) = true := by simp; omega
      go_wp2
      go_loopw [17] (fun i wr => ∃ (x n : Nat) (D : Array Value), x ≤ 1 ∧ i = .int .i64 x ∧ Hid (D = pic 1 (fill f (1 * y + x))) ∧ wr = ((w.alloc (.cells Z 37)).alloc (.cells D 37)).drewN n) (fun i _ => 1 - (intOf i).toNat)
      case atStart => exact ⟨0, n, C, by omega, rfl, HC, rfl⟩
      case round =>
        obtain ⟨x, n1, D, hx, rfl, HD, rfl⟩ := hrel
        by_cases hlt2 : x < 1
        · have hold : D[1 + (y + x)]? = some (.complex .f32 0 0) := by rw [HD.out, show 1 + (y + x) = 1 + (1 * y + x) by omega]; exact fill_old 1 f (1 * y + x) (by omega)
          go_wp2_with (first | (go_at_call 29; refine (HR.out _ _ _ _ hlt hlt2).mono ?_; rintro e w' ⟨rfl, m, rfl⟩) | (go_at_call 38; refine (isComplex_yes _ _ (HT.out _ _).1 (HT.out _ _).2 _).mono ?_; rintro e w' ⟨rfl, m', rfl⟩))
          rw [setCell_al2]
          refine ⟨⟨x + 1, _, _, by omega, by go_num, Lib.hid ?_, rfl⟩, by simp [intOf]; omega⟩
          rw [HD.out, ← HI.out y x hlt2]
          rw [show 1 + (y + x) = 1 + (1 * y + x) by omega]
          exact pic_fill 1 f (1 * y + x) (by omega)
        · obtain rfl : x = 1 := by omega
          go_wp2
          exact ⟨⟨y + 1, n1, D, by omega, by go_num, Lib.hid (by rw [HD.out, show 1 * (y + 1) = 1 * y + 1 by omega]), rfl⟩, by simp [intOf]; omega⟩
    · obtain rfl : y = 1 := by omega
      have hC : C = pic 1 (fill f 1) := HC.out
      have HCI : Hid ((Try.prog.info? 37).map (·.size) = some C.size) := Lib.hid (by rw [hC, pic_size _ _ (fill_size _ _)]; exact HS37.out)
      have HZC : Hid (Z.size = C.size) := Lib.hid (by rw [hC, pic_size _ _ (fill_size _ _)]; exact HZ37.out)
      have HC1 : Hid (C.all (·.oneCell') = true) := Lib.hid (by rw [hC]; exact fill_one _ _ _)
      have HCC := Lib.hid hC
      have HH1 : Hid ((((w.alloc (.cells Z 37)).alloc (.cells C 37)).drewN n).heap[w.heap.size + 1]? = some (.cells C 37)) := Lib.hid (h2_1 _ _ _)
      have HH0 : Hid ((((w.alloc (.cells Z 37)).alloc (.cells C 37)).drewN n).heap[w.heap.size]? = some (.cells Z 37)) := Lib.hid (h2_0 _ _ _)
      clear hC
      go_wp2_with (first | (refine wpList_load_row rfl 37 (.tmp 6) rfl (w.heap.size + 1) rfl 37 C (0, 0) _ HH1.out Try.underlying37 rfl HCI.out ?_) | (refine wpList_store_row rfl 37 (.tmp 4) (.tmp 38) rfl w.heap.size C rfl rfl 37 Z HH0.out HCI.out HZC.out HC1.out ?_))
      refine bodyPost_ret (v := .tuple #[.agg C, .int .i64 0]) (results_row_tmp (fn := Try.f28) (p := 4) (u := 5) (ty := 37) rfl _ _ w.heap.size 37 C (0, 0) _ rfl (setRow_heap _ _ _ _ _ _ HH0.out) Try.underlying37 rfl HCI.out) rfl ⟨by rw [HCC.out, HF.out]; rfl, ?_⟩
      exact below_setRow (below_drewN (below_al2 _ _ _) _) (Nat.le_refl _) _

set_option maxRecDepth 100000 in
set_option maxHeartbeats 1000000 in
theorem build_four (u v : Int) (hu : within u = true) (hv : within v = true) (pu pv pn : Addr) (w : World)
    (cu : w.cell? pu = some (.int .i64 u)) (cv : w.cell? pv = some (.int .i64 v)) (cn : w.cell? pn = some (.int .i64 4)) :
    Calls Try.prog 28 #[.int .i64 4, .func (.func 29) #[] #[.pointer (some pu), .pointer (some pv), .pointer (some pn)]] w fun e w' =>
      e = .returned (.tuple #[.agg (pw 4 u v), .int .i64 0]) ∧ Below w.heap.size w w' := by
  have hz37 := (zero_of_info info37').1
  have HS37 := Lib.hid (zero_of_info info37').2
  have HZ37 : Hid ((pic 0 zc).size = 65) := Lib.hid (pic_size 0 zc zc_size)
  have hne := pic_ne
  have HB := Lib.hid (pic_set0 0 4 zc)
  obtain ⟨Z, hZ⟩ : ∃ Z, Z = pic 0 zc := ⟨_, rfl⟩
  rw [← hZ] at hz37 HZ37 hne HB
  have HE2 : Hid ((Try.prog.info? 37).map (·.size) = some (Z.setIfInBounds 0 (Value.int .i64 4)).size) := Lib.hid (by rw [HB.out, pic_size _ _ zc_size]; exact HS37.out)
  have HZ2 : Hid (Z.size = (Z.setIfInBounds 0 (Value.int .i64 4)).size) := Lib.hid (by simp)
  have H2 : Hid ((Z.setIfInBounds 0 (Value.int .i64 4)).all (·.oneCell') = true) := Lib.hid (by rw [HB.out]; exact zc_one 4)
  obtain ⟨g, hg⟩ : ∃ g, g = idx 16 u v := ⟨_, rfl⟩
  have HR : Hid (∀ (y x : Nat) (C : Array Value) (n : Nat), y < 4 → x < 4 → Calls Try.prog 29 #[.int .i64 y, .int .i64 x, .pointer (some pu), .pointer (some pv), .pointer (some pn)] (((w.alloc (.cells Z 37)).alloc (.cells C 37)).drewN n) fun e w' =>
      e = .returned (.complex .f32 (tre (g y x)) (tim (g y x))) ∧ ∃ m, w' = (((w.alloc (.cells Z 37)).alloc (.cells C 37)).drewN n).drewN m) :=
    Lib.hid fun y x C n hy hx => by rw [hg]; exact rule_four u v y x hu hv (by omega) (by omega) pu pv pn _ (cell_al2 _ _ _ _ _ _ cu) (cell_al2 _ _ _ _ _ _ cv) (cell_al2 _ _ _ _ _ _ cn)
  obtain ⟨f, hf⟩ : ∃ f, f = parts 4 16 u v := ⟨_, rfl⟩
  have HF := Lib.hid hf
  have HFL : Hid (∀ i, f i < 64) := Lib.hid (by rw [hf]; exact parts_lt 4 16 u v)
  have HT : Hid (∀ y x, fin (tre (g y x)) = true ∧ fin (tim (g y x)) = true) := Lib.hid fun y x => tab_fin _ (by rw [hg]; unfold idx; omega)
  have HI : Hid (∀ y x, x < 4 → f (4 * y + x) = g y x) := Lib.hid fun y x hx => by
    rw [hf, hg]
    unfold parts
    rw [show (4 * y + x) / 4 = y by omega, show (4 * y + x) % 4 = x by omega]
  obtain ⟨E, hE⟩ : ∃ E, E = pic 4 zc := ⟨_, rfl⟩
  rw [← hE] at HB
  have HEE := Lib.hid hE
  clear hu hv cu cv cn hf hZ hE hg
  go_enter Try.func28, Try.ntmps28
  go_wp2_with (first | fail | (refine wpList_store_row rfl 37 (.tmp 6) (.tmp 11) rfl (w.heap.size + 1) (Z.setIfInBounds 0 (Value.int .i64 4)) rfl rfl 37 Z (h2_1 _ _ _) HE2.out HZ2.out H2.out ?_; rw [setRow_al2, HB.out]))
  clear hz37 hne HE2 HZ2 H2
  go_loopw [13] (fun i wr => ∃ (y n : Nat) (C : Array Value), y ≤ 4 ∧ i = .int .i64 y ∧ Hid (C = pic 4 (fill f (4 * y))) ∧ wr = ((w.alloc (.cells Z 37)).alloc (.cells C 37)).drewN n) (fun i _ => 4 - (intOf i).toNat)
  case atStart => exact ⟨0, 0, E, by omega, rfl, Lib.hid (by rw [HEE.out, Nat.mul_zero, fill_zero]), rfl⟩
  case round =>
    obtain ⟨y, n, C, hy, rfl, HC, rfl⟩ := hrel
    by_cases hlt : y < 4
    · have hdy : decide ((y : Int) < 4) = true := by simp; omega
      go_wp2
      go_loopw [17] (fun i wr => ∃ (x n : Nat) (D : Array Value), x ≤ 4 ∧ i = .int .i64 x ∧ Hid (D = pic 4 (fill f (4 * y + x))) ∧ wr = ((w.alloc (.cells Z 37)).alloc (.cells D 37)).drewN n) (fun i _ => 4 - (intOf i).toNat)
      case atStart => exact ⟨0, n, C, by omega, rfl, HC, rfl⟩
      case round =>
        obtain ⟨x, n1, D, hx, rfl, HD, rfl⟩ := hrel
        by_cases hlt2 : x < 4
        · have hold : D[1 + (4 * y + x)]? = some (.complex .f32 0 0) := by rw [HD.out]; exact fill_old 4 f (4 * y + x) (by omega)
          go_wp2_with (first | (go_at_call 29; refine (HR.out _ _ _ _ hlt hlt2).mono ?_; rintro e w' ⟨rfl, m, rfl⟩) | (go_at_call 38; refine (isComplex_yes _ _ (HT.out _ _).1 (HT.out _ _).2 _).mono ?_; rintro e w' ⟨rfl, m', rfl⟩))
          rw [setCell_al2]
          refine ⟨⟨x + 1, _, _, by omega, by go_num, Lib.hid ?_, rfl⟩, by simp [intOf]; omega⟩
          rw [HD.out, ← HI.out y x hlt2]
          exact pic_fill 4 f (4 * y + x) (by omega)
        · obtain rfl : x = 4 := by omega
          go_wp2
          exact ⟨⟨y + 1, n1, D, by omega, by go_num, Lib.hid (by rw [HD.out, show 4 * (y + 1) = 4 * y + 4 by omega]), rfl⟩, by simp [intOf]; omega⟩
    · obtain rfl : y = 4 := by omega
      have hC : C = pic 4 (fill f 16) := HC.out
      have HCI : Hid ((Try.prog.info? 37).map (·.size) = some C.size) := Lib.hid (by rw [hC, pic_size _ _ (fill_size _ _)]; exact HS37.out)
      have HZC : Hid (Z.size = C.size) := Lib.hid (by rw [hC, pic_size _ _ (fill_size _ _)]; exact HZ37.out)
      have HC1 : Hid (C.all (·.oneCell') = true) := Lib.hid (by rw [hC]; exact fill_one _ _ _)
      have HCC := Lib.hid hC
      have HH1 : Hid ((((w.alloc (.cells Z 37)).alloc (.cells C 37)).drewN n).heap[w.heap.size + 1]? = some (.cells C 37)) := Lib.hid (h2_1 _ _ _)
      have HH0 : Hid ((((w.alloc (.cells Z 37)).alloc (.cells C 37)).drewN n).heap[w.heap.size]? = some (.cells Z 37)) := Lib.hid (h2_0 _ _ _)
      clear hC
      go_wp2_with (first | (refine wpList_load_row rfl 37 (.tmp 6) rfl (w.heap.size + 1) rfl 37 C (0, 0) _ HH1.out Try.underlying37 rfl HCI.out ?_) | (refine wpList_store_row rfl 37 (.tmp 4) (.tmp 38) rfl w.heap.size C rfl rfl 37 Z HH0.out HCI.out HZC.out HC1.out ?_))
      refine bodyPost_ret (v := .tuple #[.agg C, .int .i64 0]) (results_row_tmp (fn := Try.f28) (p := 4) (u := 5) (ty := 37) rfl _ _ w.heap.size 37 C (0, 0) _ rfl (setRow_heap _ _ _ _ _ _ HH0.out) Try.underlying37 rfl HCI.out) rfl ⟨by rw [HCC.out, HF.out]; rfl, ?_⟩
      exact below_setRow (below_drewN (below_al2 _ _ _) _) (Nat.le_refl _) _

set_option maxRecDepth 100000 in
set_option maxHeartbeats 1000000 in
theorem build_eight (u v : Int) (hu : within u = true) (hv : within v = true) (pu pv pn : Addr) (w : World)
    (cu : w.cell? pu = some (.int .i64 u)) (cv : w.cell? pv = some (.int .i64 v)) (cn : w.cell? pn = some (.int .i64 8)) :
    Calls Try.prog 28 #[.int .i64 8, .func (.func 29) #[] #[.pointer (some pu), .pointer (some pv), .pointer (some pn)]] w fun e w' =>
      e = .returned (.tuple #[.agg (pw 8 u v), .int .i64 0]) ∧ Below w.heap.size w w' := by
  have hz37 := (zero_of_info info37').1
  have HS37 := Lib.hid (zero_of_info info37').2
  have HZ37 : Hid ((pic 0 zc).size = 65) := Lib.hid (pic_size 0 zc zc_size)
  have hne := pic_ne
  have HB := Lib.hid (pic_set0 0 8 zc)
  obtain ⟨Z, hZ⟩ : ∃ Z, Z = pic 0 zc := ⟨_, rfl⟩
  rw [← hZ] at hz37 HZ37 hne HB
  have HE2 : Hid ((Try.prog.info? 37).map (·.size) = some (Z.setIfInBounds 0 (Value.int .i64 8)).size) := Lib.hid (by rw [HB.out, pic_size _ _ zc_size]; exact HS37.out)
  have HZ2 : Hid (Z.size = (Z.setIfInBounds 0 (Value.int .i64 8)).size) := Lib.hid (by simp)
  have H2 : Hid ((Z.setIfInBounds 0 (Value.int .i64 8)).all (·.oneCell') = true) := Lib.hid (by rw [HB.out]; exact zc_one 8)
  obtain ⟨g, hg⟩ : ∃ g, g = idx 8 u v := ⟨_, rfl⟩
  have HR : Hid (∀ (y x : Nat) (C : Array Value) (n : Nat), y < 8 → x < 8 → Calls Try.prog 29 #[.int .i64 y, .int .i64 x, .pointer (some pu), .pointer (some pv), .pointer (some pn)] (((w.alloc (.cells Z 37)).alloc (.cells C 37)).drewN n) fun e w' =>
      e = .returned (.complex .f32 (tre (g y x)) (tim (g y x))) ∧ ∃ m, w' = (((w.alloc (.cells Z 37)).alloc (.cells C 37)).drewN n).drewN m) :=
    Lib.hid fun y x C n hy hx => by rw [hg]; exact rule_eight u v y x hu hv (by omega) (by omega) pu pv pn _ (cell_al2 _ _ _ _ _ _ cu) (cell_al2 _ _ _ _ _ _ cv) (cell_al2 _ _ _ _ _ _ cn)
  obtain ⟨f, hf⟩ : ∃ f, f = parts 8 8 u v := ⟨_, rfl⟩
  have HF := Lib.hid hf
  have HFL : Hid (∀ i, f i < 64) := Lib.hid (by rw [hf]; exact parts_lt 8 8 u v)
  have HT : Hid (∀ y x, fin (tre (g y x)) = true ∧ fin (tim (g y x)) = true) := Lib.hid fun y x => tab_fin _ (by rw [hg]; unfold idx; omega)
  have HI : Hid (∀ y x, x < 8 → f (8 * y + x) = g y x) := Lib.hid fun y x hx => by
    rw [hf, hg]
    unfold parts
    rw [show (8 * y + x) / 8 = y by omega, show (8 * y + x) % 8 = x by omega]
  obtain ⟨E, hE⟩ : ∃ E, E = pic 8 zc := ⟨_, rfl⟩
  rw [← hE] at HB
  have HEE := Lib.hid hE
  clear hu hv cu cv cn hf hZ hE hg
  go_enter Try.func28, Try.ntmps28
  go_wp2_with (first | fail | (refine wpList_store_row rfl 37 (.tmp 6) (.tmp 11) rfl (w.heap.size + 1) (Z.setIfInBounds 0 (Value.int .i64 8)) rfl rfl 37 Z (h2_1 _ _ _) HE2.out HZ2.out H2.out ?_; rw [setRow_al2, HB.out]))
  clear hz37 hne HE2 HZ2 H2
  go_loopw [13] (fun i wr => ∃ (y n : Nat) (C : Array Value), y ≤ 8 ∧ i = .int .i64 y ∧ Hid (C = pic 8 (fill f (8 * y))) ∧ wr = ((w.alloc (.cells Z 37)).alloc (.cells C 37)).drewN n) (fun i _ => 8 - (intOf i).toNat)
  case atStart => exact ⟨0, 0, E, by omega, rfl, Lib.hid (by rw [HEE.out, Nat.mul_zero, fill_zero]), rfl⟩
  case round =>
    obtain ⟨y, n, C, hy, rfl, HC, rfl⟩ := hrel
    by_cases hlt : y < 8
    · have hdy : decide ((y : Int) < 8) = true := by simp; omega
      go_wp2
      go_loopw [17] (fun i wr => ∃ (x n : Nat) (D : Array Value), x ≤ 8 ∧ i = .int .i64 x ∧ Hid (D = pic 8 (fill f (8 * y + x))) ∧ wr = ((w.alloc (.cells Z 37)).alloc (.cells D 37)).drewN n) (fun i _ => 8 - (intOf i).toNat)
      case atStart => exact ⟨0, n, C, by omega, rfl, HC, rfl⟩
      case round =>
        obtain ⟨x, n1, D, hx, rfl, HD, rfl⟩ := hrel
        by_cases hlt2 : x < 8
        · have hold : D[1 + (8 * y + x)]? = some (.complex .f32 0 0) := by rw [HD.out]; exact fill_old 8 f (8 * y + x) (by omega)
          go_wp2_with (first | (go_at_call 29; refine (HR.out _ _ _ _ hlt hlt2).mono ?_; rintro e w' ⟨rfl, m, rfl⟩) | (go_at_call 38; refine (isComplex_yes _ _ (HT.out _ _).1 (HT.out _ _).2 _).mono ?_; rintro e w' ⟨rfl, m', rfl⟩))
          rw [setCell_al2]
          refine ⟨⟨x + 1, _, _, by omega, by go_num, Lib.hid ?_, rfl⟩, by simp [intOf]; omega⟩
          rw [HD.out, ← HI.out y x hlt2]
          exact pic_fill 8 f (8 * y + x) (by omega)
        · obtain rfl : x = 8 := by omega
          go_wp2
          exact ⟨⟨y + 1, n1, D, by omega, by go_num, Lib.hid (by rw [HD.out, show 8 * (y + 1) = 8 * y + 8 by omega]), rfl⟩, by simp [intOf]; omega⟩
    · obtain rfl : y = 8 := by omega
      have hC : C = pic 8 (fill f 64) := HC.out
      have HCI : Hid ((Try.prog.info? 37).map (·.size) = some C.size) := Lib.hid (by rw [hC, pic_size _ _ (fill_size _ _)]; exact HS37.out)
      have HZC : Hid (Z.size = C.size) := Lib.hid (by rw [hC, pic_size _ _ (fill_size _ _)]; exact HZ37.out)
      have HC1 : Hid (C.all (·.oneCell') = true) := Lib.hid (by rw [hC]; exact fill_one _ _ _)
      have HCC := Lib.hid hC
      have HH1 : Hid ((((w.alloc (.cells Z 37)).alloc (.cells C 37)).drewN n).heap[w.heap.size + 1]? = some (.cells C 37)) := Lib.hid (h2_1 _ _ _)
      have HH0 : Hid ((((w.alloc (.cells Z 37)).alloc (.cells C 37)).drewN n).heap[w.heap.size]? = some (.cells Z 37)) := Lib.hid (h2_0 _ _ _)
      clear hC
      go_wp2_with (first | (refine wpList_load_row rfl 37 (.tmp 6) rfl (w.heap.size + 1) rfl 37 C (0, 0) _ HH1.out Try.underlying37 rfl HCI.out ?_) | (refine wpList_store_row rfl 37 (.tmp 4) (.tmp 38) rfl w.heap.size C rfl rfl 37 Z HH0.out HCI.out HZC.out HC1.out ?_))
      refine bodyPost_ret (v := .tuple #[.agg C, .int .i64 0]) (results_row_tmp (fn := Try.f28) (p := 4) (u := 5) (ty := 37) rfl _ _ w.heap.size 37 C (0, 0) _ rfl (setRow_heap _ _ _ _ _ _ HH0.out) Try.underlying37 rfl HCI.out) rfl ⟨by rw [HCC.out, HF.out]; rfl, ?_⟩
      exact below_setRow (below_drewN (below_al2 _ _ _) _) (Nat.le_refl _) _

end Go.Proofs.Ytokdhggajpklcaa
