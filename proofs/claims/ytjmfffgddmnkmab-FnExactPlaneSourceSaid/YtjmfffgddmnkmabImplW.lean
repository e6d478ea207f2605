/- The program's PlaneWave: the plane wave, or zeros and the code of a range. Condition: none. -/
import Derived.Test.YtjmfffgddmnkmabBuild
import Derived.Test.YtjmfffgddmnkmabRule
import Derived.Deep.Cut
namespace Go.Proofs.Ytjmfffgddmnkmab
open Go Go.RowKit

theorem build_one (u v : Int) (hu : within u = true) (hv : within v = true) (pu pv pn : Addr) (w : World)
    (cu : w.cell? pu = some (.int .i64 u)) (cv : w.cell? pv = some (.int .i64 v)) (cn : w.cell? pn = some (.int .i64 1)) :
    Calls Try.prog 77 #[.int .i64 1, .func (.func 134) #[] #[.pointer (some pu), .pointer (some pv), .pointer (some pn)]] w fun e w' =>
      e = .returned (.tuple #[.agg (pw 1 u v), .int .i64 0]) ∧ Below w.heap.size w w' := by
  have hF : ∀ i, (fin ((fun i => (tre (parts 1 64 u v i), tim (parts 1 64 u v i))) i : Nat × Nat).1 && fin ((fun i => (tre (parts 1 64 u v i), tim (parts 1 64 u v i))) i : Nat × Nat).2) = true := fun i => by
    obtain ⟨h1, h2⟩ := tab_fin (parts 1 64 u v i) (parts_lt _ _ _ _ _)
    rw [h1, h2]
    rfl
  exact build_plane 1 rfl (fun i => (tre (parts 1 64 u v i), tim (parts 1 64 u v i))) hF pu pv pn w fun y x C m hy hx => by
    have h := rule_one u v y x hu hv (by omega) (by omega) pu pv pn _ (cell_al2 w (.cells (pic 0 zc) 30) (.cells C 30) m _ _ cu) (cell_al2 _ _ _ _ _ _ cv) (cell_al2 _ _ _ _ _ _ cn)
    have e : parts 1 64 u v (1 * y + x) = idx 64 u v y x := by
      unfold parts
      rw [show (1 * y + x) / 1 = y by omega, show (1 * y + x) % 1 = x by omega]
    rw [← e] at h
    exact h
theorem build_two (u v : Int) (hu : within u = true) (hv : within v = true) (pu pv pn : Addr) (w : World)
    (cu : w.cell? pu = some (.int .i64 u)) (cv : w.cell? pv = some (.int .i64 v)) (cn : w.cell? pn = some (.int .i64 2)) :
    Calls Try.prog 77 #[.int .i64 2, .func (.func 134) #[] #[.pointer (some pu), .pointer (some pv), .pointer (some pn)]] w fun e w' =>
      e = .returned (.tuple #[.agg (pw 2 u v), .int .i64 0]) ∧ Below w.heap.size w w' := by
  have hF : ∀ i, (fin ((fun i => (tre (parts 2 32 u v i), tim (parts 2 32 u v i))) i : Nat × Nat).1 && fin ((fun i => (tre (parts 2 32 u v i), tim (parts 2 32 u v i))) i : Nat × Nat).2) = true := fun i => by
    obtain ⟨h1, h2⟩ := tab_fin (parts 2 32 u v i) (parts_lt _ _ _ _ _)
    rw [h1, h2]
    rfl
  exact build_plane 2 rfl (fun i => (tre (parts 2 32 u v i), tim (parts 2 32 u v i))) hF pu pv pn w fun y x C m hy hx => by
    have h := rule_two u v y x hu hv (by omega) (by omega) pu pv pn _ (cell_al2 w (.cells (pic 0 zc) 30) (.cells C 30) m _ _ cu) (cell_al2 _ _ _ _ _ _ cv) (cell_al2 _ _ _ _ _ _ cn)
    have e : parts 2 32 u v (2 * y + x) = idx 32 u v y x := by
      unfold parts
      rw [show (2 * y + x) / 2 = y by omega, show (2 * y + x) % 2 = x by omega]
    rw [← e] at h
    exact h
theorem build_four (u v : Int) (hu : within u = true) (hv : within v = true) (pu pv pn : Addr) (w : World)
    (cu : w.cell? pu = some (.int .i64 u)) (cv : w.cell? pv = some (.int .i64 v)) (cn : w.cell? pn = some (.int .i64 4)) :
    Calls Try.prog 77 #[.int .i64 4, .func (.func 134) #[] #[.pointer (some pu), .pointer (some pv), .pointer (some pn)]] w fun e w' =>
      e = .returned (.tuple #[.agg (pw 4 u v), .int .i64 0]) ∧ Below w.heap.size w w' := by
  have hF : ∀ i, (fin ((fun i => (tre (parts 4 16 u v i), tim (parts 4 16 u v i))) i : Nat × Nat).1 && fin ((fun i => (tre (parts 4 16 u v i), tim (parts 4 16 u v i))) i : Nat × Nat).2) = true := fun i => by
    obtain ⟨h1, h2⟩ := tab_fin (parts 4 16 u v i) (parts_lt _ _ _ _ _)
    rw [h1, h2]
    rfl
  exact build_plane 4 rfl (fun i => (tre (parts 4 16 u v i), tim (parts 4 16 u v i))) hF pu pv pn w fun y x C m hy hx => by
    have h := rule_four u v y x hu hv (by omega) (by omega) pu pv pn _ (cell_al2 w (.cells (pic 0 zc) 30) (.cells C 30) m _ _ cu) (cell_al2 _ _ _ _ _ _ cv) (cell_al2 _ _ _ _ _ _ cn)
    have e : parts 4 16 u v (4 * y + x) = idx 16 u v y x := by
      unfold parts
      rw [show (4 * y + x) / 4 = y by omega, show (4 * y + x) % 4 = x by omega]
    rw [← e] at h
    exact h
theorem build_eight (u v : Int) (hu : within u = true) (hv : within v = true) (pu pv pn : Addr) (w : World)
    (cu : w.cell? pu = some (.int .i64 u)) (cv : w.cell? pv = some (.int .i64 v)) (cn : w.cell? pn = some (.int .i64 8)) :
    Calls Try.prog 77 #[.int .i64 8, .func (.func 134) #[] #[.pointer (some pu), .pointer (some pv), .pointer (some pn)]] w fun e w' =>
      e = .returned (.tuple #[.agg (pw 8 u v), .int .i64 0]) ∧ Below w.heap.size w w' := by
  have hF : ∀ i, (fin ((fun i => (tre (parts 8 8 u v i), tim (parts 8 8 u v i))) i : Nat × Nat).1 && fin ((fun i => (tre (parts 8 8 u v i), tim (parts 8 8 u v i))) i : Nat × Nat).2) = true := fun i => by
    obtain ⟨h1, h2⟩ := tab_fin (parts 8 8 u v i) (parts_lt _ _ _ _ _)
    rw [h1, h2]
    rfl
  exact build_plane 8 rfl (fun i => (tre (parts 8 8 u v i), tim (parts 8 8 u v i))) hF pu pv pn w fun y x C m hy hx => by
    have h := rule_eight u v y x hu hv (by omega) (by omega) pu pv pn _ (cell_al2 w (.cells (pic 0 zc) 30) (.cells C 30) m _ _ cu) (cell_al2 _ _ _ _ _ _ cv) (cell_al2 _ _ _ _ _ _ cn)
    have e : parts 8 8 u v (8 * y + x) = idx 8 u v y x := by
      unfold parts
      rw [show (8 * y + x) / 8 = y by omega, show (8 * y + x) % 8 = x by omega]
    rw [← e] at h
    exact h
theorem build_any (n u v : Int) (hn : side n = true) (hu : within u = true) (hv : within v = true) (pu pv pn : Addr) (w : World)
    (cu : w.cell? pu = some (.int .i64 u)) (cv : w.cell? pv = some (.int .i64 v)) (cn : w.cell? pn = some (.int .i64 n)) :
    Calls Try.prog 77 #[.int .i64 n, .func (.func 134) #[] #[.pointer (some pu), .pointer (some pv), .pointer (some pn)]] w fun e w' =>
      e = .returned (.tuple #[.agg (pw n u v), .int .i64 0]) ∧ Below w.heap.size w w' := by
  rcases side_yes n hn with rfl | rfl | rfl | rfl
  · exact build_one u v hu hv pu pv pn w cu cv cn
  · exact build_two u v hu hv pu pv pn w cu cv cn
  · exact build_four u v hu hv pu pv pn w cu cv cn
  · exact build_eight u v hu hv pu pv pn w cu cv cn

theorem h4_3 (w : World) (A B C D : Obj) : ((((w.alloc A).alloc B).alloc C).alloc D).heap[w.heap.size + 1 + 1 + 1]? = some D := by
  have h := heap_alloc_new (((w.alloc A).alloc B).alloc C) D
  rwa [size_al, size_al, size_al] at h
theorem h4_2 (w : World) (A B C D : Obj) : ((((w.alloc A).alloc B).alloc C).alloc D).heap[w.heap.size + 1 + 1]? = some C := by
  rw [heap_alloc_old _ _ (by rw [size_al, size_al, size_al]; omega)]; exact h3_2 w A B C
theorem h4_1 (w : World) (A B C D : Obj) : ((((w.alloc A).alloc B).alloc C).alloc D).heap[w.heap.size + 1]? = some B := by
  rw [heap_alloc_old _ _ (by rw [size_al, size_al, size_al]; omega)]; exact h3_1 w A B C
theorem h4_0 (w : World) (A B C D : Obj) : ((((w.alloc A).alloc B).alloc C).alloc D).heap[w.heap.size]? = some A := by
  rw [heap_alloc_old _ _ (by rw [size_al, size_al, size_al]; omega)]; exact h3_0 w A B C
theorem below_al4 (w : World) (A B C D : Obj) : Below w.heap.size w ((((w.alloc A).alloc B).alloc C).alloc D) :=
  ((((Below.refl _ _).alloc (Nat.le_refl _) _).alloc (by rw [size_al]; omega) _).alloc (by rw [size_al, size_al]; omega) _).alloc (by rw [size_al, size_al, size_al]; omega) _
theorem setRow_al4 (w : World) (A B C : Obj) (Z cs : Array Value) (t : TypeId) : ((((w.alloc A).alloc B).alloc C).alloc (.cells Z t)).setRow (w.heap.size + 1 + 1 + 1) cs = (((w.alloc A).alloc B).alloc C).alloc (.cells cs t) := by
  have h := World.setRow_alloc_new (((w.alloc A).alloc B).alloc C) Z cs t
  rwa [size_al, size_al, size_al] at h

set_option maxRecDepth 100000 in
set_option maxHeartbeats 400000 in
theorem impl_pw_no1 (n u v : Int) (hn : side n = false) (w : World) :
    Calls Try.prog 116 #[.int .i64 n, .int .i64 u, .int .i64 v] w fun e w' => e = .returned (.tuple #[.agg (pic 0 zc), .int .i64 2]) ∧ Below w.heap.size w w' := by
  have hz37 := (zero_of_info info37').1
  have HI : Hid ((Try.prog.info? 30).map (·.size) = some (pic 0 zc).size) := Lib.hid (by rw [pic_size 0 zc zc_size]; exact (zero_of_info info37').2)
  have H1 := Lib.hid (zc_one 0)
  have hne := pic_ne
  obtain ⟨Z, hZ⟩ : ∃ Z, Z = pic 0 zc := ⟨_, rfl⟩
  rw [← hZ] at hz37 HI H1 hne
  have HZ := Lib.hid hZ
  clear hZ
  go_enter Try.func116, Try.ntmps116
  go_upto_region 2 with (first | (go_at_call 65; refine (isSide_any _ _).mono ?_; rintro e w' ⟨rfl, rfl⟩) | (go_at_call 126; refine (within_any _ _).mono ?_; rintro e w' ⟨rfl, rfl⟩))
  iterate 4 go_step
  refine wpList_store_row rfl 30 (.tmp 6) (.tmp 21) rfl (w.heap.size + 1 + 1 + 1) Z rfl rfl 30 Z (h4_3 _ _ _ _ _) HI.out rfl H1.out ?_
  rw [setRow_al4]
  go_wp2
  refine bodyPost_ret (v := .tuple #[.agg Z, .int .i64 2]) (results_row_tmp (fn := Try.f116) (p := 6) (u := 7) (ty := 30) rfl _ _ (w.heap.size + 1 + 1 + 1) 30 Z (0, 0) _ rfl (h4_3 _ _ _ _ _) Try.underlying30 rfl HI.out) rfl ⟨by rw [HZ.out], ?_⟩
  exact below_al4 _ _ _ _ _

set_option maxRecDepth 100000 in
set_option maxHeartbeats 400000 in
theorem impl_pw_no2 (n u v : Int) (hn : side n = true) (hu : within u = false) (w : World) :
    Calls Try.prog 116 #[.int .i64 n, .int .i64 u, .int .i64 v] w fun e w' => e = .returned (.tuple #[.agg (pic 0 zc), .int .i64 2]) ∧ Below w.heap.size w w' := by
  have hz37 := (zero_of_info info37').1
  have HI : Hid ((Try.prog.info? 30).map (·.size) = some (pic 0 zc).size) := Lib.hid (by rw [pic_size 0 zc zc_size]; exact (zero_of_info info37').2)
  have H1 := Lib.hid (zc_one 0)
  have hne := pic_ne
  obtain ⟨Z, hZ⟩ : ∃ Z, Z = pic 0 zc := ⟨_, rfl⟩
  rw [← hZ] at hz37 HI H1 hne
  have HZ := Lib.hid hZ
  clear hZ
  go_enter Try.func116, Try.ntmps116
  go_upto_region 2 with (first | (go_at_call 65; refine (isSide_any _ _).mono ?_; rintro e w' ⟨rfl, rfl⟩) | (go_at_call 126; refine (within_any _ _).mono ?_; rintro e w' ⟨rfl, rfl⟩))
  iterate 4 go_step
  refine wpList_store_row rfl 30 (.tmp 6) (.tmp 21) rfl (w.heap.size + 1 + 1 + 1) Z rfl rfl 30 Z (h4_3 _ _ _ _ _) HI.out rfl H1.out ?_
  rw [setRow_al4]
  go_wp2
  refine bodyPost_ret (v := .tuple #[.agg Z, .int .i64 2]) (results_row_tmp (fn := Try.f116) (p := 6) (u := 7) (ty := 30) rfl _ _ (w.heap.size + 1 + 1 + 1) 30 Z (0, 0) _ rfl (h4_3 _ _ _ _ _) Try.underlying30 rfl HI.out) rfl ⟨by rw [HZ.out], ?_⟩
  exact below_al4 _ _ _ _ _

set_option maxRecDepth 100000 in
set_option maxHeartbeats 400000 in
theorem impl_pw_no3 (n u v : Int) (hn : side n = true) (hu : within u = true) (hv : within v = false) (w : World) :
    Calls Try.prog 116 #[.int .i64 n, .int .i64 u, .int .i64 v] w fun e w' => e = .returned (.tuple #[.agg (pic 0 zc), .int .i64 2]) ∧ Below w.heap.size w w' := by
  have hz37 := (zero_of_info info37').1
  have HI : Hid ((Try.prog.info? 30).map (·.size) = some (pic 0 zc).size) := Lib.hid (by rw [pic_size 0 zc zc_size]; exact (zero_of_info info37').2)
  have H1 := Lib.hid (zc_one 0)
  have hne := pic_ne
  obtain ⟨Z, hZ⟩ : ∃ Z, Z = pic 0 zc := ⟨_, rfl⟩
  rw [← hZ] at hz37 HI H1 hne
  have HZ := Lib.hid hZ
  clear hZ
  go_enter Try.func116, Try.ntmps116
  go_upto_region 2 with (first | (go_at_call 65; refine (isSide_any _ _).mono ?_; rintro e w' ⟨rfl, rfl⟩) | (go_at_call 126; refine (within_any _ _).mono ?_; rintro e w' ⟨rfl, rfl⟩))
  iterate 4 go_step
  refine wpList_store_row rfl 30 (.tmp 6) (.tmp 21) rfl (w.heap.size + 1 + 1 + 1) Z rfl rfl 30 Z (h4_3 _ _ _ _ _) HI.out rfl H1.out ?_
  rw [setRow_al4]
  go_wp2
  refine bodyPost_ret (v := .tuple #[.agg Z, .int .i64 2]) (results_row_tmp (fn := Try.f116) (p := 6) (u := 7) (ty := 30) rfl _ _ (w.heap.size + 1 + 1 + 1) 30 Z (0, 0) _ rfl (h4_3 _ _ _ _ _) Try.underlying30 rfl HI.out) rfl ⟨by rw [HZ.out], ?_⟩
  exact below_al4 _ _ _ _ _

set_option maxRecDepth 100000 in
set_option maxHeartbeats 400000 in
theorem impl_pw_yes (n u v : Int) (hn : side n = true) (hu : within u = true) (hv : within v = true) (w : World) :
    Calls Try.prog 116 #[.int .i64 n, .int .i64 u, .int .i64 v] w fun e w' => e = .returned (.tuple #[.agg (pw n u v), .int .i64 0]) ∧ Below w.heap.size w w' := by
  have hz37 := (zero_of_info info37').1
  have HI : Hid ((Try.prog.info? 30).map (·.size) = some (pw n u v).size) := Lib.hid (by rw [pw_size]; exact (zero_of_info info37').2)
  have HZ : Hid ((pic 0 zc).size = (pw n u v).size) := Lib.hid (by rw [pw_size, pic_size 0 zc zc_size])
  have H1 := Lib.hid (pw_one n u v)
  generalize pic 0 zc = Z at *
  have HP := Lib.hid (fun cu cv cn => build_any n u v hn hu hv ⟨w.heap.size + 1, 0, none⟩ ⟨w.heap.size + 1 + 1, 0, none⟩ ⟨w.heap.size, 0, none⟩ ((((w.alloc (.cells #[.int .i64 n] 2)).alloc (.cells #[.int .i64 u] 2)).alloc (.cells #[.int .i64 v] 2)).alloc (.cells Z 30)) cu cv cn)
  have HP' := Lib.hid (HP.out (by rw [cell_of_row _ _ _ _ _ (0, 0) (h4_1 _ _ _ _ _)]; rfl) (by rw [cell_of_row _ _ _ _ _ (0, 0) (h4_2 _ _ _ _ _)]; rfl) (by rw [cell_of_row _ _ _ _ _ (0, 0) (h4_0 _ _ _ _ _)]; rfl))
  clear HP
  obtain ⟨F, hF⟩ : ∃ F, F = pw n u v := ⟨_, rfl⟩
  rw [← hF] at HP' HI HZ H1
  have HF := Lib.hid hF
  clear hF
  go_enter Try.func116, Try.ntmps116
  go_wp2_with (first | (go_at_call 65; refine (isSide_any _ _).mono ?_; rintro e w' ⟨rfl, rfl⟩) | (go_at_call 126; refine (within_any _ _).mono ?_; rintro e w' ⟨rfl, rfl⟩) | (go_at_call 77; fail))
  refine HP'.out.mono ?_
  rintro e w1 ⟨rfl, b1⟩
  have g1 := b1.block (w.heap.size + 1 + 1 + 1) (by rw [size_al, size_al, size_al, size_al]; omega)
  rw [h4_3] at g1
  have G1 := Lib.hid g1
  have B1 := Lib.hid b1
  clear g1 b1 HP'
  go_wp2_with (refine wpList_store_row rfl 30 (.tmp 6) (.tmp 25) rfl (w.heap.size + 1 + 1 + 1) F rfl rfl 30 Z G1.out HI.out HZ.out H1.out ?_)
  refine bodyPost_ret (v := .tuple #[.agg F, .int .i64 0]) (results_row_tmp (fn := Try.f116) (p := 6) (u := 7) (ty := 30) rfl _ _ (w.heap.size + 1 + 1 + 1) 30 F (0, 0) _ rfl (setRow_heap _ _ _ _ _ _ G1.out) Try.underlying30 rfl HI.out) rfl ⟨by rw [HF.out], ?_⟩
  exact below_setRow ((below_al4 _ _ _ _ _).trans (B1.out.mono (by rw [size_al, size_al, size_al, size_al]; omega))) (by omega) _

end Go.Proofs.Ytjmfffgddmnkmab
