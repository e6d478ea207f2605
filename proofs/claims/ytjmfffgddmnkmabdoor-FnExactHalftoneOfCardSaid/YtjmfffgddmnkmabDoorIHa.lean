/- The program's halftones, over what the walk behind its door does. Condition: 64 floats; the program's error holds the library's. -/
import Derived.Test.YtjmfffgddmnkmabDoorSHa
import Derived.Test.YtjmfffgddmnkmabDoorDw
import Derived.Test.YtjmfffgddmnkmabDoorM25
import Derived.Test.YtjmfffgddmnkmabDoorM19
namespace Go.Proofs.YtjmfffgddmnkmabDoor
open Go Go.RowKit

theorem gf_alike (F G : Nat → Nat × Nat) (k : Nat) (h : ∀ i, i < k → F i = G i) : gf F k = gf G k := by
  apply Array.ext_getElem?
  intro i
  rw [gf_get, gf_get]
  by_cases h1 : i < 64
  · rw [if_pos h1, if_pos h1]
    by_cases h2 : i < k
    · rw [if_pos h2, if_pos h2, h i h2]
    · rw [if_neg h2, if_neg h2]
  · rw [if_neg h1, if_neg h1]

set_option maxRecDepth 100000 in
set_option maxHeartbeats 800000 in
theorem implHt_no0 (s : Int) (zs : Array Value) (t : Nat) (hz : Floats zs) (h0 : shown s zs = false) (w : World) : Calls Tryd.prog 15 #[.agg (pic s zs), .float .f32 t] w fun e w' => e = .returned (.tuple #[.agg (pic 0 zc), .int .i64 1]) ∧ Below w.heap.size w w' := by
  have hz37 := (zero_of_info info37').1
  have HS37 := Lib.hid (zero_of_info info37').2
  have HZ37 : Hid ((pic 0 zc).size = 65) := Lib.hid (pic_size 0 zc zc_size)
  have HZ1 := Lib.hid (zc_one 0)
  have hne := pic_ne
  have HS := Lib.hid (size32 s zs hz)
  have hc := impl_any s zs hz
  rw [h0] at hc
  have HC := Lib.hid hc
  generalize pic s zs = cs at *
  generalize pic 0 zc = Z at *
  have HZI : Hid ((Tryd.prog.info? 25).map (·.size) = some Z.size) := Lib.hid (by rw [HZ37.out]; exact HS37.out)
  clear hz h0 hc
  go_enter Tryd.func15, Tryd.ntmps15
  go_wp2_with (first | fail | (refine wpList_load_row rfl 36 (.tmp 2) rfl w.heap.size rfl 36 cs (0, 0) _ (h3_0 _ _ _ _) Tryd.underlying36 rfl HS.out ?_))
  refine (HC.out _).mono ?_
  rintro e w1 ⟨rfl, b1⟩
  have G1 : Hid (w1.heap[w.heap.size + 1 + 1]? = some (.cells Z 25 (0, 0))) := Lib.hid (by rw [b1.block _ (by rw [size_al, size_al, size_al]; omega)]; exact h3_2 _ _ _ _)
  have B1 : Hid (Below w.heap.size w w1) := Lib.hid ((((((Below.refl w.heap.size w).alloc (Nat.le_refl _) _).alloc (by rw [size_al]; omega) _).alloc (by rw [size_al, size_al]; omega) _)).trans (b1.mono (by rw [size_al, size_al, size_al]; omega)))
  clear b1 HC
  go_wp2_with (first | fail | (refine wpList_store_row rfl 25 (.tmp 4) (.tmp 14) rfl (w.heap.size + 1 + 1) Z rfl rfl 25 Z G1.out HZI.out rfl HZ1.out ?_))
  refine bodyPost_ret (v := .tuple #[.agg Z, .int .i64 1]) (results_row_tmp (fn := Tryd.f15) (p := 4) (u := 5) (ty := 25) rfl _ _ (w.heap.size + 1 + 1) 25 Z (0, 0) _ rfl (setRow_heap _ _ _ _ _ _ G1.out) Tryd.underlying25 rfl HZI.out) rfl ⟨rfl, ?_⟩
  exact below_setRow B1.out (by omega) _

set_option maxRecDepth 100000 in
set_option maxHeartbeats 800000 in
theorem implHt_no1 (s : Int) (zs : Array Value) (t : Nat) (hz : Floats zs) (h0 : shown s zs = true) (hf : fin t = false) (w : World) : Calls Tryd.prog 15 #[.agg (pic s zs), .float .f32 t] w fun e w' => e = .returned (.tuple #[.agg (pic 0 zc), .int .i64 1]) ∧ Below w.heap.size w w' := by
  have hz37 := (zero_of_info info37').1
  have HS37 := Lib.hid (zero_of_info info37').2
  have HZ37 : Hid ((pic 0 zc).size = 65) := Lib.hid (pic_size 0 zc zc_size)
  have HZ1 := Lib.hid (zc_one 0)
  have hne := pic_ne
  have HS := Lib.hid (size32 s zs hz)
  have hc := impl_any s zs hz
  rw [h0] at hc
  have HC := Lib.hid hc
  generalize pic s zs = cs at *
  generalize pic 0 zc = Z at *
  have HZI : Hid ((Tryd.prog.info? 25).map (·.size) = some Z.size) := Lib.hid (by rw [HZ37.out]; exact HS37.out)
  clear hz h0 hc
  go_enter Tryd.func15, Tryd.ntmps15
  go_wp2_with (first | fail | (refine wpList_load_row rfl 36 (.tmp 2) rfl w.heap.size rfl 36 cs (0, 0) _ (h3_0 _ _ _ _) Tryd.underlying36 rfl HS.out ?_))
  refine (HC.out _).mono ?_
  rintro e w1 ⟨rfl, b1⟩
  have G1 : Hid (w1.heap[w.heap.size + 1 + 1]? = some (.cells Z 25 (0, 0))) := Lib.hid (by rw [b1.block _ (by rw [size_al, size_al, size_al]; omega)]; exact h3_2 _ _ _ _)
  have T1 : Hid (w1.heap[w.heap.size + 1]? = some (.cells #[.float .f32 t] 30 (0, 0))) := Lib.hid (by rw [b1.block _ (by rw [size_al, size_al, size_al]; omega)]; exact h3_1 _ _ _ _)
  have B1 : Hid (Below w.heap.size w w1) := Lib.hid ((((((Below.refl w.heap.size w).alloc (Nat.le_refl _) _).alloc (by rw [size_al]; omega) _).alloc (by rw [size_al, size_al]; omega) _)).trans (b1.mono (by rw [size_al, size_al, size_al]; omega)))
  clear b1 HC
  have ht : w1.cell? ⟨w.heap.size + 1, 0, none⟩ = some (.float .f32 t) := by rw [cell_of_row _ _ _ _ _ _ T1.out]; rfl
  go_wp2_with fail
  refine (finite_any _ _).mono ?_
  rw [hf]
  rintro e w' ⟨rfl, n', rfl⟩
  go_wp2_with (first | fail | (refine wpList_store_row rfl 25 (.tmp 4) (.tmp 14) rfl (w.heap.size + 1 + 1) Z rfl rfl 25 Z G1.out HZI.out rfl HZ1.out ?_))
  refine bodyPost_ret (v := .tuple #[.agg Z, .int .i64 1]) (results_row_tmp (fn := Tryd.f15) (p := 4) (u := 5) (ty := 25) rfl _ _ (w.heap.size + 1 + 1) 25 Z (0, 0) _ rfl (setRow_heap _ _ _ _ _ _ G1.out) Tryd.underlying25 rfl HZI.out) rfl ⟨rfl, ?_⟩
  exact below_setRow (below_drewN B1.out _) (by omega) _

set_option maxRecDepth 100000 in
set_option maxHeartbeats 800000 in
theorem implHt_no2 (s : Int) (zs : Array Value) (t : Nat) (hz : Floats zs) (h0 : shown s zs = true) (hf : fin t = true) (hl : leZ t = true) (w : World) : Calls Tryd.prog 15 #[.agg (pic s zs), .float .f32 t] w fun e w' => e = .returned (.tuple #[.agg (pic 0 zc), .int .i64 2]) ∧ Below w.heap.size w w' := by
  have hz37 := (zero_of_info info37').1
  have HS37 := Lib.hid (zero_of_info info37').2
  have HZ37 : Hid ((pic 0 zc).size = 65) := Lib.hid (pic_size 0 zc zc_size)
  have HZ1 := Lib.hid (zc_one 0)
  have hne := pic_ne
  have HS := Lib.hid (size32 s zs hz)
  have hc := impl_any s zs hz
  rw [h0] at hc
  have HC := Lib.hid hc
  have hl' : (FloatKind.f32.format.order t 0 == some .lt || FloatKind.f32.format.order t 0 == some .eq) = true := hl
  clear hl
  generalize pic s zs = cs at *
  generalize pic 0 zc = Z at *
  have HZI : Hid ((Tryd.prog.info? 25).map (·.size) = some Z.size) := Lib.hid (by rw [HZ37.out]; exact HS37.out)
  clear hz h0 hc
  go_enter Tryd.func15, Tryd.ntmps15
  go_wp2_with (first | fail | (refine wpList_load_row rfl 36 (.tmp 2) rfl w.heap.size rfl 36 cs (0, 0) _ (h3_0 _ _ _ _) Tryd.underlying36 rfl HS.out ?_))
  refine (HC.out _).mono ?_
  rintro e w1 ⟨rfl, b1⟩
  have G1 : Hid (w1.heap[w.heap.size + 1 + 1]? = some (.cells Z 25 (0, 0))) := Lib.hid (by rw [b1.block _ (by rw [size_al, size_al, size_al]; omega)]; exact h3_2 _ _ _ _)
  have T1 : Hid (w1.heap[w.heap.size + 1]? = some (.cells #[.float .f32 t] 30 (0, 0))) := Lib.hid (by rw [b1.block _ (by rw [size_al, size_al, size_al]; omega)]; exact h3_1 _ _ _ _)
  have B1 : Hid (Below w.heap.size w w1) := Lib.hid ((((((Below.refl w.heap.size w).alloc (Nat.le_refl _) _).alloc (by rw [size_al]; omega) _).alloc (by rw [size_al, size_al]; omega) _)).trans (b1.mono (by rw [size_al, size_al, size_al]; omega)))
  clear b1 HC
  have ht : w1.cell? ⟨w.heap.size + 1, 0, none⟩ = some (.float .f32 t) := by rw [cell_of_row _ _ _ _ _ _ T1.out]; rfl
  go_wp2_with fail
  refine (finite_any _ _).mono ?_
  rw [hf]
  rintro e w' ⟨rfl, n', rfl⟩
  have ht2 : (w1.drewN n').cell? ⟨w.heap.size + 1, 0, none⟩ = some (.float .f32 t) := by rw [World.cell?_drewN]; exact ht
  go_wp2_with (first | fail | (refine wpList_store_row rfl 25 (.tmp 4) (.tmp 17) rfl (w.heap.size + 1 + 1) Z rfl rfl 25 Z G1.out HZI.out rfl HZ1.out ?_))
  refine bodyPost_ret (v := .tuple #[.agg Z, .int .i64 2]) (results_row_tmp (fn := Tryd.f15) (p := 4) (u := 5) (ty := 25) rfl _ _ (w.heap.size + 1 + 1) 25 Z (0, 0) _ rfl (setRow_heap _ _ _ _ _ _ G1.out) Tryd.underlying25 rfl HZI.out) rfl ⟨rfl, ?_⟩
  exact below_setRow (below_drewN B1.out _) (by omega) _

/-- how the walk behind the door ends -/
def HtC (ok : Bool) (A : Array Value) (a : Addr) (e : Ending) : Prop := e = if ok then .returned (.agg A) else .panicked [{ v := errV a, recovered := false }]
set_option maxRecDepth 100000 in
set_option maxHeartbeats 1000000 in
theorem implHt_yes (s : Nat) (zs : Array Value) (t d : Nat) (hz : Floats zs) (h0 : shown s zs = true) (hf : fin t = true) (hl : leZ t = false) (a : Addr)
    (hCL : ∀ (b c : Nat) (v : World), Err a v → v.heap[b]? = some (.cells (pic s zs) 36 (0, 0)) → v.cell? ⟨c, 0, none⟩ = some (.float .f32 t) → Calls Tryd.prog 38 #[.pointer (some ⟨b, 0, none⟩), .pointer (some ⟨c, 0, none⟩)] v fun e w' => HtC (okT s t d (lev zs) true (s * s)) (pic s (gf (dot s t d (lev zs) true) (s * s))) a e ∧ Below v.heap.size v w')
    (w : World) (hE : Err a w) : Calls Tryd.prog 15 #[.agg (pic s zs), .float .f32 t] w fun e w' => e = .returned (if okT s t d (lev zs) true (s * s) then .tuple #[.agg (pic s (gf (dot s t d (lev zs) true) (s * s))), .int .i64 0] else .tuple #[.agg (pic 0 zc), .int .i64 3]) ∧ Below w.heap.size w w' := by
  have hz37 := (zero_of_info info37').1
  have HS37 := Lib.hid (zero_of_info info37').2
  have HZ37 : Hid ((pic 0 zc).size = 65) := Lib.hid (pic_size 0 zc zc_size)
  have HZ1 := Lib.hid (zc_one 0)
  have hne := pic_ne
  have HFW : Hid (FinW s (pic s (gf (dot s t d (lev zs) true) (s * s)))) := Lib.hid (gf_fin s _ (dot_fin s t d (lev zs) true) (s * s))
  have HCL := Lib.hid hCL
  have HS := Lib.hid (size32 s zs hz)
  have hc := impl_any s zs hz
  rw [h0] at hc
  have HC := Lib.hid hc
  have HEE := Lib.hid hE
  have hl' : (FloatKind.f32.format.order t 0 == some .lt || FloatKind.f32.format.order t 0 == some .eq) = false := hl
  generalize pic s (gf (dot s t d (lev zs) true) (s * s)) = G at *
  generalize okT s t d (lev zs) true (s * s) = ok at *
  generalize pic s zs = cs at *
  have HDY : Hid (∀ (f : FuncId) (c1 c2 : Value) (w : World), (∀ v, (callFunc f #[c1, c2]).run Tryd.prog v = .ok (.enter f #[c1, c2]) v) → Hid (∀ v, Below w.heap.size w v → Calls Tryd.prog f #[c1, c2] v fun e w' => e = .returned (.agg G) ∧ Below v.heap.size v w') →
      Calls Tryd.prog 37 #[.func (.func f) #[] #[c1, c2]] w fun e w' => e = .returned (.tuple #[.agg G, .int .i64 0]) ∧ Below w.heap.size w w') := Lib.hid fun f c1 c2 w h1 h2 => doorW_yes f c1 c2 G HFW.out.1 (finW_one HFW.out) w h1 h2
  have HDN := Lib.hid (fun f c1 c2 w h1 h2 h3 => doorW_no f c1 c2 a w h1 h2 h3)
  generalize pic 0 zc = Z at *
  have HFI : Hid ((Tryd.prog.info? 25).map (·.size) = some G.size) := Lib.hid (by rw [HFW.out.1]; exact HS37.out)
  have HZI : Hid ((Tryd.prog.info? 25).map (·.size) = some Z.size) := Lib.hid (by rw [HZ37.out]; exact HS37.out)
  have HZF : Hid (Z.size = G.size) := Lib.hid (by rw [HFW.out.1]; exact HZ37.out)
  have HF1 := Lib.hid (finW_one HFW.out)
  clear hz h0 hc hCL hE hl
  go_enter Tryd.func15, Tryd.ntmps15
  go_wp2_with (first | fail | (refine wpList_load_row rfl 36 (.tmp 2) rfl w.heap.size rfl 36 cs (0, 0) _ (h3_0 _ _ _ _) Tryd.underlying36 rfl HS.out ?_))
  refine (HC.out _).mono ?_
  rintro e w1 ⟨rfl, b1⟩
  have G1 : Hid (w1.heap[w.heap.size + 1 + 1]? = some (.cells Z 25 (0, 0))) := Lib.hid (by rw [b1.block _ (by rw [size_al, size_al, size_al]; omega)]; exact h3_2 _ _ _ _)
  have T1 : Hid (w1.heap[w.heap.size + 1]? = some (.cells #[.float .f32 t] 30 (0, 0))) := Lib.hid (by rw [b1.block _ (by rw [size_al, size_al, size_al]; omega)]; exact h3_1 _ _ _ _)
  have P1 : Hid (w1.heap[w.heap.size]? = some (.cells cs 36 (0, 0))) := Lib.hid (by rw [b1.block _ (by rw [size_al, size_al, size_al]; omega)]; exact h3_0 _ _ _ _)
  have B1 : Hid (Below w.heap.size w w1) := Lib.hid ((((((Below.refl w.heap.size w).alloc (Nat.le_refl _) _).alloc (by rw [size_al]; omega) _).alloc (by rw [size_al, size_al]; omega) _)).trans (b1.mono (by rw [size_al, size_al, size_al]; omega)))
  clear b1 HC
  have ht : w1.cell? ⟨w.heap.size + 1, 0, none⟩ = some (.float .f32 t) := by rw [cell_of_row _ _ _ _ _ _ T1.out]; rfl
  go_wp2_with fail
  refine (finite_any _ _).mono ?_
  rw [hf]
  rintro e w' ⟨rfl, n', rfl⟩
  have ht2 : (w1.drewN n').cell? ⟨w.heap.size + 1, 0, none⟩ = some (.float .f32 t) := by rw [World.cell?_drewN]; exact ht
  have P2 : Hid ((w1.drewN n').heap[w.heap.size]? = some (.cells cs 36 (0, 0))) := P1
  have G2 : Hid ((w1.drewN n').heap[w.heap.size + 1 + 1]? = some (.cells Z 25 (0, 0))) := G1
  have B2 : Hid (Below w.heap.size w (w1.drewN n')) := Lib.hid (below_drewN B1.out _)
  clear ht G1 B1 T1 P1 hf
  generalize w1.drewN n' = u at *
  have E1 := Lib.hid (HEE.out.cell B2.out)
  have HT2 := Lib.hid ht2
  have HW : Hid (∀ x, Below u.heap.size u x → Calls Tryd.prog 38 #[.pointer (some ⟨w.heap.size, 0, none⟩), .pointer (some ⟨w.heap.size + 1, 0, none⟩)] x fun e w' => HtC ok G a e ∧ Below x.heap.size x w') := Lib.hid fun x hx => HCL.out _ _ x (E1.out.cell hx) (by rw [hx.block _ (Array.getElem?_eq_some_iff.1 P2.out).1]; exact P2.out) (by rw [hx.cell (World.block_lt_of_cell? u _ HT2.out)]; exact HT2.out)
  clear HCL
  cases ok
  · have HDO := Lib.hid (HDN.out 38 (.pointer (some ⟨w.heap.size, 0, none⟩)) (.pointer (some ⟨w.heap.size + 1, 0, none⟩)) u E1.out (fun v => by simp [go_sem]) (Lib.hid fun x hx => (HW.out x hx).mono fun e w' h => ⟨h.1, h.2⟩))
    clear HW HDN HDY
    go_wp2_with (go_at_call 37; fail)
    refine HDO.out.mono ?_
    rintro e w3 ⟨rfl, b3⟩
    have G3 : Hid (w3.heap[w.heap.size + 1 + 1]? = some (.cells Z 25 (0, 0))) := Lib.hid (by rw [b3.block _ (Array.getElem?_eq_some_iff.1 G2.out).1]; exact G2.out)
    have B3 : Hid (Below w.heap.size w w3) := Lib.hid (B2.out.trans (b3.mono B2.out.size))
    clear b3
    go_wp2_with (first | fail | (refine wpList_store_row rfl 25 (.tmp 4) (.tmp 20) rfl (w.heap.size + 1 + 1) Z rfl rfl 25 Z G3.out HZI.out rfl HZ1.out ?_))
    refine bodyPost_ret (v := .tuple #[.agg Z, .int .i64 3]) (results_row_tmp (fn := Tryd.f15) (p := 4) (u := 5) (ty := 25) rfl _ _ (w.heap.size + 1 + 1) 25 Z (0, 0) _ rfl (setRow_heap _ _ _ _ _ _ G3.out) Tryd.underlying25 rfl HZI.out) rfl ⟨rfl, ?_⟩
    exact below_setRow B3.out (by omega) _
  · have HDO := Lib.hid (HDY.out 38 (.pointer (some ⟨w.heap.size, 0, none⟩)) (.pointer (some ⟨w.heap.size + 1, 0, none⟩)) u (fun v => by simp [go_sem]) (Lib.hid fun x hx => (HW.out x hx).mono fun e w' h => ⟨h.1, h.2⟩))
    clear HW HDN HDY
    go_wp2_with (go_at_call 37; fail)
    refine HDO.out.mono ?_
    rintro e w3 ⟨rfl, b3⟩
    have G3 : Hid (w3.heap[w.heap.size + 1 + 1]? = some (.cells Z 25 (0, 0))) := Lib.hid (by rw [b3.block _ (Array.getElem?_eq_some_iff.1 G2.out).1]; exact G2.out)
    have B3 : Hid (Below w.heap.size w w3) := Lib.hid (B2.out.trans (b3.mono B2.out.size))
    clear b3
    go_wp2_with (first | fail | (refine wpList_store_row rfl 25 (.tmp 4) (.tmp 20) rfl (w.heap.size + 1 + 1) G rfl rfl 25 Z G3.out HFI.out HZF.out HF1.out ?_))
    refine bodyPost_ret (v := .tuple #[.agg G, .int .i64 0]) (results_row_tmp (fn := Tryd.f15) (p := 4) (u := 5) (ty := 25) rfl _ _ (w.heap.size + 1 + 1) 25 G (0, 0) _ rfl (setRow_heap _ _ _ _ _ _ G3.out) Tryd.underlying25 rfl HFI.out) rfl ⟨rfl, ?_⟩
    exact below_setRow B3.out (by omega) _

/-- all answers, over what the walk behind the door does -/
theorem implHt_of (s : Int) (zs : Array Value) (t : Nat) (hz : Floats zs) (a : Addr)
    (hCL : ∀ (n d : Nat), s = n → HtOk n t d (lev zs) → side n = true → shown n zs = true → ∀ (b c : Nat) (v : World), Err a v → v.heap[b]? = some (.cells (pic s zs) 36 (0, 0)) → v.cell? ⟨c, 0, none⟩ = some (.float .f32 t) → Calls Tryd.prog 38 #[.pointer (some ⟨b, 0, none⟩), .pointer (some ⟨c, 0, none⟩)] v fun e w' => HtC (okT n t d (lev zs) true (n * n)) (pic s (gf (dot n t d (lev zs) true) (n * n))) a e ∧ Below v.heap.size v w')
    (w : World) (hE : Err a w) : Calls Tryd.prog 15 #[.agg (pic s zs), .float .f32 t] w fun e w' => e = .returned (.tuple #[.agg (pic (ansHt s zs t).1 (ansHt s zs t).2.1), .int .i64 (ansHt s zs t).2.2]) ∧ Below w.heap.size w w' := by
  cases h0 : shown s zs
  · rw [show ansHt s zs t = (0, zc, 1) by unfold ansHt; rw [h0]; rfl]
    exact implHt_no0 s zs t hz h0 w
  cases hf : fin t
  · rw [show ansHt s zs t = (0, zc, 1) by unfold ansHt; rw [h0, hf]; rfl]
    exact implHt_no1 s zs t hz h0 hf w
  cases hl : leZ t
  · obtain ⟨hs, n, rfl⟩ := shown_side s zs h0
    obtain ⟨d, _, _, hd, _⟩ := twice t hf (leZ_gtz t hf hl)
    have e : dbl t = d := by unfold dbl; rw [hd]; rfl
    have hH := htOk n zs t d hz h0 hf (leZ_gtz t hf hl) hd
    have h64 := sq_le n hs
    have S := same_all hH (n * n) h64
    refine (implHt_yes n zs t d hz h0 hf hl a (hCL n d rfl hH hs h0) w hE).mono ?_
    rintro e1 w' ⟨h1, h2⟩
    refine ⟨?_, h2⟩
    rw [h1]
    unfold ansHt okHt
    rw [h0, hf, hl, e]
    simp only [Bool.and_self, if_true, Bool.false_eq_true, if_false, Int.toNat_natCast]
    rw [← S.ok]
    cases ho : okT n t d (lev zs) false (n * n)
    · rfl
    · simp only [if_true]
      rw [gf_alike (dot n t d (lev zs) true) (dot n t d (lev zs) false) (n * n) fun i hi => (dot_same hH i (by omega) (by
        cases h9 : okT n t d (lev zs) false (i + 1)
        · rw [okT_no n t d (lev zs) false (i + 1) (n * n) (by omega) h9] at ho; cases ho
        · rfl)).symm]
  · rw [show ansHt s zs t = (0, zc, 2) by unfold ansHt; rw [h0, hf, hl]; rfl]
    exact implHt_no2 s zs t hz h0 hf hl w
end Go.Proofs.YtjmfffgddmnkmabDoor
