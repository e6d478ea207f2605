/- UnwrapFlood: what the program answers. Condition: a list that a law lets in, 64 complex numbers. -/
import Derived.Test.YtjmfffgddmnkmacFde
import Derived.Test.YtjmfffgddmnkmacM30
namespace Go.Proofs.Ytjmfffgddmnkmac
open Go Go.RowKit
attribute [local go_sem ↓] Go.wp_at_zero Go.wp_at_succ

set_option maxRecDepth 100000 in
set_option maxHeartbeats 3200000 in
theorem implFl_a (n s y x : Int) (L : List Int) (D : Array Value) (h1 : isMap n L = false) : Floods 14 n s y x L D [] 1 := by
  intro hn hD v w hO
  obtain ⟨a, cap, rfl, hC⟩ := hO.came
  have HI := Lib.hid (fun W (h : Below w.heap.size w W) => implIs_any n a L.length cap L W (hC.below h (Nat.le_refl _)) hn)
  have HW := Lib.hid (fun W (h : Below w.heap.size w W) => isWrapped_any a L.length cap L W (hC.below h (Nat.le_refl _)) hn)
  have HM := Lib.hid (implIsMask_any s D hD)
  have HDI : Hid ((Try.prog.info? 33).map (·.size) = some D.size) := Lib.hid (by rw [hD.1]; exact (zero_of_info info37').2)
  have B0 : Hid (Below w.heap.size w (w.alloc (.cells D 33))) := Lib.hid ((Below.refl _ _).alloc (Nat.le_refl _) _)
  have G0 : Hid ((w.alloc (.cells D 33)).heap[w.heap.size]? = some (.cells D 33 (0, 0))) := Lib.hid (h1_0 _ _)
  have HLT : Hid (w.heap.size < (w.alloc (.cells D 33)).heap.size) := Lib.hid (by rw [World.size_alloc]; omega)
  have HS0 := Lib.hid hD.2.1
  clear hC hO hD
  go_enter Try.func14, Try.ntmps14
  go_wp2_with fail
  generalize w.alloc (.cells D 33) = v1 at *
  refine (HI.out _ B0.out).mono ?_
  rintro e w1 ⟨rfl, rfl⟩
  rw [h1]
  go_wp2_with fail
  go_ret2
  exact ⟨_, rfl, Own.zero _ _, B0.out⟩

set_option maxRecDepth 100000 in
set_option maxHeartbeats 3200000 in
theorem implFl_b (n s y x : Int) (L : List Int) (D : Array Value) (h1 : isMap n L = true) (h2 : isMsk s D = false) : Floods 14 n s y x L D [] 1 := by
  intro hn hD v w hO
  obtain ⟨a, cap, rfl, hC⟩ := hO.came
  have HI := Lib.hid (fun W (h : Below w.heap.size w W) => implIs_any n a L.length cap L W (hC.below h (Nat.le_refl _)) hn)
  have HW := Lib.hid (fun W (h : Below w.heap.size w W) => isWrapped_any a L.length cap L W (hC.below h (Nat.le_refl _)) hn)
  have HM := Lib.hid (implIsMask_any s D hD)
  have HDI : Hid ((Try.prog.info? 33).map (·.size) = some D.size) := Lib.hid (by rw [hD.1]; exact (zero_of_info info37').2)
  have B0 : Hid (Below w.heap.size w (w.alloc (.cells D 33))) := Lib.hid ((Below.refl _ _).alloc (Nat.le_refl _) _)
  have G0 : Hid ((w.alloc (.cells D 33)).heap[w.heap.size]? = some (.cells D 33 (0, 0))) := Lib.hid (h1_0 _ _)
  have HLT : Hid (w.heap.size < (w.alloc (.cells D 33)).heap.size) := Lib.hid (by rw [World.size_alloc]; omega)
  have HS0 := Lib.hid hD.2.1
  clear hC hO hD
  go_enter Try.func14, Try.ntmps14
  go_wp2_with fail
  generalize w.alloc (.cells D 33) = v1 at *
  refine (HI.out _ B0.out).mono ?_
  rintro e w1 ⟨rfl, rfl⟩
  rw [h1]
  go_wp2_with (first | (refine wpList_load_row_g rfl 33 (.tmp 7) rfl w.heap.size rfl 33 D (0, 0) _ G0.out Try.underlying33 rfl HDI.out ?_) | (go_at_call 43; fail))
  refine (HM.out _).mono ?_
  rintro e w2 ⟨rfl, b2⟩
  have B2 := Lib.hid (B0.out.trans (b2.mono B0.out.size))
  have G2 := Lib.hid ((b2.block w.heap.size HLT.out).trans G0.out)
  have s0 := cell_of_row _ w.heap.size 0 _ _ _ G2.out
  rw [HS0.out] at s0
  clear b2
  rw [h2]
  go_wp2_with fail
  go_ret2
  exact ⟨_, rfl, Own.zero _ _, B2.out⟩

set_option maxRecDepth 100000 in
set_option maxHeartbeats 3200000 in
theorem implFl_c (n s y x : Int) (L : List Int) (D : Array Value) (h1 : isMap n L = true) (h2 : isMsk s D = true) (h3 : decide (s = n) = false) : Floods 14 n s y x L D [] 2 := by
  intro hn hD v w hO
  obtain ⟨a, cap, rfl, hC⟩ := hO.came
  have HI := Lib.hid (fun W (h : Below w.heap.size w W) => implIs_any n a L.length cap L W (hC.below h (Nat.le_refl _)) hn)
  have HW := Lib.hid (fun W (h : Below w.heap.size w W) => isWrapped_any a L.length cap L W (hC.below h (Nat.le_refl _)) hn)
  have HM := Lib.hid (implIsMask_any s D hD)
  have HDI : Hid ((Try.prog.info? 33).map (·.size) = some D.size) := Lib.hid (by rw [hD.1]; exact (zero_of_info info37').2)
  have B0 : Hid (Below w.heap.size w (w.alloc (.cells D 33))) := Lib.hid ((Below.refl _ _).alloc (Nat.le_refl _) _)
  have G0 : Hid ((w.alloc (.cells D 33)).heap[w.heap.size]? = some (.cells D 33 (0, 0))) := Lib.hid (h1_0 _ _)
  have HLT : Hid (w.heap.size < (w.alloc (.cells D 33)).heap.size) := Lib.hid (by rw [World.size_alloc]; omega)
  have HS0 := Lib.hid hD.2.1
  have hne : (s != n) = true := by simpa using h3
  clear hC hO hD h3
  go_enter Try.func14, Try.ntmps14
  go_wp2_with fail
  generalize w.alloc (.cells D 33) = v1 at *
  refine (HI.out _ B0.out).mono ?_
  rintro e w1 ⟨rfl, rfl⟩
  rw [h1]
  go_wp2_with (first | (refine wpList_load_row_g rfl 33 (.tmp 7) rfl w.heap.size rfl 33 D (0, 0) _ G0.out Try.underlying33 rfl HDI.out ?_) | (go_at_call 43; fail))
  refine (HM.out _).mono ?_
  rintro e w2 ⟨rfl, b2⟩
  have B2 := Lib.hid (B0.out.trans (b2.mono B0.out.size))
  have G2 := Lib.hid ((b2.block w.heap.size HLT.out).trans G0.out)
  have s0 := cell_of_row _ w.heap.size 0 _ _ _ G2.out
  rw [HS0.out] at s0
  clear b2
  rw [h2]
  go_wp2_with fail
  go_ret2
  exact ⟨_, rfl, Own.zero _ _, B2.out⟩

set_option maxRecDepth 100000 in
set_option maxHeartbeats 3200000 in
theorem implFl_d (n s y x : Int) (L : List Int) (D : Array Value) (h1 : isMap n L = true) (h2 : isMsk s D = true) (h3 : s = n) (h4 : inS n y = false) : Floods 14 n s y x L D [] 2 := by
  subst h3
  intro hn hD v w hO
  obtain ⟨a, cap, rfl, hC⟩ := hO.came
  have HI := Lib.hid (fun W (h : Below w.heap.size w W) => implIs_any s a L.length cap L W (hC.below h (Nat.le_refl _)) hn)
  have HW := Lib.hid (fun W (h : Below w.heap.size w W) => isWrapped_any a L.length cap L W (hC.below h (Nat.le_refl _)) hn)
  have HM := Lib.hid (implIsMask_any s D hD)
  have HDI : Hid ((Try.prog.info? 33).map (·.size) = some D.size) := Lib.hid (by rw [hD.1]; exact (zero_of_info info37').2)
  have B0 : Hid (Below w.heap.size w (w.alloc (.cells D 33))) := Lib.hid ((Below.refl _ _).alloc (Nat.le_refl _) _)
  have G0 : Hid ((w.alloc (.cells D 33)).heap[w.heap.size]? = some (.cells D 33 (0, 0))) := Lib.hid (h1_0 _ _)
  have HLT : Hid (w.heap.size < (w.alloc (.cells D 33)).heap.size) := Lib.hid (by rw [World.size_alloc]; omega)
  have HS0 := Lib.hid hD.2.1
  have hne : (s != s) = false := by simp
  have hn1 : IntKind.i64.wrap (s - 1) = s - 1 := by rcases side_yes s (isMap_side h1) with rfl | rfl | rfl | rfl <;> rfl
  have HY := Lib.hid (fun w => between_b 0 y (s - 1) w)
  have hy : (decide (0 ≤ y) && decide (y ≤ s - 1)) = false := h4
  clear hC hO hD h4
  go_enter Try.func14, Try.ntmps14
  go_wp2_with fail
  generalize w.alloc (.cells D 33) = v1 at *
  refine (HI.out _ B0.out).mono ?_
  rintro e w1 ⟨rfl, rfl⟩
  rw [h1]
  go_wp2_with (first | (refine wpList_load_row_g rfl 33 (.tmp 7) rfl w.heap.size rfl 33 D (0, 0) _ G0.out Try.underlying33 rfl HDI.out ?_) | (go_at_call 43; fail))
  refine (HM.out _).mono ?_
  rintro e w2 ⟨rfl, b2⟩
  have B2 := Lib.hid (B0.out.trans (b2.mono B0.out.size))
  have G2 := Lib.hid ((b2.block w.heap.size HLT.out).trans G0.out)
  have s0 := cell_of_row _ w.heap.size 0 _ _ _ G2.out
  rw [HS0.out] at s0
  clear b2
  rw [h2]
  go_wp2_with fail
  refine (HY.out _).mono ?_
  rw [hy]
  rintro e w3 ⟨rfl, rfl⟩
  go_wp2_with fail
  go_ret2
  exact ⟨_, rfl, Own.zero _ _, B2.out⟩

set_option maxRecDepth 100000 in
set_option maxHeartbeats 3200000 in
theorem implFl_e (n s y x : Int) (L : List Int) (D : Array Value) (h1 : isMap n L = true) (h2 : isMsk s D = true) (h3 : s = n) (h4 : inS n y = true) (h5 : inS n x = false) : Floods 14 n s y x L D [] 2 := by
  subst h3
  intro hn hD v w hO
  obtain ⟨a, cap, rfl, hC⟩ := hO.came
  have HI := Lib.hid (fun W (h : Below w.heap.size w W) => implIs_any s a L.length cap L W (hC.below h (Nat.le_refl _)) hn)
  have HW := Lib.hid (fun W (h : Below w.heap.size w W) => isWrapped_any a L.length cap L W (hC.below h (Nat.le_refl _)) hn)
  have HM := Lib.hid (implIsMask_any s D hD)
  have HDI : Hid ((Try.prog.info? 33).map (·.size) = some D.size) := Lib.hid (by rw [hD.1]; exact (zero_of_info info37').2)
  have B0 : Hid (Below w.heap.size w (w.alloc (.cells D 33))) := Lib.hid ((Below.refl _ _).alloc (Nat.le_refl _) _)
  have G0 : Hid ((w.alloc (.cells D 33)).heap[w.heap.size]? = some (.cells D 33 (0, 0))) := Lib.hid (h1_0 _ _)
  have HLT : Hid (w.heap.size < (w.alloc (.cells D 33)).heap.size) := Lib.hid (by rw [World.size_alloc]; omega)
  have HS0 := Lib.hid hD.2.1
  have hne : (s != s) = false := by simp
  have hn1 : IntKind.i64.wrap (s - 1) = s - 1 := by rcases side_yes s (isMap_side h1) with rfl | rfl | rfl | rfl <;> rfl
  have HY := Lib.hid (fun w => between_b 0 y (s - 1) w)
  have hy : (decide (0 ≤ y) && decide (y ≤ s - 1)) = true := h4
  have HX := Lib.hid (fun w => between_b 0 x (s - 1) w)
  have hx : (decide (0 ≤ x) && decide (x ≤ s - 1)) = false := h5
  clear hC hO hD h4 h5
  go_enter Try.func14, Try.ntmps14
  go_wp2_with fail
  generalize w.alloc (.cells D 33) = v1 at *
  refine (HI.out _ B0.out).mono ?_
  rintro e w1 ⟨rfl, rfl⟩
  rw [h1]
  go_wp2_with (first | (refine wpList_load_row_g rfl 33 (.tmp 7) rfl w.heap.size rfl 33 D (0, 0) _ G0.out Try.underlying33 rfl HDI.out ?_) | (go_at_call 43; fail))
  refine (HM.out _).mono ?_
  rintro e w2 ⟨rfl, b2⟩
  have B2 := Lib.hid (B0.out.trans (b2.mono B0.out.size))
  have G2 := Lib.hid ((b2.block w.heap.size HLT.out).trans G0.out)
  have s0 := cell_of_row _ w.heap.size 0 _ _ _ G2.out
  rw [HS0.out] at s0
  clear b2
  rw [h2]
  go_wp2_with fail
  refine (HY.out _).mono ?_
  rw [hy]
  rintro e w3 ⟨rfl, rfl⟩
  go_wp2_with fail
  refine (HX.out _).mono ?_
  rw [hx]
  rintro e w3 ⟨rfl, rfl⟩
  go_wp2_with fail
  go_ret2
  exact ⟨_, rfl, Own.zero _ _, B2.out⟩

set_option maxRecDepth 100000 in
set_option maxHeartbeats 3200000 in
theorem implFl_f (n s y x : Int) (L : List Int) (D : Array Value) (h1 : isMap n L = true) (h2 : isMsk s D = true) (h3 : s = n) (h4 : inS n y = true) (h5 : inS n x = true) (h6 : L.all isW = false) : Floods 14 n s y x L D [] 5 := by
  subst h3
  intro hn hD v w hO
  obtain ⟨a, cap, rfl, hC⟩ := hO.came
  have HI := Lib.hid (fun W (h : Below w.heap.size w W) => implIs_any s a L.length cap L W (hC.below h (Nat.le_refl _)) hn)
  have HW := Lib.hid (fun W (h : Below w.heap.size w W) => isWrapped_any a L.length cap L W (hC.below h (Nat.le_refl _)) hn)
  have HM := Lib.hid (implIsMask_any s D hD)
  have HDI : Hid ((Try.prog.info? 33).map (·.size) = some D.size) := Lib.hid (by rw [hD.1]; exact (zero_of_info info37').2)
  have B0 : Hid (Below w.heap.size w (w.alloc (.cells D 33))) := Lib.hid ((Below.refl _ _).alloc (Nat.le_refl _) _)
  have G0 : Hid ((w.alloc (.cells D 33)).heap[w.heap.size]? = some (.cells D 33 (0, 0))) := Lib.hid (h1_0 _ _)
  have HLT : Hid (w.heap.size < (w.alloc (.cells D 33)).heap.size) := Lib.hid (by rw [World.size_alloc]; omega)
  have HS0 := Lib.hid hD.2.1
  have hne : (s != s) = false := by simp
  have hn1 : IntKind.i64.wrap (s - 1) = s - 1 := by rcases side_yes s (isMap_side h1) with rfl | rfl | rfl | rfl <;> rfl
  have HY := Lib.hid (fun w => between_b 0 y (s - 1) w)
  have hy : (decide (0 ≤ y) && decide (y ≤ s - 1)) = true := h4
  have HX := Lib.hid (fun w => between_b 0 x (s - 1) w)
  have hx : (decide (0 ≤ x) && decide (x ≤ s - 1)) = true := h5
  clear hC hO hD h4 h5
  go_enter Try.func14, Try.ntmps14
  go_wp2_with fail
  generalize w.alloc (.cells D 33) = v1 at *
  refine (HI.out _ B0.out).mono ?_
  rintro e w1 ⟨rfl, rfl⟩
  rw [h1]
  go_wp2_with (first | (refine wpList_load_row_g rfl 33 (.tmp 7) rfl w.heap.size rfl 33 D (0, 0) _ G0.out Try.underlying33 rfl HDI.out ?_) | (go_at_call 43; fail))
  refine (HM.out _).mono ?_
  rintro e w2 ⟨rfl, b2⟩
  have B2 := Lib.hid (B0.out.trans (b2.mono B0.out.size))
  have G2 := Lib.hid ((b2.block w.heap.size HLT.out).trans G0.out)
  have s0 := cell_of_row _ w.heap.size 0 _ _ _ G2.out
  rw [HS0.out] at s0
  clear b2
  rw [h2]
  go_wp2_with fail
  refine (HY.out _).mono ?_
  rw [hy]
  rintro e w3 ⟨rfl, rfl⟩
  go_wp2_with fail
  refine (HX.out _).mono ?_
  rw [hx]
  rintro e w3 ⟨rfl, rfl⟩
  go_wp2_with fail
  refine (HW.out _ B2.out).mono ?_
  rw [h6]
  rintro e w4 ⟨rfl, rfl⟩
  go_wp2_with fail
  go_ret2
  exact ⟨_, rfl, Own.zero _ _, B2.out⟩

set_option maxRecDepth 100000 in
set_option maxHeartbeats 3200000 in
theorem implFl_g (n s y x : Int) (L : List Int) (D : Array Value) (h1 : isMap n L = true) (h2 : isMsk s D = true) (h3 : s = n) (h4 : inS n y = true) (h5 : inS n x = true) (h6 : L.all isW = true) (h7 : open_ D (n.toNat * y.toNat + x.toNat) = false) : Floods 14 n s y x L D [] 5 := by
  subst h3
  intro hn hD v w hO
  obtain ⟨a, cap, rfl, hC⟩ := hO.came
  have HI := Lib.hid (fun W (h : Below w.heap.size w W) => implIs_any s a L.length cap L W (hC.below h (Nat.le_refl _)) hn)
  have HW := Lib.hid (fun W (h : Below w.heap.size w W) => isWrapped_any a L.length cap L W (hC.below h (Nat.le_refl _)) hn)
  have HM := Lib.hid (implIsMask_any s D hD)
  have HDI : Hid ((Try.prog.info? 33).map (·.size) = some D.size) := Lib.hid (by rw [hD.1]; exact (zero_of_info info37').2)
  have B0 : Hid (Below w.heap.size w (w.alloc (.cells D 33))) := Lib.hid ((Below.refl _ _).alloc (Nat.le_refl _) _)
  have G0 : Hid ((w.alloc (.cells D 33)).heap[w.heap.size]? = some (.cells D 33 (0, 0))) := Lib.hid (h1_0 _ _)
  have HLT : Hid (w.heap.size < (w.alloc (.cells D 33)).heap.size) := Lib.hid (by rw [World.size_alloc]; omega)
  have HS0 := Lib.hid hD.2.1
  obtain ⟨m, rfl, hm1, hm8, hlen⟩ := isMap_nat h1
  obtain ⟨yn, rfl, hyn⟩ := inS_nat h4
  obtain ⟨xn, rfl, hxn⟩ := inS_nat h5
  have hN64 : L.length ≤ 64 := map_le h1
  have hPN := place_in hlen.symm hyn hxn
  obtain ⟨q, hq⟩ : ∃ q, m * yn + xn = q := ⟨_, rfl⟩
  obtain ⟨X, hX⟩ : ∃ X, m * yn = X := ⟨_, rfl⟩
  have hw1 : IntKind.i64.wrap ((m : Int) * (yn : Int)) = (X : Int) := by rw [← Int.natCast_mul, hX]; exact IntWalk.i64_in _ (by omega)
  have hw2 : IntKind.i64.wrap ((X : Int) + (xn : Int)) = (q : Int) := by rw [← hX, ← hq, Int.natCast_add]; exact IntWalk.i64_in _ (by omega)
  rw [hq] at hPN
  obtain ⟨re, im, hz⟩ := hD.2.2 q (by omega)
  obtain ⟨er, ei⟩ := at_of D q re im hz
  have HA := Lib.hid (fun W (hW : W.heap[w.heap.size]? = some (.cells D 33 (0, 0))) => at_any w.heap.size (m : Int) D (yn : Int) (xn : Int) q re im (by omega) (by rw [← Int.natCast_mul, hX]; exact IntWalk.i64_in _ (by omega)) (by rw [← Int.natCast_mul, hX, ← Int.natCast_add, ← hX, hq]; exact IntWalk.i64_in _ (by omega)) hz hD.2.1 W hW)
  have ho : (FloatKind.f32.format.order re 1065353216 == some .eq && FloatKind.f32.format.order im 0 == some .eq) = open_ D q := by unfold open_ one; rw [er, ei]
  rw [Int.toNat_natCast, Int.toNat_natCast, Int.toNat_natCast, hq] at h7
  rw [h7] at ho
  have hne : (((m : Nat) : Int) != (m : Int)) = false := by simp
  have hn1 : IntKind.i64.wrap ((m : Int) - 1) = (m : Int) - 1 := IntWalk.i64_in _ (by omega)
  have HY := Lib.hid (fun w => between_b 0 (yn : Int) ((m : Int) - 1) w)
  have hy : (decide (0 ≤ (yn : Int)) && decide ((yn : Int) ≤ (m : Int) - 1)) = true := h4
  have HX := Lib.hid (fun w => between_b 0 (xn : Int) ((m : Int) - 1) w)
  have hx : (decide (0 ≤ (xn : Int)) && decide ((xn : Int) ≤ (m : Int) - 1)) = true := h5
  clear hC hO hD h4 h5 h7 hq hX er ei hz hlen
  go_enter Try.func14, Try.ntmps14
  go_wp2_with fail
  generalize w.alloc (.cells D 33) = v1 at *
  refine (HI.out _ B0.out).mono ?_
  rintro e w1 ⟨rfl, rfl⟩
  rw [h1]
  go_wp2_with (first | (refine wpList_load_row_g rfl 33 (.tmp 7) rfl w.heap.size rfl 33 D (0, 0) _ G0.out Try.underlying33 rfl HDI.out ?_) | (go_at_call 43; fail))
  refine (HM.out _).mono ?_
  rintro e w2 ⟨rfl, b2⟩
  have B2 := Lib.hid (B0.out.trans (b2.mono B0.out.size))
  have G2 := Lib.hid ((b2.block w.heap.size HLT.out).trans G0.out)
  have s0 := cell_of_row _ w.heap.size 0 _ _ _ G2.out
  rw [HS0.out] at s0
  clear b2
  rw [h2]
  go_wp2_with fail
  refine (HY.out _).mono ?_
  rw [hy]
  rintro e w3 ⟨rfl, rfl⟩
  go_wp2_with fail
  refine (HX.out _).mono ?_
  rw [hx]
  rintro e w3 ⟨rfl, rfl⟩
  go_wp2_with fail
  refine (HW.out _ B2.out).mono ?_
  rw [h6]
  rintro e w4 ⟨rfl, rfl⟩
  go_wp2_with fail
  refine (HA.out _ G2.out).mono ?_
  rintro e w5 ⟨rfl, dn, rfl⟩
  have B5 := Lib.hid (below_drewN B2.out dn)
  generalize w2.drewN dn = w6 at *
  go_wp2_with fail
  go_ret2
  exact ⟨_, rfl, Own.zero _ _, B5.out⟩

set_option maxRecDepth 100000 in
set_option maxHeartbeats 3200000 in
theorem implFl_yes (n s y x : Int) (L : List Int) (D : Array Value) (h1 : isMap n L = true) (h2 : isMsk s D = true) (h3 : s = n) (h4 : inS n y = true) (h5 : inS n x = true) (h6 : L.all isW = true) (h7 : open_ D (n.toNat * y.toNat + x.toNat) = true) : Floods 14 n s y x L D (resFl n.toNat L.length (n.toNat * y.toNat + x.toNat) L (open_ D)) 0 := by
  subst h3
  intro hn hD v w hO
  obtain ⟨a, cap, rfl, hC⟩ := hO.came
  have HI := Lib.hid (fun W (h : Below w.heap.size w W) => implIs_any s a L.length cap L W (hC.below h (Nat.le_refl _)) hn)
  have HW := Lib.hid (fun W (h : Below w.heap.size w W) => isWrapped_any a L.length cap L W (hC.below h (Nat.le_refl _)) hn)
  have HM := Lib.hid (implIsMask_any s D hD)
  have HDI : Hid ((Try.prog.info? 33).map (·.size) = some D.size) := Lib.hid (by rw [hD.1]; exact (zero_of_info info37').2)
  have B0 : Hid (Below w.heap.size w (w.alloc (.cells D 33))) := Lib.hid ((Below.refl _ _).alloc (Nat.le_refl _) _)
  have G0 : Hid ((w.alloc (.cells D 33)).heap[w.heap.size]? = some (.cells D 33 (0, 0))) := Lib.hid (h1_0 _ _)
  have HLT : Hid (w.heap.size < (w.alloc (.cells D 33)).heap.size) := Lib.hid (by rw [World.size_alloc]; omega)
  have HS0 := Lib.hid hD.2.1
  obtain ⟨m, rfl, hm1, hm8, hlen⟩ := isMap_nat h1
  obtain ⟨yn, rfl, hyn⟩ := inS_nat h4
  obtain ⟨xn, rfl, hxn⟩ := inS_nat h5
  have hN64 : L.length ≤ 64 := map_le h1
  have hPN := place_in hlen.symm hyn hxn
  obtain ⟨q, hq⟩ : ∃ q, m * yn + xn = q := ⟨_, rfl⟩
  obtain ⟨X, hX⟩ : ∃ X, m * yn = X := ⟨_, rfl⟩
  have hw1 : IntKind.i64.wrap ((m : Int) * (yn : Int)) = (X : Int) := by rw [← Int.natCast_mul, hX]; exact IntWalk.i64_in _ (by omega)
  have hw2 : IntKind.i64.wrap ((X : Int) + (xn : Int)) = (q : Int) := by rw [← hX, ← hq, Int.natCast_add]; exact IntWalk.i64_in _ (by omega)
  rw [hq] at hPN
  obtain ⟨re, im, hz⟩ := hD.2.2 q (by omega)
  obtain ⟨er, ei⟩ := at_of D q re im hz
  have HA := Lib.hid (fun W (hW : W.heap[w.heap.size]? = some (.cells D 33 (0, 0))) => at_any w.heap.size (m : Int) D (yn : Int) (xn : Int) q re im (by omega) (by rw [← Int.natCast_mul, hX]; exact IntWalk.i64_in _ (by omega)) (by rw [← Int.natCast_mul, hX, ← Int.natCast_add, ← hX, hq]; exact IntWalk.i64_in _ (by omega)) hz hD.2.1 W hW)
  have ho : (FloatKind.f32.format.order re 1065353216 == some .eq && FloatKind.f32.format.order im 0 == some .eq) = open_ D q := by unfold open_ one; rw [er, ei]
  obtain ⟨b, cap', e', _, hb⟩ := hO.form (isMap_pos h1)
  simp only [Value.slice.injEq, true_and] at e'
  obtain ⟨rfl, rfl⟩ := e'
  rw [Int.toNat_natCast, Int.toNat_natCast, Int.toNat_natCast, hq] at h7 ⊢
  rw [h7] at ho
  have HCell : Hid (∀ i, i < L.length → w.cell? ⟨b, i, none⟩ = some (.int .i64 (L.getD i 0))) := Lib.hid (fun i hi => hO.cell i hi)
  have HB := Lib.hid hb
  have HLW := Lib.hid (fun i => isW_getD h6 i)
  have HFF := Lib.hid (fun W (h8 : b < W.heap.size) (h9 : W.cell? ⟨b, q, none⟩ = some (.int .i64 (L.getD q 0))) => floodFrom_any b cap L.length m q L D hD W hN64 hPN rfl h8 h9)
  have HRN := Lib.hid (fun B p g W (hbB : b < B) (hBW : B ≤ W.heap.size) (h8 : ∀ i, i < L.length → W.cell? ⟨b, i, none⟩ = some (.int .i64 (L.getD i 0))) (h9 : FlM B p b g m L.length cap (flo0 L.length q L (open_ D)) 0 W) =>
    run_flood B p b g m L.length cap L (open_ D) (flo0 L.length q L (open_ D)) W ⟨hm1, hm8⟩ hlen.symm (Fl.start hN64 hPN (isW_getD h6 q) trivial) h8 (fun i => isW_getD h6 i) hbB hBW h9)
  have HEN := Lib.hid (fun k => resFl_end (O := open_ D) hlen.symm hN64 hPN (isW_getD h6 q) k)
  have hne : (((m : Nat) : Int) != (m : Int)) = false := by simp
  have hn1 : IntKind.i64.wrap ((m : Int) - 1) = (m : Int) - 1 := IntWalk.i64_in _ (by omega)
  have HY := Lib.hid (fun w => between_b 0 (yn : Int) ((m : Int) - 1) w)
  have hy : (decide (0 ≤ (yn : Int)) && decide ((yn : Int) ≤ (m : Int) - 1)) = true := h4
  have HX := Lib.hid (fun w => between_b 0 (xn : Int) ((m : Int) - 1) w)
  have hx : (decide (0 ≤ (xn : Int)) && decide ((xn : Int) ≤ (m : Int) - 1)) = true := h5
  clear hC hO hD h4 h5 h7 hq hX er ei hz hb hlen
  go_enter Try.func14, Try.ntmps14
  go_wp2_with fail
  generalize w.alloc (.cells D 33) = v1 at *
  refine (HI.out _ B0.out).mono ?_
  rintro e w1 ⟨rfl, rfl⟩
  rw [h1]
  go_wp2_with (first | (refine wpList_load_row_g rfl 33 (.tmp 7) rfl w.heap.size rfl 33 D (0, 0) _ G0.out Try.underlying33 rfl HDI.out ?_) | (go_at_call 43; fail))
  refine (HM.out _).mono ?_
  rintro e w2 ⟨rfl, b2⟩
  have B2 := Lib.hid (B0.out.trans (b2.mono B0.out.size))
  have G2 := Lib.hid ((b2.block w.heap.size HLT.out).trans G0.out)
  have s0 := cell_of_row _ w.heap.size 0 _ _ _ G2.out
  rw [HS0.out] at s0
  clear b2
  rw [h2]
  go_wp2_with fail
  refine (HY.out _).mono ?_
  rw [hy]
  rintro e w3 ⟨rfl, rfl⟩
  go_wp2_with fail
  refine (HX.out _).mono ?_
  rw [hx]
  rintro e w3 ⟨rfl, rfl⟩
  go_wp2_with fail
  refine (HW.out _ B2.out).mono ?_
  rw [h6]
  rintro e w4 ⟨rfl, rfl⟩
  go_wp2_with fail
  refine (HA.out _ G2.out).mono ?_
  rintro e w5 ⟨rfl, dn, rfl⟩
  have B5 := Lib.hid (below_drewN B2.out dn)
  have G5 : Hid ((w2.drewN dn).heap[w.heap.size]? = some (.cells D 33 (0, 0))) := Lib.hid G2.out
  generalize w2.drewN dn = w6 at *
  go_wp2_with (first | (refine wpList_load_row rfl 33 (.tmp 7) rfl w.heap.size rfl 33 D (0, 0) _ G5.out Try.underlying33 rfl HDI.out ?_) | (go_at_call 47; fail))
  refine (HFF.out _ (by have := HB.out; have := B5.out.size; omega) ((B5.out.cell (p := ⟨b, q, none⟩) HB.out).trans (HCell.out q hPN))).mono ?_
  rintro e w7 ⟨p, g, rfl, F7, b7⟩
  have hb6 : b < w6.heap.size := by have := HB.out; have := B5.out.size; omega
  have HRun := Lib.hid (HRN.out _ p g w7 hb6 b7.size (fun i hi => (b7.cell (p := ⟨b, i, none⟩) hb6).trans ((B5.out.cell (p := ⟨b, i, none⟩) HB.out).trans (HCell.out i hi))) F7)
  have B7 := Lib.hid (B5.out.trans (b7.mono B5.out.size))
  clear F7 b7 hb6
  go_wp2_with fail
  refine HRun.out.mono ?_
  rintro e w8 ⟨⟨rr, rfl⟩, b8, k, hk, F8⟩
  obtain ⟨qv, cs, r0, r1, r2, r3, r4, r5, r6, r7, r8, r9, r10, r11, r12, r13⟩ := F8
  have c1 : w8.cell? ⟨p, 1, none⟩ = some (.slice (some ⟨g, 0, none⟩) L.length L.length) := by rw [cell_of_row _ _ _ _ _ _ r0]; exact r3
  have HE := Lib.hid (HEN.out k hk)
  have O8 := Lib.hid r10
  have B8 := Lib.hid (B7.out.trans (b8.mono B5.out.size))
  clear r0 r1 r2 r3 r4 r5 r6 r7 r8 r9 r10 r11 r12 r13 b8 hk
  go_wp2_with fail
  go_ret2
  exact ⟨_, rfl, by rw [← HE.out]; exact O8.out.mono B5.out.size, B8.out⟩

theorem implFlood (n s y x : Int) (L : List Int) (D : Array Value) : Floods 14 n s y x L D (resFlood n s y x L D) (codeFl n s y x L D) := by
  cases h1 : isMap n L
  · obtain ⟨e1, e2⟩ := codeFl_1 (s := s) (y := y) (x := x) (D := D) (show (isMap n L && isMsk s D) = false by rw [h1]; rfl)
    rw [e1, e2]; exact implFl_a n s y x L D h1
  cases h2 : isMsk s D
  · obtain ⟨e1, e2⟩ := codeFl_1 (n := n) (y := y) (x := x) (L := L) (show (isMap n L && isMsk s D) = false by rw [h2, Bool.and_false])
    rw [e1, e2]; exact implFl_b n s y x L D h1 h2
  have h12 : (isMap n L && isMsk s D) = true := by rw [h1, h2]; rfl
  cases h3 : decide (s = n)
  · obtain ⟨e1, e2⟩ := codeFl_2 (y := y) (x := x) h12 (by rw [h3]; rfl)
    rw [e1, e2]; exact implFl_c n s y x L D h1 h2 h3
  have h3' : s = n := by simpa using h3
  cases h4 : inS n y
  · obtain ⟨e1, e2⟩ := codeFl_2 (y := y) (x := x) h12 (by rw [h4, Bool.false_and, Bool.and_false])
    rw [e1, e2]; exact implFl_d n s y x L D h1 h2 h3' h4
  cases h5 : inS n x
  · obtain ⟨e1, e2⟩ := codeFl_2 (y := y) (x := x) h12 (by rw [h5, Bool.and_false, Bool.and_false])
    rw [e1, e2]; exact implFl_e n s y x L D h1 h2 h3' h4 h5
  have h345 : (decide (s = n) && (inS n y && inS n x)) = true := by rw [h3, h4, h5]; rfl
  cases h6 : L.all isW
  · obtain ⟨e1, e2⟩ := codeFl_5 h12 h345 (by rw [h6]; rfl)
    rw [e1, e2]; exact implFl_f n s y x L D h1 h2 h3' h4 h5 h6
  cases h7 : open_ D (n.toNat * y.toNat + x.toNat)
  · obtain ⟨e1, e2⟩ := codeFl_5 h12 h345 (by rw [h7, Bool.and_false])
    rw [e1, e2]; exact implFl_g n s y x L D h1 h2 h3' h4 h5 h6 h7
  · obtain ⟨e1, e2⟩ := codeFl_0 h12 h345 (by rw [h6, h7]; rfl)
    rw [e1, e2]; exact implFl_yes n s y x L D h1 h2 h3' h4 h5 h6 h7
end Go.Proofs.Ytjmfffgddmnkmac
