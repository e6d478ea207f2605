/- UnwrapFlood: what the model answers. Condition: a list that a law lets in, 64 complex numbers. -/
import Derived.Test.YtjmfffgddmnkmacFdc
import Derived.Test.YtjmfffgddmnkmacM30
import Derived.Test.YtjmfffgddmnkmacM31
import Derived.Deep.RegionHeld3
import Derived.Deep.DrawnRows
namespace Go.Proofs.Ytjmfffgddmnkmac
open Go Go.RowKit
attribute [local go_sem ↓] Go.wp_at_zero Go.wp_at_succ

set_option maxRecDepth 100000 in
set_option maxHeartbeats 6400000 in
theorem specFl_a (n s y x : Int) (L : List Int) (D : Array Value) (h1 : isMap n L = false) : Floods 16 n s y x L D [] 1 := by
  intro hn hD v w hO
  obtain ⟨a, cap, rfl, hC⟩ := hO.came
  have HI := Lib.hid (fun W (h : Below w.heap.size w W) => l07Code_any n a L.length cap L W (hC.below h (Nat.le_refl _)) hn)
  have HM := Lib.hid (specMsk_any s D hD)
  have HDI : Hid ((Try.prog.info? 33).map (·.size) = some D.size) := Lib.hid (by rw [hD.1]; exact (zero_of_info info37').2)
  have B0 : Hid (Below w.heap.size w (w.alloc (.cells D 33))) := Lib.hid ((Below.refl _ _).alloc (Nat.le_refl _) _)
  have G0 : Hid ((w.alloc (.cells D 33)).heap[w.heap.size]? = some (.cells D 33 (0, 0))) := Lib.hid (h1_0 _ _)
  have HLT : Hid (w.heap.size < (w.alloc (.cells D 33)).heap.size) := Lib.hid (by rw [World.size_alloc]; omega)
  have HS0 := Lib.hid hD.2.1
  have e1 : codeW n L = 1 := by unfold codeW; rw [h1]; rfl
  rw [e1] at HI
  clear hC hO hD e1
  go_enter Try.func16, Try.ntmps16
  go_wp2_with fail
  generalize w.alloc (.cells D 33) = v1 at *
  refine (HI.out _ B0.out).mono ?_
  rintro e w1 ⟨rfl, rfl⟩
  go_wp2_with fail
  go_ret2
  exact ⟨_, rfl, Own.zero _ _, B0.out⟩

set_option maxRecDepth 100000 in
set_option maxHeartbeats 6400000 in
theorem specFl_b (n s y x : Int) (L : List Int) (D : Array Value) (h1 : isMap n L = true) (h2 : isMsk s D = false) : Floods 16 n s y x L D [] 1 := by
  intro hn hD v w hO
  obtain ⟨a, cap, rfl, hC⟩ := hO.came
  have HI := Lib.hid (fun W (h : Below w.heap.size w W) => l07Code_any n a L.length cap L W (hC.below h (Nat.le_refl _)) hn)
  have HM := Lib.hid (specMsk_any s D hD)
  have HDI : Hid ((Try.prog.info? 33).map (·.size) = some D.size) := Lib.hid (by rw [hD.1]; exact (zero_of_info info37').2)
  have B0 : Hid (Below w.heap.size w (w.alloc (.cells D 33))) := Lib.hid ((Below.refl _ _).alloc (Nat.le_refl _) _)
  have G0 : Hid ((w.alloc (.cells D 33)).heap[w.heap.size]? = some (.cells D 33 (0, 0))) := Lib.hid (h1_0 _ _)
  have HLT : Hid (w.heap.size < (w.alloc (.cells D 33)).heap.size) := Lib.hid (by rw [World.size_alloc]; omega)
  have HS0 := Lib.hid hD.2.1
  have hcw : (codeW n L == 1) = false := by unfold codeW; rw [h1, if_pos rfl]; split <;> rfl
  clear hC hO hD
  generalize codeW n L = cw at *
  go_enter Try.func16, Try.ntmps16
  go_wp2_with fail
  generalize w.alloc (.cells D 33) = v1 at *
  refine (HI.out _ B0.out).mono ?_
  rintro e w1 ⟨rfl, rfl⟩
  go_wp2_with (first | (refine wpList_load_row_g rfl 33 (.tmp 7) rfl w.heap.size rfl 33 D (0, 0) _ G0.out Try.underlying33 rfl HDI.out ?_) | (go_at_call 56; fail))
  refine (HM.out _).mono ?_
  rintro e w2 ⟨rfl, b2⟩
  have B2 := Lib.hid (B0.out.trans (b2.mono B0.out.size))
  have G2 := Lib.hid ((b2.block w.heap.size HLT.out).trans G0.out)
  have s0 := cell_of_row _ w.heap.size 0 _ _ _ G2.out
  rw [HS0.out] at s0
  clear b2
  rw [h2]
  go_wp2_with fail
  go_ret2
  exact ⟨_, rfl, Own.zero _ _, B2.out⟩

set_option maxRecDepth 100000 in
set_option maxHeartbeats 6400000 in
theorem specFl_c (n s y x : Int) (L : List Int) (D : Array Value) (h1 : isMap n L = true) (h2 : isMsk s D = true) (h3 : decide (s = n) = false) : Floods 16 n s y x L D [] 2 := by
  intro hn hD v w hO
  obtain ⟨a, cap, rfl, hC⟩ := hO.came
  have HI := Lib.hid (fun W (h : Below w.heap.size w W) => l07Code_any n a L.length cap L W (hC.below h (Nat.le_refl _)) hn)
  have HM := Lib.hid (specMsk_any s D hD)
  have HDI : Hid ((Try.prog.info? 33).map (·.size) = some D.size) := Lib.hid (by rw [hD.1]; exact (zero_of_info info37').2)
  have B0 : Hid (Below w.heap.size w (w.alloc (.cells D 33))) := Lib.hid ((Below.refl _ _).alloc (Nat.le_refl _) _)
  have G0 : Hid ((w.alloc (.cells D 33)).heap[w.heap.size]? = some (.cells D 33 (0, 0))) := Lib.hid (h1_0 _ _)
  have HLT : Hid (w.heap.size < (w.alloc (.cells D 33)).heap.size) := Lib.hid (by rw [World.size_alloc]; omega)
  have HS0 := Lib.hid hD.2.1
  have hcw : (codeW n L == 1) = false := by unfold codeW; rw [h1, if_pos rfl]; split <;> rfl
  have hne : (s != n) = true := by simpa using h3
  clear hC hO hD h3
  generalize codeW n L = cw at *
  go_enter Try.func16, Try.ntmps16
  go_wp2_with fail
  generalize w.alloc (.cells D 33) = v1 at *
  refine (HI.out _ B0.out).mono ?_
  rintro e w1 ⟨rfl, rfl⟩
  go_wp2_with (first | (refine wpList_load_row_g rfl 33 (.tmp 7) rfl w.heap.size rfl 33 D (0, 0) _ G0.out Try.underlying33 rfl HDI.out ?_) | (go_at_call 56; fail))
  refine (HM.out _).mono ?_
  rintro e w2 ⟨rfl, b2⟩
  have B2 := Lib.hid (B0.out.trans (b2.mono B0.out.size))
  have G2 := Lib.hid ((b2.block w.heap.size HLT.out).trans G0.out)
  have s0 := cell_of_row _ w.heap.size 0 _ _ _ G2.out
  rw [HS0.out] at s0
  clear b2
  rw [h2]
  go_wp2_with fail
  go_ret2
  exact ⟨_, rfl, Own.zero _ _, B2.out⟩

set_option maxRecDepth 100000 in
set_option maxHeartbeats 6400000 in
theorem specFl_d (n s y x : Int) (L : List Int) (D : Array Value) (h1 : isMap n L = true) (h2 : isMsk s D = true) (h3 : s = n) (h4 : inS n y = false) : Floods 16 n s y x L D [] 2 := by
  subst h3
  intro hn hD v w hO
  obtain ⟨a, cap, rfl, hC⟩ := hO.came
  have HI := Lib.hid (fun W (h : Below w.heap.size w W) => l07Code_any s a L.length cap L W (hC.below h (Nat.le_refl _)) hn)
  have HM := Lib.hid (specMsk_any s D hD)
  have HDI : Hid ((Try.prog.info? 33).map (·.size) = some D.size) := Lib.hid (by rw [hD.1]; exact (zero_of_info info37').2)
  have B0 : Hid (Below w.heap.size w (w.alloc (.cells D 33))) := Lib.hid ((Below.refl _ _).alloc (Nat.le_refl _) _)
  have G0 : Hid ((w.alloc (.cells D 33)).heap[w.heap.size]? = some (.cells D 33 (0, 0))) := Lib.hid (h1_0 _ _)
  have HLT : Hid (w.heap.size < (w.alloc (.cells D 33)).heap.size) := Lib.hid (by rw [World.size_alloc]; omega)
  have HS0 := Lib.hid hD.2.1
  have hcw : (codeW s L == 1) = false := by unfold codeW; rw [h1, if_pos rfl]; split <;> rfl
  have hn1 : IntKind.i64.wrap (s - 1) = s - 1 := by rcases side_yes s (isMap_side h1) with rfl | rfl | rfl | rfl <;> rfl
  have hne : (s != s) = false := by simp
  have HY := Lib.hid (fun w => l01In_b y 0 (s - 1) w)
  have hy : (decide (0 ≤ y) && decide (y ≤ s - 1)) = false := h4
  clear hC hO hD h4
  generalize codeW s L = cw at *
  go_enter Try.func16, Try.ntmps16
  go_wp2_with fail
  generalize w.alloc (.cells D 33) = v1 at *
  refine (HI.out _ B0.out).mono ?_
  rintro e w1 ⟨rfl, rfl⟩
  go_wp2_with (first | (refine wpList_load_row_g rfl 33 (.tmp 7) rfl w.heap.size rfl 33 D (0, 0) _ G0.out Try.underlying33 rfl HDI.out ?_) | (go_at_call 56; fail))
  refine (HM.out _).mono ?_
  rintro e w2 ⟨rfl, b2⟩
  have B2 := Lib.hid (B0.out.trans (b2.mono B0.out.size))
  have G2 := Lib.hid ((b2.block w.heap.size HLT.out).trans G0.out)
  have s0 := cell_of_row _ w.heap.size 0 _ _ _ G2.out
  rw [HS0.out] at s0
  clear b2
  rw [h2]
  go_wp2_with fail
  refine (HY.out _).mono ?_
  rw [hy]
  rintro e w3 ⟨rfl, rfl⟩
  go_wp2_with fail
  go_ret2
  exact ⟨_, rfl, Own.zero _ _, B2.out⟩

set_option maxRecDepth 100000 in
set_option maxHeartbeats 6400000 in
theorem specFl_e (n s y x : Int) (L : List Int) (D : Array Value) (h1 : isMap n L = true) (h2 : isMsk s D = true) (h3 : s = n) (h4 : inS n y = true) (h5 : inS n x = false) : Floods 16 n s y x L D [] 2 := by
  subst h3
  intro hn hD v w hO
  obtain ⟨a, cap, rfl, hC⟩ := hO.came
  have HI := Lib.hid (fun W (h : Below w.heap.size w W) => l07Code_any s a L.length cap L W (hC.below h (Nat.le_refl _)) hn)
  have HM := Lib.hid (specMsk_any s D hD)
  have HDI : Hid ((Try.prog.info? 33).map (·.size) = some D.size) := Lib.hid (by rw [hD.1]; exact (zero_of_info info37').2)
  have B0 : Hid (Below w.heap.size w (w.alloc (.cells D 33))) := Lib.hid ((Below.refl _ _).alloc (Nat.le_refl _) _)
  have G0 : Hid ((w.alloc (.cells D 33)).heap[w.heap.size]? = some (.cells D 33 (0, 0))) := Lib.hid (h1_0 _ _)
  have HLT : Hid (w.heap.size < (w.alloc (.cells D 33)).heap.size) := Lib.hid (by rw [World.size_alloc]; omega)
  have HS0 := Lib.hid hD.2.1
  have hcw : (codeW s L == 1) = false := by unfold codeW; rw [h1, if_pos rfl]; split <;> rfl
  have hn1 : IntKind.i64.wrap (s - 1) = s - 1 := by rcases side_yes s (isMap_side h1) with rfl | rfl | rfl | rfl <;> rfl
  have hne : (s != s) = false := by simp
  have HY := Lib.hid (fun w => l01In_b y 0 (s - 1) w)
  have hy : (decide (0 ≤ y) && decide (y ≤ s - 1)) = true := h4
  have HX := Lib.hid (fun w => l01In_b x 0 (s - 1) w)
  have hx : (decide (0 ≤ x) && decide (x ≤ s - 1)) = false := h5
  clear hC hO hD h4 h5
  generalize codeW s L = cw at *
  go_enter Try.func16, Try.ntmps16
  go_wp2_with fail
  generalize w.alloc (.cells D 33) = v1 at *
  refine (HI.out _ B0.out).mono ?_
  rintro e w1 ⟨rfl, rfl⟩
  go_wp2_with (first | (refine wpList_load_row_g rfl 33 (.tmp 7) rfl w.heap.size rfl 33 D (0, 0) _ G0.out Try.underlying33 rfl HDI.out ?_) | (go_at_call 56; fail))
  refine (HM.out _).mono ?_
  rintro e w2 ⟨rfl, b2⟩
  have B2 := Lib.hid (B0.out.trans (b2.mono B0.out.size))
  have G2 := Lib.hid ((b2.block w.heap.size HLT.out).trans G0.out)
  have s0 := cell_of_row _ w.heap.size 0 _ _ _ G2.out
  rw [HS0.out] at s0
  clear b2
  rw [h2]
  go_wp2_with fail
  refine (HY.out _).mono ?_
  rw [hy]
  rintro e w3 ⟨rfl, rfl⟩
  go_wp2_with fail
  refine (HX.out _).mono ?_
  rw [hx]
  rintro e w3 ⟨rfl, rfl⟩
  go_wp2_with fail
  go_ret2
  exact ⟨_, rfl, Own.zero _ _, B2.out⟩

set_option maxRecDepth 100000 in
set_option maxHeartbeats 6400000 in
theorem specFl_f (n s y x : Int) (L : List Int) (D : Array Value) (h1 : isMap n L = true) (h2 : isMsk s D = true) (h3 : s = n) (h4 : inS n y = true) (h5 : inS n x = true) (h6 : L.all isW = false) : Floods 16 n s y x L D [] 5 := by
  subst h3
  intro hn hD v w hO
  obtain ⟨a, cap, rfl, hC⟩ := hO.came
  have HI := Lib.hid (fun W (h : Below w.heap.size w W) => l07Code_any s a L.length cap L W (hC.below h (Nat.le_refl _)) hn)
  have HM := Lib.hid (specMsk_any s D hD)
  have HDI : Hid ((Try.prog.info? 33).map (·.size) = some D.size) := Lib.hid (by rw [hD.1]; exact (zero_of_info info37').2)
  have B0 : Hid (Below w.heap.size w (w.alloc (.cells D 33))) := Lib.hid ((Below.refl _ _).alloc (Nat.le_refl _) _)
  have G0 : Hid ((w.alloc (.cells D 33)).heap[w.heap.size]? = some (.cells D 33 (0, 0))) := Lib.hid (h1_0 _ _)
  have HLT : Hid (w.heap.size < (w.alloc (.cells D 33)).heap.size) := Lib.hid (by rw [World.size_alloc]; omega)
  have HS0 := Lib.hid hD.2.1
  have hn1 : IntKind.i64.wrap (s - 1) = s - 1 := by rcases side_yes s (isMap_side h1) with rfl | rfl | rfl | rfl <;> rfl
  have hne : (s != s) = false := by simp
  have HY := Lib.hid (fun w => l01In_b y 0 (s - 1) w)
  have hy : (decide (0 ≤ y) && decide (y ≤ s - 1)) = true := h4
  have HX := Lib.hid (fun w => l01In_b x 0 (s - 1) w)
  have hx : (decide (0 ≤ x) && decide (x ≤ s - 1)) = true := h5
  have e5 : codeW s L = 5 := by unfold codeW; rw [h1, h6]; rfl
  rw [e5] at HI
  clear hC hO hD h4 h5 e5
  go_enter Try.func16, Try.ntmps16
  go_wp2_with fail
  generalize w.alloc (.cells D 33) = v1 at *
  refine (HI.out _ B0.out).mono ?_
  rintro e w1 ⟨rfl, rfl⟩
  go_wp2_with (first | (refine wpList_load_row_g rfl 33 (.tmp 7) rfl w.heap.size rfl 33 D (0, 0) _ G0.out Try.underlying33 rfl HDI.out ?_) | (go_at_call 56; fail))
  refine (HM.out _).mono ?_
  rintro e w2 ⟨rfl, b2⟩
  have B2 := Lib.hid (B0.out.trans (b2.mono B0.out.size))
  have G2 := Lib.hid ((b2.block w.heap.size HLT.out).trans G0.out)
  have s0 := cell_of_row _ w.heap.size 0 _ _ _ G2.out
  rw [HS0.out] at s0
  clear b2
  rw [h2]
  go_wp2_with fail
  refine (HY.out _).mono ?_
  rw [hy]
  rintro e w3 ⟨rfl, rfl⟩
  go_wp2_with fail
  refine (HX.out _).mono ?_
  rw [hx]
  rintro e w3 ⟨rfl, rfl⟩
  go_wp2_with fail
  go_ret2
  exact ⟨_, rfl, Own.zero _ _, B2.out⟩

set_option maxRecDepth 100000 in
set_option maxHeartbeats 6400000 in
theorem specFl_g (n s y x : Int) (L : List Int) (D : Array Value) (h1 : isMap n L = true) (h2 : isMsk s D = true) (h3 : s = n) (h4 : inS n y = true) (h5 : inS n x = true) (h6 : L.all isW = true) (h7 : open_ D (n.toNat * y.toNat + x.toNat) = false) : Floods 16 n s y x L D [] 5 := by
  subst h3
  intro hn hD v w hO
  obtain ⟨a, cap, rfl, hC⟩ := hO.came
  have HI := Lib.hid (fun W (h : Below w.heap.size w W) => l07Code_any s a L.length cap L W (hC.below h (Nat.le_refl _)) hn)
  have HM := Lib.hid (specMsk_any s D hD)
  have HDI : Hid ((Try.prog.info? 33).map (·.size) = some D.size) := Lib.hid (by rw [hD.1]; exact (zero_of_info info37').2)
  have B0 : Hid (Below w.heap.size w (w.alloc (.cells D 33))) := Lib.hid ((Below.refl _ _).alloc (Nat.le_refl _) _)
  have G0 : Hid ((w.alloc (.cells D 33)).heap[w.heap.size]? = some (.cells D 33 (0, 0))) := Lib.hid (h1_0 _ _)
  have HLT : Hid (w.heap.size < (w.alloc (.cells D 33)).heap.size) := Lib.hid (by rw [World.size_alloc]; omega)
  have HS0 := Lib.hid hD.2.1
  obtain ⟨m, rfl, hm1, hm8, hlen⟩ := isMap_nat h1
  obtain ⟨yn, rfl, hyn⟩ := inS_nat h4
  obtain ⟨xn, rfl, hxn⟩ := inS_nat h5
  have hN64 : L.length ≤ 64 := map_le h1
  have hPN := place_in hlen.symm hyn hxn
  obtain ⟨q, hq⟩ : ∃ q, m * yn + xn = q := ⟨_, rfl⟩
  obtain ⟨X, hX⟩ : ∃ X, m * yn = X := ⟨_, rfl⟩
  have hw1 : IntKind.i64.wrap ((m : Int) * (yn : Int)) = (X : Int) := by rw [← Int.natCast_mul, hX]; exact IntWalk.i64_in _ (by omega)
  have hw2 : IntKind.i64.wrap ((X : Int) + (xn : Int)) = (q : Int) := by rw [← hX, ← hq, Int.natCast_add]; exact IntWalk.i64_in _ (by omega)
  rw [hq] at hPN
  have hq64 : (q : Int) < 64 := by omega
  have hq0 : (0 : Int) ≤ (q : Int) := by omega
  have e0 : codeW (m : Int) L = 0 := by unfold codeW; rw [h1, h6]; rfl
  rw [e0] at HI
  have hne : (((m : Nat) : Int) != (m : Int)) = false := by simp
  have hn1 : IntKind.i64.wrap ((m : Int) - 1) = (m : Int) - 1 := IntWalk.i64_in _ (by omega)
  have HZ : Hid (∀ k, k < 64 → ∃ re im, D[1 + k]? = some (.complex .f32 re im) ∧ (FloatKind.f32.format.order re 0 == some .eq && FloatKind.f32.format.order im 0 == some .eq) = !open_ D k) := Lib.hid (fun k hk => by
    obtain ⟨re, im, hz⟩ := hD.2.2 k hk
    obtain ⟨er, ei⟩ := at_of D k re im hz
    refine ⟨re, im, hz, ?_⟩
    have := mk_openS _ D h2 k hk
    rw [er, ei] at this
    exact this)
  obtain ⟨re, im, hz, ho⟩ := HZ.out q (by omega)
  have HZQ := Lib.hid hz
  rw [Int.toNat_natCast, Int.toNat_natCast, Int.toNat_natCast, hq] at h7
  rw [h7] at ho
  have HY := Lib.hid (fun w => l01In_b (yn : Int) 0 ((m : Int) - 1) w)
  have hy : (decide (0 ≤ (yn : Int)) && decide ((yn : Int) ≤ (m : Int) - 1)) = true := h4
  have HX := Lib.hid (fun w => l01In_b (xn : Int) 0 ((m : Int) - 1) w)
  have hx : (decide (0 ≤ (xn : Int)) && decide ((xn : Int) ≤ (m : Int) - 1)) = true := h5
  clear hC hO hD h4 h5 h7 hq hX hz e0 hlen
  go_enter Try.func16, Try.ntmps16
  go_wp2_with fail
  generalize w.alloc (.cells D 33) = v1 at *
  refine (HI.out _ B0.out).mono ?_
  rintro e w1 ⟨rfl, rfl⟩
  go_wp2_with (first | (refine wpList_load_row_g rfl 33 (.tmp 7) rfl w.heap.size rfl 33 D (0, 0) _ G0.out Try.underlying33 rfl HDI.out ?_) | (go_at_call 56; fail))
  refine (HM.out _).mono ?_
  rintro e w2 ⟨rfl, b2⟩
  have B2 := Lib.hid (B0.out.trans (b2.mono B0.out.size))
  have G2 := Lib.hid ((b2.block w.heap.size HLT.out).trans G0.out)
  have s0 := cell_of_row _ w.heap.size 0 _ _ _ G2.out
  rw [HS0.out] at s0
  clear b2
  rw [h2]
  have cq := cell_of_row _ w.heap.size (1 + q) _ _ _ G2.out
  rw [HZQ.out] at cq
  go_wp2_with fail
  refine (HY.out _).mono ?_
  rw [hy]
  rintro e w3 ⟨rfl, rfl⟩
  go_wp2_with fail
  refine (HX.out _).mono ?_
  rw [hx]
  rintro e w3 ⟨rfl, rfl⟩
  go_wp2_with fail
  go_ret2
  exact ⟨_, rfl, Own.zero _ _, B2.out⟩

end Go.Proofs.Ytjmfffgddmnkmac
