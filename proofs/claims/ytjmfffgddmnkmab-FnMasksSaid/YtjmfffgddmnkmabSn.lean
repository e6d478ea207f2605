/- The model's unions and intersections of masks, its complements, and what is behind a mask. Condition: 64 complex numbers each. -/
import Derived.Test.YtjmfffgddmnkmabSm
import Derived.Deep.CutBlock
import Derived.Deep.DeepCutAuto
import Derived.Deep.RegionHeld3
namespace Go.Proofs.Ytjmfffgddmnkmab
open Go Go.RowKit

theorem bne_int (s t : Int) (h : s ≠ t) : (s != t) = true := by simp [h]
set_option maxRecDepth 100000 in
set_option maxHeartbeats 1000000 in
theorem specTwo_no0 (s t : Int) (D E : Array Value) (hD : Wav s D) (hE : Wav t E) (h1 : isMsk s D = false) (w : World) : Calls Try.prog 70 #[.agg D, .agg E] w fun e w' => e = .returned (.int .i64 1) ∧ Below w.heap.size w w' := by
  have HS37 := Lib.hid (zero_of_info info37').2
  have HDI : Hid ((Try.prog.info? 30).map (·.size) = some D.size) := Lib.hid (by rw [hD.1]; exact HS37.out)
  have HEI : Hid ((Try.prog.info? 30).map (·.size) = some E.size) := Lib.hid (by rw [hE.1]; exact HS37.out)
  have HMD := Lib.hid (specMsk_any s D hD)
  rw [h1] at HMD
  have h0 := Lib.hid hD.2.1
  have h0' := Lib.hid hE.2.1
  clear hD hE
  go_enter Try.func70, Try.ntmps70
  go_upto_region 1 with fail
  have L0 := Lib.hid (lay2 w D E)
  generalize (w.alloc (.cells D 30)).alloc (.cells E 30) = v at *
  go_wp2_with (first | (refine wpList_load_row rfl 30 (.tmp 2) rfl w.heap.size rfl 30 D (0, 0) _ (L0.out.at 1 rfl) Try.underlying30 rfl HDI.out ?_) | (go_at_call 75; fail))
  refine (HMD.out _).mono ?_
  rintro e w1 ⟨rfl, b1⟩
  have L1 := Lib.hid (L0.out.below b1)
  clear b1 L0
  go_wp2
  go_ret
  exact ⟨rfl, L1.out.2⟩

set_option maxRecDepth 100000 in
set_option maxHeartbeats 1000000 in
theorem specTwo_no1 (s t : Int) (D E : Array Value) (hD : Wav s D) (hE : Wav t E) (h1 : isMsk s D = true) (h2 : isMsk t E = false) (w : World) : Calls Try.prog 70 #[.agg D, .agg E] w fun e w' => e = .returned (.int .i64 1) ∧ Below w.heap.size w w' := by
  have HS37 := Lib.hid (zero_of_info info37').2
  have HDI : Hid ((Try.prog.info? 30).map (·.size) = some D.size) := Lib.hid (by rw [hD.1]; exact HS37.out)
  have HEI : Hid ((Try.prog.info? 30).map (·.size) = some E.size) := Lib.hid (by rw [hE.1]; exact HS37.out)
  have HMD := Lib.hid (specMsk_any s D hD)
  rw [h1] at HMD
  have HME := Lib.hid (specMsk_any t E hE)
  rw [h2] at HME
  have h0 := Lib.hid hD.2.1
  have h0' := Lib.hid hE.2.1
  clear hD hE
  go_enter Try.func70, Try.ntmps70
  go_upto_region 1 with fail
  have L0 := Lib.hid (lay2 w D E)
  generalize (w.alloc (.cells D 30)).alloc (.cells E 30) = v at *
  go_wp2_with (first | (refine wpList_load_row rfl 30 (.tmp 2) rfl w.heap.size rfl 30 D (0, 0) _ (L0.out.at 1 rfl) Try.underlying30 rfl HDI.out ?_) | (go_at_call 75; fail))
  refine (HMD.out _).mono ?_
  rintro e w1 ⟨rfl, b1⟩
  have L1 := Lib.hid (L0.out.below b1)
  clear b1 L0
  go_wp2_with (first | (refine wpList_load_row_g rfl 30 (.tmp 3) rfl (w.heap.size + 1) rfl 30 E (0, 0) _ (L1.out.at 0 rfl) Try.underlying30 rfl HEI.out ?_) | (go_at_call 75; fail))
  refine (HME.out _).mono ?_
  rintro e w2 ⟨rfl, b2⟩
  have L2 := Lib.hid (L1.out.below b2)
  clear b2 L1
  have c0 : w2.cell? ⟨w.heap.size, 0, none⟩ = some (.int .i64 s) := by rw [L2.out.cell 1 rfl]; exact h0.out
  have c1 : w2.cell? ⟨w.heap.size + 1, 0, none⟩ = some (.int .i64 t) := by rw [L2.out.cell 0 rfl]; exact h0'.out
  go_wp2
  go_ret
  exact ⟨rfl, L2.out.2⟩

set_option maxRecDepth 100000 in
set_option maxHeartbeats 1000000 in
theorem specTwo_no2 (s t : Int) (D E : Array Value) (hD : Wav s D) (hE : Wav t E) (h1 : isMsk s D = true) (h2 : isMsk t E = true) (hst : s ≠ t) (w : World) : Calls Try.prog 70 #[.agg D, .agg E] w fun e w' => e = .returned (.int .i64 2) ∧ Below w.heap.size w w' := by
  have HS37 := Lib.hid (zero_of_info info37').2
  have HDI : Hid ((Try.prog.info? 30).map (·.size) = some D.size) := Lib.hid (by rw [hD.1]; exact HS37.out)
  have HEI : Hid ((Try.prog.info? 30).map (·.size) = some E.size) := Lib.hid (by rw [hE.1]; exact HS37.out)
  have HMD := Lib.hid (specMsk_any s D hD)
  rw [h1] at HMD
  have HME := Lib.hid (specMsk_any t E hE)
  rw [h2] at HME
  have h0 := Lib.hid hD.2.1
  have h0' := Lib.hid hE.2.1
  clear hD hE
  go_enter Try.func70, Try.ntmps70
  go_upto_region 1 with fail
  have L0 := Lib.hid (lay2 w D E)
  generalize (w.alloc (.cells D 30)).alloc (.cells E 30) = v at *
  go_wp2_with (first | (refine wpList_load_row rfl 30 (.tmp 2) rfl w.heap.size rfl 30 D (0, 0) _ (L0.out.at 1 rfl) Try.underlying30 rfl HDI.out ?_) | (go_at_call 75; fail))
  refine (HMD.out _).mono ?_
  rintro e w1 ⟨rfl, b1⟩
  have L1 := Lib.hid (L0.out.below b1)
  clear b1 L0
  go_wp2_with (first | (refine wpList_load_row_g rfl 30 (.tmp 3) rfl (w.heap.size + 1) rfl 30 E (0, 0) _ (L1.out.at 0 rfl) Try.underlying30 rfl HEI.out ?_) | (go_at_call 75; fail))
  refine (HME.out _).mono ?_
  rintro e w2 ⟨rfl, b2⟩
  have L2 := Lib.hid (L1.out.below b2)
  clear b2 L1
  have c0 : w2.cell? ⟨w.heap.size, 0, none⟩ = some (.int .i64 s) := by rw [L2.out.cell 1 rfl]; exact h0.out
  have c1 : w2.cell? ⟨w.heap.size + 1, 0, none⟩ = some (.int .i64 t) := by rw [L2.out.cell 0 rfl]; exact h0'.out
  go_wp2
  go_ret
  exact ⟨rfl, L2.out.2⟩

set_option maxRecDepth 100000 in
set_option maxHeartbeats 1000000 in
theorem specTwo_yes (s t : Int) (D E : Array Value) (hD : Wav s D) (hE : Wav t E) (h1 : isMsk s D = true) (h2 : isMsk t E = true) (hst : s = t) (w : World) : Calls Try.prog 70 #[.agg D, .agg E] w fun e w' => e = .returned (.int .i64 0) ∧ Below w.heap.size w w' := by
  have HS37 := Lib.hid (zero_of_info info37').2
  have HDI : Hid ((Try.prog.info? 30).map (·.size) = some D.size) := Lib.hid (by rw [hD.1]; exact HS37.out)
  have HEI : Hid ((Try.prog.info? 30).map (·.size) = some E.size) := Lib.hid (by rw [hE.1]; exact HS37.out)
  have HMD := Lib.hid (specMsk_any s D hD)
  rw [h1] at HMD
  have HME := Lib.hid (specMsk_any t E hE)
  rw [h2] at HME
  have h0 := Lib.hid hD.2.1
  have h0' := Lib.hid hE.2.1
  clear hD hE
  go_enter Try.func70, Try.ntmps70
  go_upto_region 1 with fail
  have L0 := Lib.hid (lay2 w D E)
  generalize (w.alloc (.cells D 30)).alloc (.cells E 30) = v at *
  go_wp2_with (first | (refine wpList_load_row rfl 30 (.tmp 2) rfl w.heap.size rfl 30 D (0, 0) _ (L0.out.at 1 rfl) Try.underlying30 rfl HDI.out ?_) | (go_at_call 75; fail))
  refine (HMD.out _).mono ?_
  rintro e w1 ⟨rfl, b1⟩
  have L1 := Lib.hid (L0.out.below b1)
  clear b1 L0
  go_wp2_with (first | (refine wpList_load_row_g rfl 30 (.tmp 3) rfl (w.heap.size + 1) rfl 30 E (0, 0) _ (L1.out.at 0 rfl) Try.underlying30 rfl HEI.out ?_) | (go_at_call 75; fail))
  refine (HME.out _).mono ?_
  rintro e w2 ⟨rfl, b2⟩
  have L2 := Lib.hid (L1.out.below b2)
  clear b2 L1
  have c0 : w2.cell? ⟨w.heap.size, 0, none⟩ = some (.int .i64 s) := by rw [L2.out.cell 1 rfl]; exact h0.out
  have c1 : w2.cell? ⟨w.heap.size + 1, 0, none⟩ = some (.int .i64 t) := by rw [L2.out.cell 0 rfl]; exact h0'.out
  go_wp2
  go_ret
  exact ⟨rfl, L2.out.2⟩

/-- the code of two masks -/
def twoCode (s t : Int) (D E : Array Value) : Int := if isMsk s D = false ∨ isMsk t E = false then 1 else if s ≠ t then 2 else 0
theorem specTwo_any (s t : Int) (D E : Array Value) (hD : Wav s D) (hE : Wav t E) (w : World) : Calls Try.prog 70 #[.agg D, .agg E] w fun e w' => e = .returned (.int .i64 (twoCode s t D E)) ∧ Below w.heap.size w w' := by
  unfold twoCode
  cases h1 : isMsk s D
  · rw [if_pos (.inl rfl)]; exact specTwo_no0 s t D E hD hE h1 w
  · cases h2 : isMsk t E
    · rw [if_pos (.inr rfl)]; exact specTwo_no1 s t D E hD hE h1 h2 w
    · rw [if_neg (by simp)]
      by_cases hst : s = t
      · rw [if_neg (by simp [hst])]; exact specTwo_yes s t D E hD hE h1 h2 hst w
      · rw [if_pos hst]; exact specTwo_no2 s t D E hD hE h1 h2 hst w

set_option maxRecDepth 100000 in
set_option maxHeartbeats 1000000 in
theorem specUnionOf_no (s t : Int) (D E : Array Value) (hD : Wav s D) (hE : Wav t E) (hc : twoCode s t D E ≠ 0) (w : World) : Calls Try.prog 16 #[.agg D, .agg E] w fun e w' => e = .returned (.tuple #[.agg (pic 0 zc), .int .i64 (twoCode s t D E)]) ∧ Below w.heap.size w w' := by
  have hz37 := (zero_of_info info37').1
  have HS37 := Lib.hid (zero_of_info info37').2
  have HZ37 : Hid ((pic 0 zc).size = 65) := Lib.hid (pic_size 0 zc zc_size)
  have HZ1 := Lib.hid (zc_one 0)
  have HZW := Lib.hid (wav_zc 0)
  have hne := pic_ne
  generalize pic 0 zc = Z at *
  have HZI : Hid ((Try.prog.info? 30).map (·.size) = some Z.size) := Lib.hid (by rw [HZ37.out]; exact HS37.out)
  have HDI : Hid ((Try.prog.info? 30).map (·.size) = some D.size) := Lib.hid (by rw [hD.1]; exact HS37.out)
  have HEI : Hid ((Try.prog.info? 30).map (·.size) = some E.size) := Lib.hid (by rw [hE.1]; exact HS37.out)
  have HT := Lib.hid (specTwo_any s t D E hD hE)
  generalize twoCode s t D E = c at *
  have hcb : (c != 0) = true := bne_int c 0 hc
  clear hD hE hc
  go_enter Try.func16, Try.ntmps16
  go_upto_region 1 with fail
  have L0 := Lib.hid (lay3 w D E Z)
  generalize ((w.alloc (.cells D 30)).alloc (.cells E 30)).alloc (.cells Z 30) = v at *
  go_wp2_with (first | (refine wpList_load_row rfl 30 (.tmp 2) rfl w.heap.size rfl 30 D (0, 0) _ (L0.out.at 2 rfl) Try.underlying30 rfl HDI.out ?_) | (refine wpList_load_row rfl 30 (.tmp 3) rfl (w.heap.size + 1) rfl 30 E (0, 0) _ (L0.out.at 1 rfl) Try.underlying30 rfl HEI.out ?_) | (go_at_call 70; fail))
  refine (HT.out _).mono ?_
  rintro e w1 ⟨rfl, b1⟩
  have L1 := Lib.hid (L0.out.below b1)
  clear b1 L0
  go_wp2_with (refine wpList_store_row rfl 30 (.tmp 4) (.tmp 12) rfl (w.heap.size + 1 + 1) Z rfl rfl 30 Z (L1.out.at 0 rfl) HZI.out (Lib.hid rfl : Hid (Z.size = Z.size)).out HZ1.out ?_)
  refine bodyPost_ret (v := .tuple #[.agg Z, .int .i64 c]) (results_row_tmp (fn := Try.f16) (p := 4) (u := 5) (ty := 30) rfl _ _ (w.heap.size + 1 + 1) 30 Z (0, 0) _ rfl (setRow_heap _ _ _ _ _ _ (L1.out.at 0 rfl)) Try.underlying30 rfl HZI.out) rfl ⟨rfl, ?_⟩
  exact below_setRow L1.out.2 (by omega) _

set_option maxRecDepth 100000 in
set_option maxHeartbeats 1000000 in
theorem specIntersectionOf_no (s t : Int) (D E : Array Value) (hD : Wav s D) (hE : Wav t E) (hc : twoCode s t D E ≠ 0) (w : World) : Calls Try.prog 18 #[.agg D, .agg E] w fun e w' => e = .returned (.tuple #[.agg (pic 0 zc), .int .i64 (twoCode s t D E)]) ∧ Below w.heap.size w w' := by
  have hz37 := (zero_of_info info37').1
  have HS37 := Lib.hid (zero_of_info info37').2
  have HZ37 : Hid ((pic 0 zc).size = 65) := Lib.hid (pic_size 0 zc zc_size)
  have HZ1 := Lib.hid (zc_one 0)
  have HZW := Lib.hid (wav_zc 0)
  have hne := pic_ne
  generalize pic 0 zc = Z at *
  have HZI : Hid ((Try.prog.info? 30).map (·.size) = some Z.size) := Lib.hid (by rw [HZ37.out]; exact HS37.out)
  have HDI : Hid ((Try.prog.info? 30).map (·.size) = some D.size) := Lib.hid (by rw [hD.1]; exact HS37.out)
  have HEI : Hid ((Try.prog.info? 30).map (·.size) = some E.size) := Lib.hid (by rw [hE.1]; exact HS37.out)
  have HT := Lib.hid (specTwo_any s t D E hD hE)
  generalize twoCode s t D E = c at *
  have hcb : (c != 0) = true := bne_int c 0 hc
  clear hD hE hc
  go_enter Try.func18, Try.ntmps18
  go_upto_region 1 with fail
  have L0 := Lib.hid (lay3 w D E Z)
  generalize ((w.alloc (.cells D 30)).alloc (.cells E 30)).alloc (.cells Z 30) = v at *
  go_wp2_with (first | (refine wpList_load_row rfl 30 (.tmp 2) rfl w.heap.size rfl 30 D (0, 0) _ (L0.out.at 2 rfl) Try.underlying30 rfl HDI.out ?_) | (refine wpList_load_row rfl 30 (.tmp 3) rfl (w.heap.size + 1) rfl 30 E (0, 0) _ (L0.out.at 1 rfl) Try.underlying30 rfl HEI.out ?_) | (go_at_call 70; fail))
  refine (HT.out _).mono ?_
  rintro e w1 ⟨rfl, b1⟩
  have L1 := Lib.hid (L0.out.below b1)
  clear b1 L0
  go_wp2_with (refine wpList_store_row rfl 30 (.tmp 4) (.tmp 12) rfl (w.heap.size + 1 + 1) Z rfl rfl 30 Z (L1.out.at 0 rfl) HZI.out (Lib.hid rfl : Hid (Z.size = Z.size)).out HZ1.out ?_)
  refine bodyPost_ret (v := .tuple #[.agg Z, .int .i64 c]) (results_row_tmp (fn := Try.f18) (p := 4) (u := 5) (ty := 30) rfl _ _ (w.heap.size + 1 + 1) 30 Z (0, 0) _ rfl (setRow_heap _ _ _ _ _ _ (L1.out.at 0 rfl)) Try.underlying30 rfl HZI.out) rfl ⟨rfl, ?_⟩
  exact below_setRow L1.out.2 (by omega) _

set_option maxRecDepth 100000 in
set_option maxHeartbeats 1000000 in
theorem specIntersectionOf_yes (s t : Int) (D E : Array Value) (hD : Wav s D) (hE : Wav t E) (hc : twoCode s t D E = 0) (w : World) : Calls Try.prog 18 #[.agg D, .agg E] w fun e w' => e = .returned (.tuple #[.agg (bhd D E 64), .int .i64 0]) ∧ Below w.heap.size w w' := by
  have hz37 := (zero_of_info info37').1
  have HS37 := Lib.hid (zero_of_info info37').2
  have HZ37 : Hid ((pic 0 zc).size = 65) := Lib.hid (pic_size 0 zc zc_size)
  have HZ1 := Lib.hid (zc_one 0)
  have HZW := Lib.hid (wav_zc 0)
  have hne := pic_ne
  generalize pic 0 zc = Z at *
  have HZI : Hid ((Try.prog.info? 30).map (·.size) = some Z.size) := Lib.hid (by rw [HZ37.out]; exact HS37.out)
  have HDI : Hid ((Try.prog.info? 30).map (·.size) = some D.size) := Lib.hid (by rw [hD.1]; exact HS37.out)
  have HEI : Hid ((Try.prog.info? 30).map (·.size) = some E.size) := Lib.hid (by rw [hE.1]; exact HS37.out)
  have HT := Lib.hid (specTwo_any s t D E hD hE)
  have HB := Lib.hid (specBhd_any s t D E hD hE)
  have HGW := Lib.hid (bhd_wav s D E hD 64)
  generalize bhd D E 64 = G at *
  have HGI : Hid ((Try.prog.info? 30).map (·.size) = some G.size) := Lib.hid (by rw [HGW.out.1]; exact HS37.out)
  have HZG : Hid (Z.size = G.size) := Lib.hid (by rw [HGW.out.1]; exact HZ37.out)
  have HG1 := Lib.hid (wav_one HGW.out)
  rw [hc] at HT
  clear hD hE hc
  go_enter Try.func18, Try.ntmps18
  go_upto_region 1 with fail
  have L0 := Lib.hid (lay3 w D E Z)
  generalize ((w.alloc (.cells D 30)).alloc (.cells E 30)).alloc (.cells Z 30) = v at *
  go_wp2_with (first | (refine wpList_load_row rfl 30 (.tmp 2) rfl w.heap.size rfl 30 D (0, 0) _ (L0.out.at 2 rfl) Try.underlying30 rfl HDI.out ?_) | (refine wpList_load_row rfl 30 (.tmp 3) rfl (w.heap.size + 1) rfl 30 E (0, 0) _ (L0.out.at 1 rfl) Try.underlying30 rfl HEI.out ?_) | (go_at_call 70; fail))
  refine (HT.out _).mono ?_
  rintro e w1 ⟨rfl, b1⟩
  have L1 := Lib.hid (L0.out.below b1)
  clear b1 L0
  go_wp2_with (first | (refine wpList_load_row rfl 30 (.tmp 2) rfl w.heap.size rfl 30 D (0, 0) _ (L1.out.at 2 rfl) Try.underlying30 rfl HDI.out ?_) | (refine wpList_load_row rfl 30 (.tmp 3) rfl (w.heap.size + 1) rfl 30 E (0, 0) _ (L1.out.at 1 rfl) Try.underlying30 rfl HEI.out ?_) | (go_at_call 72; fail))
  refine (HB.out _).mono ?_
  rintro e w2 ⟨rfl, b2⟩
  have L2 := Lib.hid (L1.out.below b2)
  clear b2 L1
  go_wp2_with (refine wpList_store_row rfl 30 (.tmp 4) (.tmp 16) rfl (w.heap.size + 1 + 1) G rfl rfl 30 Z (L2.out.at 0 rfl) HGI.out HZG.out HG1.out ?_)
  refine bodyPost_ret (v := .tuple #[.agg G, .int .i64 0]) (results_row_tmp (fn := Try.f18) (p := 4) (u := 5) (ty := 30) rfl _ _ (w.heap.size + 1 + 1) 30 G (0, 0) _ rfl (setRow_heap _ _ _ _ _ _ (L2.out.at 0 rfl)) Try.underlying30 rfl HGI.out) rfl ⟨rfl, ?_⟩
  exact below_setRow L2.out.2 (by omega) _

set_option maxRecDepth 100000 in
set_option maxHeartbeats 1000000 in
theorem specComplementOf_no (s : Int) (D : Array Value) (hD : Wav s D) (h1 : isMsk s D = false) (w : World) : Calls Try.prog 29 #[.agg D] w fun e w' => e = .returned (.tuple #[.agg (pic 0 zc), .int .i64 1]) ∧ Below w.heap.size w w' := by
  have hz37 := (zero_of_info info37').1
  have HS37 := Lib.hid (zero_of_info info37').2
  have HZ37 : Hid ((pic 0 zc).size = 65) := Lib.hid (pic_size 0 zc zc_size)
  have HZ1 := Lib.hid (zc_one 0)
  have HZW := Lib.hid (wav_zc 0)
  have hne := pic_ne
  generalize pic 0 zc = Z at *
  have HZI : Hid ((Try.prog.info? 30).map (·.size) = some Z.size) := Lib.hid (by rw [HZ37.out]; exact HS37.out)
  have HDI : Hid ((Try.prog.info? 30).map (·.size) = some D.size) := Lib.hid (by rw [hD.1]; exact HS37.out)
  have HMD := Lib.hid (specMsk_any s D hD)
  rw [h1] at HMD
  clear hD
  go_enter Try.func29, Try.ntmps29
  go_upto_region 1 with fail
  have L0 := Lib.hid (lay2 w D Z)
  generalize (w.alloc (.cells D 30)).alloc (.cells Z 30) = v at *
  go_wp2_with (first | (refine wpList_load_row rfl 30 (.tmp 1) rfl w.heap.size rfl 30 D (0, 0) _ (L0.out.at 1 rfl) Try.underlying30 rfl HDI.out ?_) | (go_at_call 75; fail))
  refine (HMD.out _).mono ?_
  rintro e w1 ⟨rfl, b1⟩
  have L1 := Lib.hid (L0.out.below b1)
  clear b1 L0
  go_wp2_with (refine wpList_store_row rfl 30 (.tmp 2) (.tmp 7) rfl (w.heap.size + 1) Z rfl rfl 30 Z (L1.out.at 0 rfl) HZI.out (Lib.hid rfl : Hid (Z.size = Z.size)).out HZ1.out ?_)
  refine bodyPost_ret (v := .tuple #[.agg Z, .int .i64 1]) (results_row_tmp (fn := Try.f29) (p := 2) (u := 3) (ty := 30) rfl _ _ (w.heap.size + 1) 30 Z (0, 0) _ rfl (setRow_heap _ _ _ _ _ _ (L1.out.at 0 rfl)) Try.underlying30 rfl HZI.out) rfl ⟨rfl, ?_⟩
  exact below_setRow L1.out.2 (by omega) _

set_option maxRecDepth 100000 in
set_option maxHeartbeats 1000000 in
theorem specComplementOf_yes (s : Nat) (hs : side s = true) (D : Array Value) (hD : Wav s D) (h1 : isMsk s D = true) (w : World) : Calls Try.prog 29 #[.agg D] w fun e w' => e = .returned (.tuple #[.agg (cpl D (s * s)), .int .i64 0]) ∧ Below w.heap.size w w' := by
  have hz37 := (zero_of_info info37').1
  have HS37 := Lib.hid (zero_of_info info37').2
  have HZ37 : Hid ((pic 0 zc).size = 65) := Lib.hid (pic_size 0 zc zc_size)
  have HZ1 := Lib.hid (zc_one 0)
  have HZW := Lib.hid (wav_zc 0)
  have hne := pic_ne
  generalize pic 0 zc = Z at *
  have HZI : Hid ((Try.prog.info? 30).map (·.size) = some Z.size) := Lib.hid (by rw [HZ37.out]; exact HS37.out)
  have HDI : Hid ((Try.prog.info? 30).map (·.size) = some D.size) := Lib.hid (by rw [hD.1]; exact HS37.out)
  have HMD := Lib.hid (specMsk_any s D hD)
  rw [h1] at HMD
  have HB := Lib.hid (specCpl_any s hs D hD (by unfold isMsk at h1; rw [Bool.and_eq_true] at h1; exact h1.1))
  have HGW := Lib.hid (cpl_wav s D hD (s * s))
  generalize cpl D (s * s) = G at *
  have HGI : Hid ((Try.prog.info? 30).map (·.size) = some G.size) := Lib.hid (by rw [HGW.out.1]; exact HS37.out)
  have HZG : Hid (Z.size = G.size) := Lib.hid (by rw [HGW.out.1]; exact HZ37.out)
  have HG1 := Lib.hid (wav_one HGW.out)
  clear hD
  go_enter Try.func29, Try.ntmps29
  go_upto_region 1 with fail
  have L0 := Lib.hid (lay2 w D Z)
  generalize (w.alloc (.cells D 30)).alloc (.cells Z 30) = v at *
  go_wp2_with (first | (refine wpList_load_row rfl 30 (.tmp 1) rfl w.heap.size rfl 30 D (0, 0) _ (L0.out.at 1 rfl) Try.underlying30 rfl HDI.out ?_) | (go_at_call 75; fail))
  refine (HMD.out _).mono ?_
  rintro e w1 ⟨rfl, b1⟩
  have L1 := Lib.hid (L0.out.below b1)
  clear b1 L0
  go_wp2_with (first | (refine wpList_load_row rfl 30 (.tmp 1) rfl w.heap.size rfl 30 D (0, 0) _ (L1.out.at 1 rfl) Try.underlying30 rfl HDI.out ?_) | (go_at_call 71; fail))
  refine (HB.out _).mono ?_
  rintro e w2 ⟨rfl, b2⟩
  have L2 := Lib.hid (L1.out.below b2)
  clear b2 L1
  go_wp2_with (refine wpList_store_row rfl 30 (.tmp 2) (.tmp 9) rfl (w.heap.size + 1) G rfl rfl 30 Z (L2.out.at 0 rfl) HGI.out HZG.out HG1.out ?_)
  refine bodyPost_ret (v := .tuple #[.agg G, .int .i64 0]) (results_row_tmp (fn := Try.f29) (p := 2) (u := 3) (ty := 30) rfl _ _ (w.heap.size + 1) 30 G (0, 0) _ rfl (setRow_heap _ _ _ _ _ _ (L2.out.at 0 rfl)) Try.underlying30 rfl HGI.out) rfl ⟨rfl, ?_⟩
  exact below_setRow L2.out.2 (by omega) _

set_option maxRecDepth 100000 in
set_option maxHeartbeats 1000000 in
theorem specBehindMask_no0 (s t : Int) (D E : Array Value) (hD : Wav s D) (hE : Wav t E) (h1 : isWav s D = false) (w : World) : Calls Try.prog 26 #[.agg D, .agg E] w fun e w' => e = .returned (.tuple #[.agg (pic 0 zc), .int .i64 1]) ∧ Below w.heap.size w w' := by
  have hz37 := (zero_of_info info37').1
  have HS37 := Lib.hid (zero_of_info info37').2
  have HZ37 : Hid ((pic 0 zc).size = 65) := Lib.hid (pic_size 0 zc zc_size)
  have HZ1 := Lib.hid (zc_one 0)
  have HZW := Lib.hid (wav_zc 0)
  have hne := pic_ne
  generalize pic 0 zc = Z at *
  have HZI : Hid ((Try.prog.info? 30).map (·.size) = some Z.size) := Lib.hid (by rw [HZ37.out]; exact HS37.out)
  have HDI : Hid ((Try.prog.info? 30).map (·.size) = some D.size) := Lib.hid (by rw [hD.1]; exact HS37.out)
  have HEI : Hid ((Try.prog.info? 30).map (·.size) = some E.size) := Lib.hid (by rw [hE.1]; exact HS37.out)
  have HMD := Lib.hid (specIs_any s D hD)
  rw [h1] at HMD
  have h0 := Lib.hid hD.2.1
  have h0' := Lib.hid hE.2.1
  clear hD hE
  go_enter Try.func26, Try.ntmps26
  go_upto_region 1 with fail
  have L0 := Lib.hid (lay3 w D E Z)
  generalize ((w.alloc (.cells D 30)).alloc (.cells E 30)).alloc (.cells Z 30) = v at *
  go_wp2_with (first | (refine wpList_load_row rfl 30 (.tmp 2) rfl w.heap.size rfl 30 D (0, 0) _ (L0.out.at 2 rfl) Try.underlying30 rfl HDI.out ?_) | (go_at_call 88; fail))
  refine (HMD.out _).mono ?_
  rintro e w1 ⟨rfl, b1⟩
  have L1 := Lib.hid (L0.out.below b1)
  clear b1 L0
  go_wp2_with (refine wpList_store_row rfl 30 (.tmp 4) (.tmp 15) rfl (w.heap.size + 1 + 1) Z rfl rfl 30 Z (L1.out.at 0 rfl) HZI.out (Lib.hid rfl : Hid (Z.size = Z.size)).out HZ1.out ?_)
  refine bodyPost_ret (v := .tuple #[.agg Z, .int .i64 1]) (results_row_tmp (fn := Try.f26) (p := 4) (u := 5) (ty := 30) rfl _ _ (w.heap.size + 1 + 1) 30 Z (0, 0) _ rfl (setRow_heap _ _ _ _ _ _ (L1.out.at 0 rfl)) Try.underlying30 rfl HZI.out) rfl ⟨rfl, ?_⟩
  exact below_setRow L1.out.2 (by omega) _

set_option maxRecDepth 100000 in
set_option maxHeartbeats 1000000 in
theorem specBehindMask_no1 (s t : Int) (D E : Array Value) (hD : Wav s D) (hE : Wav t E) (h1 : isWav s D = true) (h2 : isMsk t E = false) (w : World) : Calls Try.prog 26 #[.agg D, .agg E] w fun e w' => e = .returned (.tuple #[.agg (pic 0 zc), .int .i64 1]) ∧ Below w.heap.size w w' := by
  have hz37 := (zero_of_info info37').1
  have HS37 := Lib.hid (zero_of_info info37').2
  have HZ37 : Hid ((pic 0 zc).size = 65) := Lib.hid (pic_size 0 zc zc_size)
  have HZ1 := Lib.hid (zc_one 0)
  have HZW := Lib.hid (wav_zc 0)
  have hne := pic_ne
  generalize pic 0 zc = Z at *
  have HZI : Hid ((Try.prog.info? 30).map (·.size) = some Z.size) := Lib.hid (by rw [HZ37.out]; exact HS37.out)
  have HDI : Hid ((Try.prog.info? 30).map (·.size) = some D.size) := Lib.hid (by rw [hD.1]; exact HS37.out)
  have HEI : Hid ((Try.prog.info? 30).map (·.size) = some E.size) := Lib.hid (by rw [hE.1]; exact HS37.out)
  have HMD := Lib.hid (specIs_any s D hD)
  rw [h1] at HMD
  have HME := Lib.hid (specMsk_any t E hE)
  rw [h2] at HME
  have h0 := Lib.hid hD.2.1
  have h0' := Lib.hid hE.2.1
  clear hD hE
  go_enter Try.func26, Try.ntmps26
  go_upto_region 1 with fail
  have L0 := Lib.hid (lay3 w D E Z)
  generalize ((w.alloc (.cells D 30)).alloc (.cells E 30)).alloc (.cells Z 30) = v at *
  go_wp2_with (first | (refine wpList_load_row rfl 30 (.tmp 2) rfl w.heap.size rfl 30 D (0, 0) _ (L0.out.at 2 rfl) Try.underlying30 rfl HDI.out ?_) | (go_at_call 88; fail))
  refine (HMD.out _).mono ?_
  rintro e w1 ⟨rfl, b1⟩
  have L1 := Lib.hid (L0.out.below b1)
  clear b1 L0
  go_wp2_with (first | (refine wpList_load_row_g rfl 30 (.tmp 3) rfl (w.heap.size + 1) rfl 30 E (0, 0) _ (L1.out.at 1 rfl) Try.underlying30 rfl HEI.out ?_) | (go_at_call 75; fail))
  refine (HME.out _).mono ?_
  rintro e w2 ⟨rfl, b2⟩
  have L2 := Lib.hid (L1.out.below b2)
  clear b2 L1
  have c0 : w2.cell? ⟨w.heap.size, 0, none⟩ = some (.int .i64 s) := by rw [L2.out.cell 2 rfl]; exact h0.out
  have c1 : w2.cell? ⟨w.heap.size + 1, 0, none⟩ = some (.int .i64 t) := by rw [L2.out.cell 1 rfl]; exact h0'.out
  go_wp2_with (refine wpList_store_row rfl 30 (.tmp 4) (.tmp 15) rfl (w.heap.size + 1 + 1) Z rfl rfl 30 Z (L2.out.at 0 rfl) HZI.out (Lib.hid rfl : Hid (Z.size = Z.size)).out HZ1.out ?_)
  refine bodyPost_ret (v := .tuple #[.agg Z, .int .i64 1]) (results_row_tmp (fn := Try.f26) (p := 4) (u := 5) (ty := 30) rfl _ _ (w.heap.size + 1 + 1) 30 Z (0, 0) _ rfl (setRow_heap _ _ _ _ _ _ (L2.out.at 0 rfl)) Try.underlying30 rfl HZI.out) rfl ⟨rfl, ?_⟩
  exact below_setRow L2.out.2 (by omega) _

set_option maxRecDepth 100000 in
set_option maxHeartbeats 1000000 in
theorem specBehindMask_no2 (s t : Int) (D E : Array Value) (hD : Wav s D) (hE : Wav t E) (h1 : isWav s D = true) (h2 : isMsk t E = true) (hst : s ≠ t) (w : World) : Calls Try.prog 26 #[.agg D, .agg E] w fun e w' => e = .returned (.tuple #[.agg (pic 0 zc), .int .i64 2]) ∧ Below w.heap.size w w' := by
  have hz37 := (zero_of_info info37').1
  have HS37 := Lib.hid (zero_of_info info37').2
  have HZ37 : Hid ((pic 0 zc).size = 65) := Lib.hid (pic_size 0 zc zc_size)
  have HZ1 := Lib.hid (zc_one 0)
  have HZW := Lib.hid (wav_zc 0)
  have hne := pic_ne
  generalize pic 0 zc = Z at *
  have HZI : Hid ((Try.prog.info? 30).map (·.size) = some Z.size) := Lib.hid (by rw [HZ37.out]; exact HS37.out)
  have HDI : Hid ((Try.prog.info? 30).map (·.size) = some D.size) := Lib.hid (by rw [hD.1]; exact HS37.out)
  have HEI : Hid ((Try.prog.info? 30).map (·.size) = some E.size) := Lib.hid (by rw [hE.1]; exact HS37.out)
  have HMD := Lib.hid (specIs_any s D hD)
  rw [h1] at HMD
  have HME := Lib.hid (specMsk_any t E hE)
  rw [h2] at HME
  have h0 := Lib.hid hD.2.1
  have h0' := Lib.hid hE.2.1
  clear hD hE
  go_enter Try.func26, Try.ntmps26
  go_upto_region 1 with fail
  have L0 := Lib.hid (lay3 w D E Z)
  generalize ((w.alloc (.cells D 30)).alloc (.cells E 30)).alloc (.cells Z 30) = v at *
  go_wp2_with (first | (refine wpList_load_row rfl 30 (.tmp 2) rfl w.heap.size rfl 30 D (0, 0) _ (L0.out.at 2 rfl) Try.underlying30 rfl HDI.out ?_) | (go_at_call 88; fail))
  refine (HMD.out _).mono ?_
  rintro e w1 ⟨rfl, b1⟩
  have L1 := Lib.hid (L0.out.below b1)
  clear b1 L0
  go_wp2_with (first | (refine wpList_load_row_g rfl 30 (.tmp 3) rfl (w.heap.size + 1) rfl 30 E (0, 0) _ (L1.out.at 1 rfl) Try.underlying30 rfl HEI.out ?_) | (go_at_call 75; fail))
  refine (HME.out _).mono ?_
  rintro e w2 ⟨rfl, b2⟩
  have L2 := Lib.hid (L1.out.below b2)
  clear b2 L1
  have c0 : w2.cell? ⟨w.heap.size, 0, none⟩ = some (.int .i64 s) := by rw [L2.out.cell 2 rfl]; exact h0.out
  have c1 : w2.cell? ⟨w.heap.size + 1, 0, none⟩ = some (.int .i64 t) := by rw [L2.out.cell 1 rfl]; exact h0'.out
  go_wp2_with (refine wpList_store_row rfl 30 (.tmp 4) (.tmp 22) rfl (w.heap.size + 1 + 1) Z rfl rfl 30 Z (L2.out.at 0 rfl) HZI.out (Lib.hid rfl : Hid (Z.size = Z.size)).out HZ1.out ?_)
  refine bodyPost_ret (v := .tuple #[.agg Z, .int .i64 2]) (results_row_tmp (fn := Try.f26) (p := 4) (u := 5) (ty := 30) rfl _ _ (w.heap.size + 1 + 1) 30 Z (0, 0) _ rfl (setRow_heap _ _ _ _ _ _ (L2.out.at 0 rfl)) Try.underlying30 rfl HZI.out) rfl ⟨rfl, ?_⟩
  exact below_setRow L2.out.2 (by omega) _

set_option maxRecDepth 100000 in
set_option maxHeartbeats 1000000 in
theorem specBehindMask_yes (s t : Int) (D E : Array Value) (hD : Wav s D) (hE : Wav t E) (h1 : isWav s D = true) (h2 : isMsk t E = true) (hst : s = t) (w : World) : Calls Try.prog 26 #[.agg D, .agg E] w fun e w' => e = .returned (.tuple #[.agg (bhd D E 64), .int .i64 0]) ∧ Below w.heap.size w w' := by
  have hz37 := (zero_of_info info37').1
  have HS37 := Lib.hid (zero_of_info info37').2
  have HZ37 : Hid ((pic 0 zc).size = 65) := Lib.hid (pic_size 0 zc zc_size)
  have HZ1 := Lib.hid (zc_one 0)
  have HZW := Lib.hid (wav_zc 0)
  have hne := pic_ne
  generalize pic 0 zc = Z at *
  have HZI : Hid ((Try.prog.info? 30).map (·.size) = some Z.size) := Lib.hid (by rw [HZ37.out]; exact HS37.out)
  have HDI : Hid ((Try.prog.info? 30).map (·.size) = some D.size) := Lib.hid (by rw [hD.1]; exact HS37.out)
  have HEI : Hid ((Try.prog.info? 30).map (·.size) = some E.size) := Lib.hid (by rw [hE.1]; exact HS37.out)
  have HMD := Lib.hid (specIs_any s D hD)
  rw [h1] at HMD
  have HME := Lib.hid (specMsk_any t E hE)
  rw [h2] at HME
  have h0 := Lib.hid hD.2.1
  have h0' := Lib.hid hE.2.1
  have HB := Lib.hid (specBhd_any s t D E hD hE)
  have HGW := Lib.hid (bhd_wav s D E hD 64)
  generalize bhd D E 64 = G at *
  have HGI : Hid ((Try.prog.info? 30).map (·.size) = some G.size) := Lib.hid (by rw [HGW.out.1]; exact HS37.out)
  have HZG : Hid (Z.size = G.size) := Lib.hid (by rw [HGW.out.1]; exact HZ37.out)
  have HG1 := Lib.hid (wav_one HGW.out)
  clear hD hE
  go_enter Try.func26, Try.ntmps26
  go_upto_region 1 with fail
  have L0 := Lib.hid (lay3 w D E Z)
  generalize ((w.alloc (.cells D 30)).alloc (.cells E 30)).alloc (.cells Z 30) = v at *
  go_wp2_with (first | (refine wpList_load_row rfl 30 (.tmp 2) rfl w.heap.size rfl 30 D (0, 0) _ (L0.out.at 2 rfl) Try.underlying30 rfl HDI.out ?_) | (go_at_call 88; fail))
  refine (HMD.out _).mono ?_
  rintro e w1 ⟨rfl, b1⟩
  have L1 := Lib.hid (L0.out.below b1)
  clear b1 L0
  go_wp2_with (first | (refine wpList_load_row_g rfl 30 (.tmp 3) rfl (w.heap.size + 1) rfl 30 E (0, 0) _ (L1.out.at 1 rfl) Try.underlying30 rfl HEI.out ?_) | (go_at_call 75; fail))
  refine (HME.out _).mono ?_
  rintro e w2 ⟨rfl, b2⟩
  have L2 := Lib.hid (L1.out.below b2)
  clear b2 L1
  have c0 : w2.cell? ⟨w.heap.size, 0, none⟩ = some (.int .i64 s) := by rw [L2.out.cell 2 rfl]; exact h0.out
  have c1 : w2.cell? ⟨w.heap.size + 1, 0, none⟩ = some (.int .i64 t) := by rw [L2.out.cell 1 rfl]; exact h0'.out
  go_wp2_with (first | (refine wpList_load_row rfl 30 (.tmp 2) rfl w.heap.size rfl 30 D (0, 0) _ (L2.out.at 2 rfl) Try.underlying30 rfl HDI.out ?_) | (refine wpList_load_row rfl 30 (.tmp 3) rfl (w.heap.size + 1) rfl 30 E (0, 0) _ (L2.out.at 1 rfl) Try.underlying30 rfl HEI.out ?_) | (go_at_call 72; fail))
  refine (HB.out _).mono ?_
  rintro e w3 ⟨rfl, b3⟩
  have L3 := Lib.hid (L2.out.below b3)
  clear b3 L2 c0 c1
  go_wp2_with (refine wpList_store_row rfl 30 (.tmp 4) (.tmp 25) rfl (w.heap.size + 1 + 1) G rfl rfl 30 Z (L3.out.at 0 rfl) HGI.out HZG.out HG1.out ?_)
  refine bodyPost_ret (v := .tuple #[.agg G, .int .i64 0]) (results_row_tmp (fn := Try.f26) (p := 4) (u := 5) (ty := 30) rfl _ _ (w.heap.size + 1 + 1) 30 G (0, 0) _ rfl (setRow_heap _ _ _ _ _ _ (L3.out.at 0 rfl)) Try.underlying30 rfl HGI.out) rfl ⟨rfl, ?_⟩
  exact below_setRow L3.out.2 (by omega) _

end Go.Proofs.Ytjmfffgddmnkmab
