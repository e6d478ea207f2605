/- The model's ways to ask for a mask, its complement, and what is behind it. Condition: 64 complex numbers each. -/
import Derived.Test.YtjmfffgddmnkmabMk
import Derived.Test.YtjmfffgddmnkmabFm
import Derived.Test.YtjmfffgddmnkmabM21
import Derived.Test.YtjmfffgddmnkmabLay
namespace Go.Proofs.Ytjmfffgddmnkmab
open Go Go.RowKit

theorem mks_at (D : Array Value) (m : Nat) (h : mks D m = true) : ∀ k, k < m → mk (reAt D k) (imAt D k) = true := by
  induction m with
  | zero => intro k hk; omega
  | succ m ih =>
    intro k hk
    rw [mks, Bool.and_eq_true] at h
    by_cases e : k = m
    · subst e; exact h.2
    · exact ih h.1 k (by omega)
theorem side_sq (s : Nat) (hs : side s = true) : ∃ N : Nat, IntKind.i64.wrap ((s : Int) * (s : Int)) = (N : Int) ∧ N ≤ 64 ∧ s * s = N := by
  rcases side_nat s hs with rfl | rfl | rfl | rfl
  · exact ⟨1, rfl, by omega, rfl⟩
  · exact ⟨4, rfl, by omega, rfl⟩
  · exact ⟨16, rfl, by omega, rfl⟩
  · exact ⟨64, rfl, by omega, rfl⟩

set_option maxRecDepth 100000 in
set_option maxHeartbeats 1000000 in
theorem specMsk_any (s : Int) (D : Array Value) (hD : Wav s D) (w : World) : Calls Try.prog 75 #[.agg D] w fun e w' => e = .returned (.bool (isMsk s D)) ∧ Below w.heap.size w w' := by
  have HDI : Hid ((Try.prog.info? 30).map (·.size) = some D.size) := Lib.hid (by rw [hD.1]; exact (zero_of_info info37').2)
  have HIS := Lib.hid (specIs_any s D hD)
  have HX : Hid (∀ k : Nat, k < 64 → ∃ x y, (w.alloc (.cells D 30)).cell? ⟨w.heap.size, 1 + k, none⟩ = some (.complex .f32 x y) ∧ reAt D k = x ∧ imAt D k = y) := Lib.hid fun k hk => by
    obtain ⟨x, y, h⟩ := hD.2.2 k hk
    obtain ⟨e1, e2⟩ := at_of D k x y h
    exact ⟨x, y, by rw [cell_of_row _ _ _ _ _ _ (h1_0 _ _)]; exact h, e1, e2⟩
  have HM : Hid (∀ k, k ≤ 64 → mks D k = false → isMsk s D = false) := Lib.hid fun k hk h => by unfold isMsk; rw [mks_false D k 64 h hk]; rfl
  have HE : Hid (mks D 64 = true → isMsk s D = isWav s D) := Lib.hid fun h => by unfold isMsk; rw [h]; rfl
  clear hD
  generalize isMsk s D = M at *
  go_enter Try.func75, Try.ntmps75
  go_wp2_with fail
  have G0 := Lib.hid (lay1 w D)
  generalize w.alloc (.cells D 30) = v at *
  go_loopw [3] (fun i wr => ∃ k : Nat, k ≤ 64 ∧ i = .int .i64 k ∧ mks D k = true ∧ wr = v) (fun i _ => 64 - (intOf i).toNat)
  case atStart => exact ⟨0, by omega, rfl, rfl, rfl⟩
  case round =>
    obtain ⟨k, hk, rfl, hm, rfl⟩ := hrel
    by_cases hlt : k < 64
    · have hdk : decide ((k : Int) < 64) = true := by simp; omega
      obtain ⟨x, y, hX, ex, ey⟩ := HX.out k hlt
      have hs : mks D (k + 1) = mk x y := by rw [mks, hm, ex, ey]; rfl
      cases hn : nul x y
      · have hn' : (FloatKind.f32.format.order x 0 == some .eq && FloatKind.f32.format.order y 0 == some .eq) = false := hn
        cases ho : one x y
        · have ho' : (FloatKind.f32.format.order x 1065353216 == some .eq && FloatKind.f32.format.order y 0 == some .eq) = false := ho
          have hf := HM.out (k + 1) (by omega) (by rw [hs]; unfold mk; rw [hn, ho]; rfl)
          go_wp2
          go_ret
          exact ⟨by rw [hf]; rfl, G0.out.2⟩
        · have ho' : (FloatKind.f32.format.order x 1065353216 == some .eq && FloatKind.f32.format.order y 0 == some .eq) = true := ho
          go_wp2
          exact ⟨⟨k + 1, by omega, by go_num, by rw [hs]; unfold mk; rw [hn, ho]; rfl, trivial⟩, by simp [intOf]; omega⟩
      · have hn' : (FloatKind.f32.format.order x 0 == some .eq && FloatKind.f32.format.order y 0 == some .eq) = true := hn
        go_wp2
        exact ⟨⟨k + 1, by omega, by go_num, by rw [hs]; unfold mk; rw [hn]; rfl, trivial⟩, by simp [intOf]; omega⟩
    · obtain rfl : k = 64 := by omega
      have hq := HE.out hm
      go_wp2_with (first | (refine wpList_load_row rfl 30 (.tmp 1) rfl w.heap.size rfl 30 D (0, 0) _ (G0.out.at 0 rfl) Try.underlying30 rfl HDI.out ?_) | (go_at_call 88; fail))
      refine (HIS.out _).mono ?_
      rintro e w1 ⟨rfl, b1⟩
      have B1 := Lib.hid (G0.out.below b1).2
      clear b1
      go_wp2
      go_ret
      exact ⟨by rw [hq]; rfl, B1.out⟩

set_option maxRecDepth 100000 in
set_option maxHeartbeats 1000000 in
theorem specIsMask_any (s : Int) (D : Array Value) (hD : Wav s D) (w : World) : Calls Try.prog 20 #[.agg D] w fun e w' => e = .returned (.bool (isMsk s D)) ∧ Below w.heap.size w w' := by
  have HDI : Hid ((Try.prog.info? 30).map (·.size) = some D.size) := Lib.hid (by rw [hD.1]; exact (zero_of_info info37').2)
  have HIS := Lib.hid (specMsk_any s D hD)
  have G0 := Lib.hid (lay1 w D)
  clear hD
  generalize isMsk s D = M at *
  go_enter Try.func20, Try.ntmps20
  go_wp2_with (first | (refine wpList_load_row rfl 30 (.tmp 1) rfl w.heap.size rfl 30 D (0, 0) _ (G0.out.at 0 rfl) Try.underlying30 rfl HDI.out ?_) | (go_at_call 75; fail))
  refine (HIS.out _).mono ?_
  rintro e w1 ⟨rfl, b1⟩
  have B1 := Lib.hid (G0.out.below b1).2
  clear b1
  go_wp2
  go_ret
  exact ⟨rfl, B1.out⟩

/-- a wave whose first k cells are 1 where they were not -/
def cpl (D : Array Value) : Nat → Array Value
  | 0 => D
  | k + 1 => (cpl D k).setIfInBounds (1 + k) (.complex .f32 (mark (!open_ D k)).1 (mark (!open_ D k)).2)
theorem cpl_wav (s : Int) (D : Array Value) (hD : Wav s D) : ∀ k, Wav s (cpl D k)
  | 0 => hD
  | k + 1 => wav_set (cpl_wav s D hD k) k _ _
theorem cpl_get (s : Int) (D : Array Value) (hD : Wav s D) (i : Nat) (hi : i < 64) : ∀ k, (cpl D k)[1 + i]? = if i < k then some (.complex .f32 (mark (!open_ D i)).1 (mark (!open_ D i)).2) else D[1 + i]?
  | 0 => by rw [if_neg (by omega)]; rfl
  | k + 1 => by
    unfold cpl
    by_cases e : k = i
    · subst e
      rw [Array.getElem?_setIfInBounds_self_of_lt (by rw [(cpl_wav s D hD k).1]; omega), if_pos (by omega)]
    · rw [Array.getElem?_setIfInBounds_ne (by omega), cpl_get s D hD i hi k]
      by_cases h : i < k
      · rw [if_pos h, if_pos (by omega)]
      · rw [if_neg h, if_neg (by omega)]
theorem one_less (x y : Nat) (h : mk x y = true) (w : World) : (binOp .sub 27 (.complex .f32 1065353216 0) (.complex .f32 x y)).run Try.prog w = .ok (.complex .f32 (mark (!one x y)).1 (mark (!one x y)).2) w := by
  refine run_complex_sum w .sub (.inr rfl) _ .f32 _ _ _ _ _ _ ?_
  unfold cSumBits
  cases ho : one x y
  · have hn : nul x y = true := by unfold mk at h; rw [ho, Bool.or_false] at h; exact h
    unfold nul at hn
    rw [Bool.and_eq_true] at hn
    have e1 : floatBits .sub .f32 1065353216 x = some 1065353216 := sub_one_zero x hn.1
    have e2 : floatBits .sub .f32 0 y = some 0 := sub_zero_zero y hn.2
    rw [e1, e2]; rfl
  · unfold one at ho
    rw [Bool.and_eq_true] at ho
    have e1 : floatBits .sub .f32 1065353216 x = some 0 := sub_one_one x ho.1
    have e2 : floatBits .sub .f32 0 y = some 0 := sub_zero_zero y ho.2
    rw [e1, e2]; rfl

set_option maxRecDepth 100000 in
set_option maxHeartbeats 1000000 in
theorem specCpl_any (s : Nat) (hs : side s = true) (D : Array Value) (hD : Wav s D) (hm : mks D 64 = true) (w : World) : Calls Try.prog 71 #[.agg D] w fun e w' => e = .returned (.agg (cpl D (s * s))) ∧ Below w.heap.size w w' := by
  have hz37 := (zero_of_info info37').1
  have HS37 := Lib.hid (zero_of_info info37').2
  have HZ37 : Hid ((pic 0 zc).size = 65) := Lib.hid (pic_size 0 zc zc_size)
  have HZ1 := Lib.hid (zc_one 0)
  have HZW := Lib.hid (wav_zc 0)
  have hne := pic_ne
  generalize pic 0 zc = Z at *
  have HZI : Hid ((Try.prog.info? 30).map (·.size) = some Z.size) := Lib.hid (by rw [HZ37.out]; exact HS37.out)
  obtain ⟨N, hN, hN64, hNs⟩ := side_sq s hs
  rw [hNs]
  have HC : Hid (∀ k, k < N → ∃ x y, (cpl D k)[1 + k]? = some (.complex .f32 x y) ∧ (∀ w, (binOp .sub 27 (.complex .f32 1065353216 0) (.complex .f32 x y)).run Try.prog w = .ok (.complex .f32 (mark (!open_ D k)).1 (mark (!open_ D k)).2) w)) := Lib.hid fun k hk => by
    obtain ⟨x, y, h⟩ := hD.2.2 k (by omega)
    obtain ⟨e1, e2⟩ := at_of D k x y h
    have hmk := mks_at D 64 hm k (by omega)
    rw [e1, e2] at hmk
    refine ⟨x, y, by rw [cpl_get s D hD k (by omega), if_neg (by omega)]; exact h, fun w => ?_⟩
    unfold open_
    rw [e1, e2]
    exact one_less x y hmk w
  have H0 : Hid (∀ k, (cpl D k)[0]? = some (.int .i64 s)) := Lib.hid fun k => (cpl_wav s D hD k).2.1
  have HW := Lib.hid (cpl_wav s D hD)
  have HFI : Hid ((Try.prog.info? 30).map (·.size) = some (cpl D N).size) := Lib.hid (by rw [(cpl_wav s D hD N).1]; exact HS37.out)
  have HZF : Hid (Z.size = (cpl D N).size) := Lib.hid (by rw [(cpl_wav s D hD N).1]; exact HZ37.out)
  have HF1 := Lib.hid (wav_one (cpl_wav s D hD N))
  clear hs hNs hm hD
  go_enter Try.func71, Try.ntmps71
  go_wp2_with fail
  have L0 := Lib.hid (lay2 w D Z).swap
  generalize (w.alloc (.cells D 30)).alloc (.cells Z 30) = v at *
  go_loopw [3] (fun i wr => ∃ k : Nat, k ≤ N ∧ i = .int .i64 k ∧ Hid (Lay [(w.heap.size, cpl D k), (w.heap.size + 1, Z)] w wr)) (fun i _ => N - (intOf i).toNat)
  case atStart => exact ⟨0, by omega, rfl, L0⟩
  case round =>
    obtain ⟨k, hk, rfl, HL⟩ := hrel
    have c0 : wr.cell? ⟨w.heap.size, 0, none⟩ = some (.int .i64 s) := by rw [HL.out.cell 0 rfl]; exact H0.out k
    by_cases hlt : k < N
    · obtain ⟨x, y, hz, hsub⟩ := HC.out k hlt
      have c1 : wr.cell? ⟨w.heap.size, 1 + k, none⟩ = some (.complex .f32 x y) := by rw [HL.out.cell 0 rfl]; exact hz
      have f1 : wr.frozen? ⟨w.heap.size, 1 + k, none⟩ = false := HL.out.free 0 rfl _
      have HL2 : Hid (Lay [(w.heap.size, cpl D (k + 1)), (w.heap.size + 1, Z)] w (wr.setCell ⟨w.heap.size, 1 + k, none⟩ (.complex .f32 (mark (!open_ D k)).1 (mark (!open_ D k)).2))) := Lib.hid (HL.out.setCell (Nat.le_refl _) (by intro p hp; simp at hp; subst hp; simp) (1 + k) _)
      have hk64 : (k : Int) < 64 := by omega
      clear hz
      generalize (mark (!open_ D k)).1 = X at *
      generalize (mark (!open_ D k)).2 = Y at *
      go_wp2
      exact ⟨⟨k + 1, by omega, by go_num, HL2⟩, by simp [intOf]; omega⟩
    · obtain rfl : k = N := by omega
      go_wp2_with (first | (refine wpList_load_row rfl 30 (.tmp 1) rfl w.heap.size rfl 30 (cpl D k) (0, 0) _ (HL.out.at 0 rfl) Try.underlying30 rfl HFI.out ?_) | (refine wpList_store_row rfl 30 (.tmp 2) (.tmp 21) rfl (w.heap.size + 1) (cpl D k) rfl rfl 30 Z (HL.out.at 1 rfl) HFI.out HZF.out HF1.out ?_))
      refine bodyPost_ret (v := .agg (cpl D k)) (results_row_one (fn := Try.f71) (p := 2) (ty := 30) rfl _ _ (w.heap.size + 1) 30 (cpl D k) (0, 0) _ rfl ((HL.out.swap.setRow (by omega) (by intro p hp; simp at hp; subst hp; simp) (cpl D k)).at 0 rfl) Try.underlying30 rfl HFI.out) rfl ⟨rfl, ?_⟩
      exact below_setRow HL.out.2 (by omega) _

/-- a wave whose first k cells are 0 where another one's are -/
def bhd (D E : Array Value) : Nat → Array Value
  | 0 => D
  | k + 1 => if nul (reAt E k) (imAt E k) then (bhd D E k).setIfInBounds (1 + k) (.complex .f32 0 0) else bhd D E k
theorem bhd_wav (s : Int) (D E : Array Value) (hD : Wav s D) : ∀ k, Wav s (bhd D E k)
  | 0 => hD
  | k + 1 => by
    unfold bhd
    cases nul (reAt E k) (imAt E k)
    · exact bhd_wav s D E hD k
    · exact wav_set (bhd_wav s D E hD k) k _ _
theorem bhd_get (s : Int) (D E : Array Value) (hD : Wav s D) (i : Nat) (hi : i < 64) : ∀ k, (bhd D E k)[1 + i]? = if i < k ∧ nul (reAt E i) (imAt E i) = true then some (.complex .f32 0 0) else D[1 + i]?
  | 0 => by rw [if_neg (by omega)]; rfl
  | k + 1 => by
    have ih := bhd_get s D E hD i hi k
    unfold bhd
    cases hn : nul (reAt E k) (imAt E k)
    · rw [if_neg (by simp), ih]
      by_cases h : i < k ∧ nul (reAt E i) (imAt E i) = true
      · rw [if_pos h, if_pos ⟨by omega, h.2⟩]
      · rw [if_neg h, if_neg (fun ⟨h1, h2⟩ => h ⟨by
          by_cases e : i = k
          · subst e; rw [hn] at h2; cases h2
          · omega, h2⟩)]
    · rw [if_pos rfl]
      by_cases e : k = i
      · subst e
        rw [Array.getElem?_setIfInBounds_self_of_lt (by rw [(bhd_wav s D E hD k).1]; omega), if_pos ⟨by omega, hn⟩]
      · rw [Array.getElem?_setIfInBounds_ne (by omega), ih]
        by_cases h : i < k ∧ nul (reAt E i) (imAt E i) = true
        · rw [if_pos h, if_pos ⟨by omega, h.2⟩]
        · rw [if_neg h, if_neg (fun ⟨h1, h2⟩ => h ⟨by omega, h2⟩)]

set_option maxRecDepth 100000 in
set_option maxHeartbeats 1000000 in
theorem specBhd_any (s t : Int) (D E : Array Value) (hD : Wav s D) (hE : Wav t E) (w : World) : Calls Try.prog 72 #[.agg D, .agg E] w fun e w' => e = .returned (.agg (bhd D E 64)) ∧ Below w.heap.size w w' := by
  have hz37 := (zero_of_info info37').1
  have HS37 := Lib.hid (zero_of_info info37').2
  have HZ37 : Hid ((pic 0 zc).size = 65) := Lib.hid (pic_size 0 zc zc_size)
  have HZ1 := Lib.hid (zc_one 0)
  have HZW := Lib.hid (wav_zc 0)
  have hne := pic_ne
  generalize pic 0 zc = Z at *
  have HZI : Hid ((Try.prog.info? 30).map (·.size) = some Z.size) := Lib.hid (by rw [HZ37.out]; exact HS37.out)
  have HC : Hid (∀ k, k < 64 → ∃ x y, E[1 + k]? = some (.complex .f32 x y) ∧ nul (reAt E k) (imAt E k) = (FloatKind.f32.format.order x 0 == some .eq && FloatKind.f32.format.order y 0 == some .eq)) := Lib.hid fun k hk => by
    obtain ⟨x, y, h⟩ := hE.2.2 k hk
    obtain ⟨e1, e2⟩ := at_of E k x y h
    exact ⟨x, y, h, by rw [e1, e2]; rfl⟩
  have HG : Hid (∀ k, k < 64 → ∃ x y, (bhd D E k)[1 + k]? = some (.complex .f32 x y)) := Lib.hid fun k hk => (bhd_wav s D E hD k).2.2 k hk
  have HFI : Hid ((Try.prog.info? 30).map (·.size) = some (bhd D E 64).size) := Lib.hid (by rw [(bhd_wav s D E hD 64).1]; exact HS37.out)
  have HZF : Hid (Z.size = (bhd D E 64).size) := Lib.hid (by rw [(bhd_wav s D E hD 64).1]; exact HZ37.out)
  have HF1 := Lib.hid (wav_one (bhd_wav s D E hD 64))
  clear hD hE
  go_enter Try.func72, Try.ntmps72
  go_wp2_with fail
  have L0 := Lib.hid (lay3 w D E Z).roll
  generalize ((w.alloc (.cells D 30)).alloc (.cells E 30)).alloc (.cells Z 30) = v at *
  go_loopw [5] (fun i wr => ∃ k : Nat, k ≤ 64 ∧ i = .int .i64 k ∧ Hid (Lay [(w.heap.size, bhd D E k), (w.heap.size + 1 + 1, Z), (w.heap.size + 1, E)] w wr)) (fun i _ => 64 - (intOf i).toNat)
  case atStart => exact ⟨0, by omega, rfl, L0⟩
  case round =>
    obtain ⟨k, hk, rfl, HL⟩ := hrel
    by_cases hlt : k < 64
    · obtain ⟨x, y, hz, hnul⟩ := HC.out k hlt
      obtain ⟨x2, y2, hz2⟩ := HG.out k hlt
      have c0 : wr.cell? ⟨w.heap.size + 1, 1 + k, none⟩ = some (.complex .f32 x y) := by rw [HL.out.cell 2 rfl]; exact hz
      have c1 : wr.cell? ⟨w.heap.size, 1 + k, none⟩ = some (.complex .f32 x2 y2) := by rw [HL.out.cell 0 rfl]; exact hz2
      have f1 : wr.frozen? ⟨w.heap.size, 1 + k, none⟩ = false := HL.out.free 0 rfl _
      have hk64 : (k : Int) < 64 := by omega
      clear hz hz2
      cases hn : nul (reAt E k) (imAt E k)
      · have hn' : (FloatKind.f32.format.order x 0 == some .eq && FloatKind.f32.format.order y 0 == some .eq) = false := by rw [← hnul]; exact hn
        have HL2 : Hid (Lay [(w.heap.size, bhd D E (k + 1)), (w.heap.size + 1 + 1, Z), (w.heap.size + 1, E)] w wr) := Lib.hid (by rw [show bhd D E (k + 1) = bhd D E k by rw [bhd, hn]; rfl]; exact HL.out)
        clear hnul hn
        go_wp2
        exact ⟨⟨k + 1, by omega, by go_num, HL2⟩, by simp [intOf]; omega⟩
      · have hn' : (FloatKind.f32.format.order x 0 == some .eq && FloatKind.f32.format.order y 0 == some .eq) = true := by rw [← hnul]; exact hn
        have HL2 : Hid (Lay [(w.heap.size, bhd D E (k + 1)), (w.heap.size + 1 + 1, Z), (w.heap.size + 1, E)] w (wr.setCell ⟨w.heap.size, 1 + k, none⟩ (.complex .f32 0 0))) := Lib.hid (by
          rw [show bhd D E (k + 1) = (bhd D E k).setIfInBounds (1 + k) (.complex .f32 0 0) by rw [bhd, hn]; rfl]
          exact HL.out.setCell (Nat.le_refl _) (by intro p hp; simp at hp; rcases hp with rfl | rfl <;> simp <;> omega) (1 + k) _)
        clear hnul hn
        go_wp2
        exact ⟨⟨k + 1, by omega, by go_num, HL2⟩, by simp [intOf]; omega⟩
    · obtain rfl : k = 64 := by omega
      go_wp2_with (first | (refine wpList_load_row rfl 30 (.tmp 2) rfl w.heap.size rfl 30 (bhd D E 64) (0, 0) _ (HL.out.at 0 rfl) Try.underlying30 rfl HFI.out ?_) | (refine wpList_store_row rfl 30 (.tmp 4) (.tmp 18) rfl (w.heap.size + 1 + 1) (bhd D E 64) rfl rfl 30 Z (HL.out.at 1 rfl) HFI.out HZF.out HF1.out ?_))
      refine bodyPost_ret (v := .agg (bhd D E 64)) (results_row_one (fn := Try.f72) (p := 4) (ty := 30) rfl _ _ (w.heap.size + 1 + 1) 30 (bhd D E 64) (0, 0) _ rfl ((HL.out.swap.setRow (by omega) (by intro p hp; simp at hp; rcases hp with rfl | rfl <;> simp <;> omega) (bhd D E 64)).at 0 rfl) Try.underlying30 rfl HFI.out) rfl ⟨rfl, ?_⟩
      exact below_setRow HL.out.2 (by omega) _
end Go.Proofs.Ytjmfffgddmnkmab
