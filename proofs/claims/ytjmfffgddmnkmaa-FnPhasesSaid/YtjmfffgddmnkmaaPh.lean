/- The law of phases, plane waves and cells. Condition: a code that can be read. -/
import Derived.Test.YtjmfffgddmnkmaaPhG
import Derived.Deep.Cut
namespace Go.Proofs.Ytjmfffgddmnkmaa
open Go Go.RowKit

set_option maxRecDepth 100000 in
set_option maxHeartbeats 4000000 in
theorem phases_walk (ad : Option Addr) (len cap : Nat) (w : World) (hc : Code ad len w) :
    Calls Try.prog 3 #[.slice ad len cap] w fun e w' => e = .returned (.bool true) ∧ Below w.heap.size w w' := by
  have HC := Lib.hid hc
  clear hc
  by_cases hbig : 4096 < len
  · have hd : decide (4096 < len) = true := by simp [hbig]
    go_enter Try.func3, Try.ntmps3
    go_wp2_with (go_at_call 15; refine (big_any _ _ _ _).mono ?_; rw [hd]; rintro e w' ⟨rfl, rfl⟩)
    go_ret
    exact ⟨rfl, Below.refl _ _⟩
  have hd : decide (4096 < len) = false := by simp [hbig]
  go_enter Try.func3, Try.ntmps3
  go_wp2_with fail
  refine (big_any _ _ _ _).mono ?_
  rw [hd]
  rintro e w0 ⟨rfl, hw0⟩
  rw [hw0]
  clear hw0 w0 hd hbig
  go_wp2_with fail
  refine (drawPhase_any ad len cap _ HC.out).mono ?_
  rintro e w1 ⟨k, rfl, hk, b1⟩
  have B1 := Lib.hid b1
  clear b1
  obtain ⟨K, hK, hK2, t64, t32, t16, tq⟩ := turn_facts k
  have HP := Lib.hid (impl_phase k)
  have HS := Lib.hid (spec_phaseOf k)
  have HP64 := Lib.hid (impl_phase (K + 64))
  have HP32 := Lib.hid (impl_phase (K + 32))
  have HP16 := Lib.hid (impl_phase (K + 16))
  rw [t64] at HP64
  rw [t32] at HP32
  rw [t16] at HP16
  have hm : (k % 64).toNat < 64 := (toNat64 k).2
  have s1 := tab_self _ hm
  have s2 := tab_half _ hm
  have s3 := tab_turn _ hm
  have s4 := tab_quarter _ hm
  have s4' : K.tmod 16 = 0 → fe (tre (k % 64).toNat) 0 = true ∨ fe (tim (k % 64).toNat) 0 = true := fun h => s4 (tq h)
  clear tq s4 t64 t32 t16
  generalize (k % 64).toNat = m at *
  generalize tre ((m + 32) % 64) = X2 at *
  generalize tim ((m + 32) % 64) = Y2 at *
  generalize tre ((m + 16) % 64) = X3 at *
  generalize tim ((m + 16) % 64) = Y3 at *
  generalize tre m = X at *
  generalize tim m = Y at *
  obtain ⟨s1a, s1b⟩ := s1
  obtain ⟨s2a, s2b⟩ := s2
  obtain ⟨s3a, s3b⟩ := s3
  have hw64 : IntKind.i64.wrap (K + 64) = K + 64 := IntWalk.i64_in _ (by omega)
  have hw32 : IntKind.i64.wrap (K + 32) = K + 32 := IntWalk.i64_in _ (by omega)
  have hw16 : IntKind.i64.wrap (K + 16) = K + 16 := IntWalk.i64_in _ (by omega)
  have hwK : IntKind.i64.wrap K = K := IntWalk.i64_in _ (by omega)
  obtain ⟨L, hL⟩ : ∃ L, K.tmod 16 = L := ⟨_, rfl⟩
  rw [hL] at s4'
  have S4 := Lib.hid s4'
  clear s4' hm
  unfold fe at s1a s1b s2a s2b s3a s3b
  have hng : ∀ w, (Op.unary .neg (.complex .f32 X Y)).run Try.prog w = .ok (.complex .f32 (Op.negFloat .f32 X) (Op.negFloat .f32 Y)) w := fun w => rfl
  have hng2 : ∀ w, (Op.unary .neg (.float .f32 Y)).run Try.prog w = .ok (.float .f32 (Op.negFloat .f32 Y)) w := fun w => rfl
  generalize Op.negFloat .f32 X = NX at *
  generalize Op.negFloat .f32 Y = NY at *
  go_wp2_with fail
  refine (HP.out _).mono ?_
  rintro e w' ⟨rfl, rfl⟩
  clear HP
  go_wp2_with fail
  refine (HS.out _).mono ?_
  rintro e w' ⟨rfl, rfl⟩
  clear HS
  go_wp2_with fail
  refine (HP64.out _).mono ?_
  rintro e w' ⟨rfl, rfl⟩
  clear HP64
  go_wp2_with fail
  refine (HP32.out _).mono ?_
  rintro e w' ⟨rfl, rfl⟩
  clear HP32
  go_wp2_with fail
  refine (HP16.out _).mono ?_
  rintro e w' ⟨rfl, rfl⟩
  clear HP16
  go_upto_region 10 with fail
  go_cut [79] (fun b wx => b = .bool false ∧ wx = w1)
  case first =>
    by_cases hL0 : L = 0
    · subst hL0
      cases hX : fe X 0
      · have hY : fe Y 0 = true := by
          rcases S4.out rfl with h | h
          · rw [hX] at h; cases h
          · exact h
        unfold fe at hX hY
        go_wp2
        all_goals (go_meet; exact ⟨by simp only [bne, hX, hY] <;> rfl, rfl⟩)
      · unfold fe at hX
        go_wp2
        all_goals (go_meet; exact ⟨by simp only [bne, hX] <;> rfl, rfl⟩)
    · have hL1 : (L == 0) = false := by simp [hL0]
      go_wp2
      all_goals (go_meet; exact ⟨rfl, rfl⟩)
  case rest =>
  obtain ⟨rfl, rfl⟩ := hcut
  clear s1a s1b s2a s2b s3a s3b hng hng2 S4 hL hw64 hw32 hw16 hwK hK hK2 hk
  go_wp2_with fail
  refine (drawPlane_any ad len cap _ (HC.out.below B1.out)).mono ?_
  rintro e w2 ⟨n, u, v, rfl, hn, hu, hv, b2⟩
  have B2 := Lib.hid (B1.out.trans (b2.mono B1.out.size))
  clear b2
  obtain ⟨s, F, c, hF, hI, hS, hcc⟩ := plane_both n u v
  have HI := Lib.hid hI
  have HS := Lib.hid hS
  have HF := Lib.hid hF
  clear hI hS hF
  have hz37 := (zero_of_info info37').1
  have HS37 := Lib.hid (zero_of_info info37').2
  have HZ37 : Hid ((pic 0 zc).size = 65) := Lib.hid (pic_size 0 zc zc_size)
  generalize pic 0 zc = Z at *
  have HFI : Hid ((Try.prog.info? 32).map (·.size) = some F.size) := Lib.hid (by rw [HF.out.1]; exact HS37.out)
  have HZF : Hid (Z.size = F.size) := Lib.hid (by rw [HF.out.1]; exact HZ37.out)
  have HF1 := Lib.hid (finW_one HF.out)
  have hne : ∀ w, (binOp .neq 32 (.agg F) (.agg F)).run Try.prog w = .ok (.bool false) w := fun w => neq_self s F HF.out w
  go_wp2_with fail
  refine (HI.out _).mono ?_
  rintro e w3 ⟨rfl, b3⟩
  have B3 := Lib.hid (B2.out.trans (b3.mono B2.out.size))
  clear b3 HI
  go_wp2_with (refine wpList_store_row rfl 32 (.tmp 8) (.tmp 91) rfl w3.heap.size F rfl rfl 32 Z (h1_0 _ _) HFI.out HZF.out HF1.out ?_; rw [World.setRow_alloc_new])
  refine (HS.out _).mono ?_
  rintro e w4 ⟨rfl, b4⟩
  have G8 : Hid ((w4.alloc (.cells F 32)).heap[w3.heap.size]? = some (.cells F 32)) := Lib.hid (by
    rw [heap_alloc_old _ _ (by have := b4.size; rw [size_al] at this; omega), b4.block _ (by rw [size_al]; omega)]; exact h1_0 _ _)
  have G10 : Hid ((w4.alloc (.cells F 32)).heap[w4.heap.size]? = some (.cells F 32)) := Lib.hid (h1_0 _ _)
  have B4 : Hid (Below w.heap.size w (w4.alloc (.cells F 32))) := Lib.hid (by
    have b3 := B3.out.alloc B3.out.size (.cells F 32)
    have b4' := b3.trans (b4.mono (by rw [size_al]; have := B3.out.size; omega))
    exact b4'.alloc b4'.size _)
  clear b4 HS
  go_upto_region 15 with (refine wpList_store_row rfl 32 (.tmp 10) (.tmp 98) rfl w4.heap.size F rfl rfl 32 Z (h1_0 _ _) HFI.out HZF.out HF1.out ?_; rw [World.setRow_alloc_new])
  generalize w3.heap.size = b8 at *
  generalize w4.heap.size = b10 at *
  generalize w4.alloc (.cells F 32) = v4 at *
  go_upto_if 109 with (first | (refine wpList_load_row_g rfl 32 (.tmp 8) rfl b8 rfl 32 F (0, 0) _ G8.out Try.underlying32 rfl HFI.out ?_) | (refine wpList_load_row_g rfl 32 (.tmp 10) rfl b10 rfl 32 F (0, 0) _ G10.out Try.underlying32 rfl HFI.out ?_))
  clear hne G10 HF1 HZF HZ37 hz37 B3 B2 B1
  go_cut [] (fun wx => Hid (Below w.heap.size w wx))
  case first =>
    rcases hcc with rfl | ⟨rfl, hs, hwu, hwv, hFe⟩
    · go_wp2_with fail
      go_meet
      exact B4
    · go_wp2_with fail
      refine (roll_any ad len cap _ (HC.out.below B4.out)).mono ?_
      rintro e w5 ⟨p, rfl, hp, hp1, d5, b5⟩
      have l8 : b8 < v4.heap.size := (Array.getElem?_eq_some_iff.1 G8.out).1
      have G5 : Hid (w5.heap[b8]? = some (.cells F 32)) := Lib.hid (by rw [b5.block b8 l8]; exact G8.out)
      have B5 : Hid (Below w.heap.size w w5) := Lib.hid (B4.out.trans (b5.mono B4.out.size))
      have hsz := B4.out.size
      clear b5 G8 B4
      go_wp2_with fail
      refine (below_any p n _ d5).mono ?_
      rintro e w6 ⟨y, rfl, y0, y1, d6, o6⟩
      have G6 : Hid (w6.heap[b8]? = some (.cells F 32)) := Lib.hid (by rw [o6.block b8 (Array.getElem?_eq_some_iff.1 G5.out).1 (by omega)]; exact G5.out)
      have B6 : Hid (Below w.heap.size w w6) := Lib.hid (o6.after B5.out (by omega) (Nat.le_refl _))
      clear G5 B5 d5
      go_wp2_with fail
      refine (below_any p n _ d6).mono ?_
      rintro e w7 ⟨x, rfl, x0, x1, d7, o7⟩
      have G7 : Hid (w7.heap[b8]? = some (.cells F 32)) := Lib.hid (by rw [o7.block b8 (Array.getElem?_eq_some_iff.1 G6.out).1 (by omega)]; exact G6.out)
      have B7 : Hid (Below w.heap.size w w7) := Lib.hid (o7.after B6.out (by omega) (Nat.le_refl _))
      clear G6 B6 d6 d7 o6 o7
      have hn1 : 1 ≤ n ∧ n ≤ 8 := by rcases side_yes n hs with rfl | rfl | rfl | rfl <;> omega
      have hy : 0 ≤ y ∧ y < n := by omega
      have hx : 0 ≤ x ∧ x < n := by omega
      have HCE : Hid (∀ w, Calls Try.prog 24 #[.agg F, .int .i64 y, .int .i64 x] w fun e w' => e = .returned (.tuple #[.complex .f32 (tre (((u * x + v * y) * (64 / n)) % 64).toNat) (tim (((u * x + v * y) * (64 / n)) % 64).toNat), .int .i64 0]) ∧ Below w.heap.size w w') := Lib.hid fun w => by
        rw [hFe, ← cell_pw n u v y x hs hy hx]
        exact implCell_any n (pw n u v) (finW_wav (finW_pw n u v)) y x w
      have HIS : Hid (∀ w, Calls Try.prog 25 #[.agg F] w fun e w' => e = .returned (.bool true) ∧ Below w.heap.size w w') := Lib.hid fun w => by
        rw [hFe, ← isWav_pw n u v hs]
        exact implIsW_any n (pw n u v) (finW_wav (finW_pw n u v)) w
      obtain ⟨y', rfl⟩ : ∃ y' : Nat, y = y' := ⟨y.toNat, by omega⟩
      obtain ⟨x', rfl⟩ : ∃ x' : Nat, x = x' := ⟨x.toNat, by omega⟩
      obtain ⟨mu1, mu2⟩ := small_mul u x' hwu (by omega)
      obtain ⟨mv1, mv2⟩ := small_mul v y' hwv (by omega)
      have e1 : IntKind.i64.wrap (u * (x' : Int)) = u * x' := IntWalk.i64_in _ (by omega)
      have e2 : IntKind.i64.wrap (v * (y' : Int)) = v * y' := IntWalk.i64_in _ (by omega)
      have e3 : IntKind.i64.wrap (u * (x' : Int) + v * (y' : Int)) = u * x' + v * y' := IntWalk.i64_in _ (by omega)
      have e4 : IntKind.i64.wrap ((u * (x' : Int) + v * (y' : Int)) * (64 / n)) = (u * x' + v * y') * (64 / n) := IntWalk.i64_in _ (by rcases side_yes n hs with rfl | rfl | rfl | rfl <;> omega)
      have hq : (64 : Int).tdiv n = 64 / n := Int.tdiv_eq_ediv_of_nonneg (by omega)
      have hwq : IntKind.i64.wrap (64 / n) = 64 / n := IntWalk.i64_in _ (by rcases side_yes n hs with rfl | rfl | rfl | rfl <;> omega)
      have hn0 : n ≠ 0 := by omega
      have hn00 : (n == 0) = false := by simp; omega
      have HPH := Lib.hid (impl_phase ((u * x' + v * y') * (64 / n)))
      have tj := tab_self (((u * x' + v * y') * (64 / n)) % 64).toNat (by omega)
      generalize (((u * (x' : Int) + v * (y' : Int)) * (64 / n)) % 64).toNat = j at *
      generalize 64 / n = C at *
      generalize tre j = X at *
      generalize tim j = Y at *
      obtain ⟨tj1, tj2⟩ := tj
      unfold fe at tj1 tj2
      clear mu1 mu2 mv1 mv2 hwu hwv hu hv hFe y1 x1 hn
      go_wp2_with (refine wpList_load_row rfl 32 (.tmp 8) rfl b8 rfl 32 F (0, 0) _ G7.out Try.underlying32 rfl HFI.out ?_)
      refine (HCE.out _).mono ?_
      rintro e w8 ⟨rfl, b8'⟩
      have G8 : Hid (w8.heap[b8]? = some (.cells F 32)) := Lib.hid (by rw [b8'.block b8 (Array.getElem?_eq_some_iff.1 G7.out).1]; exact G7.out)
      have B8 : Hid (Below w.heap.size w w8) := Lib.hid (B7.out.trans (b8'.mono B7.out.size))
      clear b8' G7 B7 HCE
      go_wp2_with fail
      refine (HPH.out _).mono ?_
      rintro e w' ⟨rfl, hw'⟩
      rw [← hw']
      clear hw' w'
      go_wp2_with (refine wpList_load_row_g rfl 32 (.tmp 8) rfl b8 rfl 32 F (0, 0) _ G8.out Try.underlying32 rfl HFI.out ?_)
      refine (HIS.out _).mono ?_
      rintro e w9 ⟨rfl, b9⟩
      have B9 : Hid (Below w.heap.size w w9) := Lib.hid (B8.out.trans (b9.mono B8.out.size))
      clear b9 G8 B8 HIS
      go_wp2_with fail
      go_meet
      exact B9
  case rest =>
  have B1 : Hid (Below w.heap.size w wc) := hcut
  clear hcut hcc hu hv hn G8 B4 HFI HF
  go_wp2_with fail
  refine (drawFlat_any ad len cap _ (HC.out.below B1.out)).mono ?_
  rintro e w2 ⟨m, x, y, rfl, hm, b2⟩
  have B2 := Lib.hid (B1.out.trans (b2.mono B1.out.size))
  clear b2
  obtain ⟨s, F, c, hF, hfl⟩ := flat_shape m x y
  have HI : Hid (∀ w, Calls Try.prog 27 #[.int .i64 m, .complex .f32 x y] w fun e w' => e = .returned (.tuple #[.agg F, .int .i64 c]) ∧ Below w.heap.size w w') := Lib.hid fun w => by rw [← hfl]; exact implFlat_any m x y w
  have HS : Hid (∀ w, Calls Try.prog 28 #[.int .i64 m, .complex .f32 x y] w fun e w' => e = .returned (.tuple #[.agg F, .int .i64 c]) ∧ Below w.heap.size w w') := Lib.hid fun w => by rw [← hfl]; exact specFlat_any m x y w
  have HF := Lib.hid hF
  clear hF hfl hm
  have hz37 := (zero_of_info info37').1
  have HZ37 : Hid ((pic 0 zc).size = 65) := Lib.hid (pic_size 0 zc zc_size)
  generalize pic 0 zc = Z at *
  have HFI : Hid ((Try.prog.info? 32).map (·.size) = some F.size) := Lib.hid (by rw [HF.out.1]; exact HS37.out)
  have HZF : Hid (Z.size = F.size) := Lib.hid (by rw [HF.out.1]; exact HZ37.out)
  have HF1 := Lib.hid (finW_one HF.out)
  have heq : ∀ w, (binOp .eql 32 (.agg F) (.agg F)).run Try.prog w = .ok (.bool true) w := fun w => eql_self s F HF.out w
  go_wp2_with fail
  refine (HI.out _).mono ?_
  rintro e w3 ⟨rfl, b3⟩
  have B3 := Lib.hid (B2.out.trans (b3.mono B2.out.size))
  clear b3 HI
  go_wp2_with (refine wpList_store_row rfl 32 (.tmp 19) (.tmp 156) rfl w3.heap.size F rfl rfl 32 Z (h1_0 _ _) HFI.out HZF.out HF1.out ?_; rw [World.setRow_alloc_new])
  refine (HS.out _).mono ?_
  rintro e w4 ⟨rfl, b4⟩
  have G8 : Hid ((w4.alloc (.cells F 32)).heap[w3.heap.size]? = some (.cells F 32)) := Lib.hid (by
    rw [heap_alloc_old _ _ (by have := b4.size; rw [size_al] at this; omega), b4.block _ (by rw [size_al]; omega)]; exact h1_0 _ _)
  have G10 : Hid ((w4.alloc (.cells F 32)).heap[w4.heap.size]? = some (.cells F 32)) := Lib.hid (h1_0 _ _)
  have B4 : Hid (Below w.heap.size w (w4.alloc (.cells F 32))) := Lib.hid (by
    have b3 := B3.out.alloc B3.out.size (.cells F 32)
    have b4' := b3.trans (b4.mono (by rw [size_al]; have := B3.out.size; omega))
    exact b4'.alloc b4'.size _)
  clear b4 HS
  go_upto_region 26 with (refine wpList_store_row rfl 32 (.tmp 21) (.tmp 162) rfl w4.heap.size F rfl rfl 32 Z (h1_0 _ _) HFI.out HZF.out HF1.out ?_; rw [World.setRow_alloc_new])
  generalize w3.heap.size = b19 at *
  generalize w4.heap.size = b21 at *
  generalize w4.alloc (.cells F 32) = v4 at *
  clear B3 B2 B1
  go_wp2_with fail
  refine (drawCell_any ad len cap _ (HC.out.below B4.out)).mono ?_
  rintro e w5 ⟨t, D, cy, cx, rfl, hD, b5⟩
  obtain ⟨a, b, cc, hce, hfa, hfb⟩ := cell_shape t D cy cx
  have HI : Hid (∀ w, Calls Try.prog 24 #[.agg D, .int .i64 cy, .int .i64 cx] w fun e w' => e = .returned (.tuple #[.complex .f32 a b, .int .i64 cc]) ∧ Below w.heap.size w w') := Lib.hid fun w => by rw [← hce]; exact implCell_any t D hD cy cx w
  have HS : Hid (∀ w, Calls Try.prog 30 #[.agg D, .int .i64 cy, .int .i64 cx] w fun e w' => e = .returned (.tuple #[.complex .f32 a b, .int .i64 cc]) ∧ Below w.heap.size w w') := Lib.hid fun w => by rw [← hce]; exact specCell_any t D hD cy cx w
  have sa : (FloatKind.f32.format.order a a == some .eq) = true := self32 a hfa
  have sb : (FloatKind.f32.format.order b b == some .eq) = true := self32 b hfb
  have HDI : Hid ((Try.prog.info? 32).map (·.size) = some D.size) := Lib.hid (by rw [hD.1]; exact HS37.out)
  have HZD : Hid (Z.size = D.size) := Lib.hid (by rw [hD.1]; exact HZ37.out)
  have HD1 := Lib.hid (wav_one hD)
  have l19 := (Array.getElem?_eq_some_iff.1 G8.out).1
  have l21 := (Array.getElem?_eq_some_iff.1 G10.out).1
  have G19 : Hid ((w5.alloc (.cells D 32)).heap[b19]? = some (.cells F 32)) := Lib.hid (by rw [heap_alloc_old _ _ (Nat.lt_of_lt_of_le l19 b5.size), b5.block _ l19]; exact G8.out)
  have G21 : Hid ((w5.alloc (.cells D 32)).heap[b21]? = some (.cells F 32)) := Lib.hid (by rw [heap_alloc_old _ _ (Nat.lt_of_lt_of_le l21 b5.size), b5.block _ l21]; exact G10.out)
  have G23 : Hid ((w5.alloc (.cells D 32)).heap[w5.heap.size]? = some (.cells D 32)) := Lib.hid (h1_0 _ _)
  have B5 : Hid (Below w.heap.size w (w5.alloc (.cells D 32))) := Lib.hid (by
    have b5' := B4.out.trans (b5.mono B4.out.size)
    exact b5'.alloc b5'.size _)
  clear b5 G8 G10 l19 l21 hce hfa hfb hD B4
  go_upto_region 27 with (refine wpList_store_row rfl 32 (.tmp 23) (.tmp 167) rfl w5.heap.size D rfl rfl 32 Z (h1_0 _ _) HDI.out HZD.out HD1.out ?_; rw [World.setRow_alloc_new])
  generalize w5.heap.size = b23 at *
  generalize w5.alloc (.cells D 32) = v5 at *
  clear hz37
  go_wp2_with (refine wpList_load_row rfl 32 (.tmp 23) rfl b23 rfl 32 D (0, 0) _ G23.out Try.underlying32 rfl HDI.out ?_)
  refine (HI.out _).mono ?_
  rintro e w6 ⟨rfl, b6⟩
  have g := fun i C (h : v5.heap[i]? = some (.cells C 32)) => (b6.block i (Array.getElem?_eq_some_iff.1 h).1).trans h
  have G19' := Lib.hid (g b19 F G19.out)
  have G21' := Lib.hid (g b21 F G21.out)
  have G23' := Lib.hid (g b23 D G23.out)
  have B6 := Lib.hid (B5.out.trans (b6.mono B5.out.size))
  clear b6 g G19 G21 G23 B5 HI
  go_wp2_with (refine wpList_load_row rfl 32 (.tmp 23) rfl b23 rfl 32 D (0, 0) _ G23'.out Try.underlying32 rfl HDI.out ?_)
  refine (HS.out _).mono ?_
  rintro e w7 ⟨rfl, b7⟩
  have g := fun i C (h : w6.heap[i]? = some (.cells C 32)) => (b7.block i (Array.getElem?_eq_some_iff.1 h).1).trans h
  have G19 := Lib.hid (g b19 F G19'.out)
  have G21 := Lib.hid (g b21 F G21'.out)
  have B7 := Lib.hid (B6.out.trans (b7.mono B6.out.size))
  clear b7 g G19' G21' G23' B6 HS
  go_wp2_with (first | (refine wpList_load_row_g rfl 32 (.tmp 19) rfl b19 rfl 32 F (0, 0) _ G19.out Try.underlying32 rfl HFI.out ?_) | (refine wpList_load_row_g rfl 32 (.tmp 21) rfl b21 rfl 32 F (0, 0) _ G21.out Try.underlying32 rfl HFI.out ?_))
  go_ret
  exact ⟨rfl, B7.out⟩
end Go.Proofs.Ytjmfffgddmnkmaa
