/- The program turns a wave by a quarter as the model does; four times make none. Condition: 64 complex numbers. -/
import Derived.Test.YtjmfffgddmnkmaaSQT
import Derived.Test.YtjmfffgddmnkmaaICe
import Derived.Deep.QuietTactic
import Derived.BigQuiet
namespace Go.Proofs.Ytjmfffgddmnkmaa
open Go Go.RowKit

theorem okWavs_fin (n : Nat) (D : Array Value) (m : Nat) (h : okWavs n D m = true) : ∀ k, k < m → (fin (reAt D k) && fin (imAt D k)) = true := by
  induction m with
  | zero => intro k hk; omega
  | succ m ih =>
    intro k hk
    rw [okWavs, Bool.and_eq_true] at h
    by_cases e : k = m
    · subst e
      have h2 := h.2
      unfold okWav at h2
      rw [Bool.and_eq_true] at h2
      exact h2.1
    · exact ih h.1 k (by omega)
theorem okWavs_nul (n : Nat) (D : Array Value) (m : Nat) (h : okWavs n D m = true) : ∀ k, k < m → n ≤ k → nul (reAt D k) (imAt D k) = true := by
  induction m with
  | zero => intro k hk; omega
  | succ m ih =>
    intro k hk hn
    rw [okWavs, Bool.and_eq_true] at h
    by_cases e : k = m
    · subst e
      have h2 := h.2
      unfold okWav at h2
      rw [Bool.and_eq_true, show decide (k < n) = false by simp; omega, Bool.false_or] at h2
      exact h2.2
    · exact ih h.1 k (by omega) hn
theorem okWavs_of (n : Nat) (D : Array Value) (m : Nat) (h : ∀ k, k < m → okWav n k (reAt D k) (imAt D k) = true) : okWavs n D m = true := by
  induction m with
  | zero => rfl
  | succ m ih => rw [okWavs, ih (fun k hk => h k (by omega)), h m (by omega)]; rfl
theorem at_far (s : Int) (D : Array Value) (hD : Wav s D) (k : Nat) (hk : 64 ≤ k) : reAt D k = 0 ∧ imAt D k = 0 := by
  have h : D.getD (1 + k) undef = undef := by
    rw [Array.getD_eq_getD_getElem?, Array.getElem?_eq_none (by rw [hD.1]; omega)]
    rfl
  unfold reAt imAt
  rw [h]
  exact ⟨rfl, rfl⟩
theorem isWav_fin (s : Int) (D : Array Value) (hD : Wav s D) (h : isWav s D = true) (k : Nat) : (fin (reAt D k) && fin (imAt D k)) = true := by
  unfold isWav at h
  rw [Bool.and_eq_true] at h
  by_cases hk : k < 64
  · exact okWavs_fin _ _ _ h.2 k hk
  · obtain ⟨e1, e2⟩ := at_far s D hD k (by omega)
    rw [e1, e2]
    decide
theorem cellQT_fin (s : Nat) (D : Array Value) (hD : Wav s D) (h : isWav s D = true) (i : Nat) : (fin (cellQT s D i).1 && fin (cellQT s D i).2) = true :=
  isWav_fin s D hD h _
theorem gf_wav (s : Int) (F : Nat → Nat × Nat) (k : Nat) : Wav s (pic s (gf F k)) := by
  refine ⟨pic_size _ _ (gf_size _ _), pic_zero _ _, fun i hi => ?_⟩
  rw [Nat.add_comm, pic_succ, gf_get, if_pos hi]
  by_cases h : i < k
  · exact ⟨_, _, by rw [if_pos h]⟩
  · exact ⟨0, 0, by rw [if_neg h]⟩
theorem gf_at (s : Int) (F : Nat → Nat × Nat) (k i : Nat) (hk : k ≤ 64) : reAt (pic s (gf F k)) i = (if i < k then (F i).1 else 0) ∧ imAt (pic s (gf F k)) i = (if i < k then (F i).2 else 0) := by
  by_cases hi : i < 64
  · by_cases h : i < k
    · have := at_of (pic s (gf F k)) i (F i).1 (F i).2 (by rw [Nat.add_comm, pic_succ, gf_get, if_pos hi, if_pos h])
      rw [if_pos h, if_pos h]
      exact this
    · have := at_of (pic s (gf F k)) i 0 0 (by rw [Nat.add_comm, pic_succ, gf_get, if_pos hi, if_neg h])
      rw [if_neg h, if_neg h]
      exact this
  · rw [if_neg (by omega), if_neg (by omega)]
    exact at_far s _ (gf_wav s F k) i (by omega)
theorem gf_isWav (s : Nat) (hs : side s = true) (F : Nat → Nat × Nat) (hF : ∀ i, (fin (F i).1 && fin (F i).2) = true) : isWav s (pic s (gf F (s * s))) = true := by
  unfold isWav
  rw [hs, Bool.true_and, show (((s : Int) * (s : Int)).toNat) = s * s by rw [← Int.natCast_mul]; rfl]
  refine okWavs_of _ _ _ fun k _ => ?_
  obtain ⟨e1, e2⟩ := gf_at s F (s * s) k (sq_le s hs)
  rw [e1, e2]
  unfold okWav
  by_cases h : k < s * s
  · rw [if_pos h, if_pos h, hF k, show decide (k < s * s) = true by simp; omega]; rfl
  · rw [if_neg h, if_neg h, show nul 0 0 = true by decide, Bool.or_true]; decide

/-- the quarter turn of a wave -/
def turn (s : Nat) (D : Array Value) : Array Value := pic s (gf (cellQT s D) (s * s))
theorem turn_wav (s : Nat) (D : Array Value) : Wav s (turn s D) := gf_wav _ _ _
theorem turn_isWav (s : Nat) (hs : side s = true) (D : Array Value) (hD : Wav s D) (h : isWav s D = true) : isWav s (turn s D) = true := gf_isWav s hs _ (cellQT_fin s D hD h)
theorem turn_at (s : Nat) (hs : side s = true) (D : Array Value) (y x : Nat) (hy : y < s) (hx : x < s) : reAt (turn s D) (s * y + x) = reAt D (s * (s - 1 - x) + y) ∧ imAt (turn s D) (s * y + x) = imAt D (s * (s - 1 - x) + y) := by
  obtain ⟨e1, e2⟩ := place_at s y x hx
  obtain ⟨g1, g2⟩ := gf_at s (cellQT s D) (s * s) (s * y + x) (sq_le s hs)
  have hlt : s * y + x < s * s := by
    have : s * y + s ≤ s * s := by rw [← Nat.mul_succ]; exact Nat.mul_le_mul_left _ (by omega)
    omega
  unfold turn
  rw [g1, g2, if_pos hlt, if_pos hlt]
  unfold cellQT
  rw [e1, e2]
  exact ⟨rfl, rfl⟩
theorem turn4_at (s : Nat) (hs : side s = true) (D : Array Value) (y x : Nat) (hy : y < s) (hx : x < s) : reAt (turn s (turn s (turn s (turn s D)))) (s * y + x) = reAt D (s * y + x) ∧ imAt (turn s (turn s (turn s (turn s D)))) (s * y + x) = imAt D (s * y + x) := by
  have a1 := turn_at s hs (turn s (turn s (turn s D))) y x hy hx
  have a2 := turn_at s hs (turn s (turn s D)) (s - 1 - x) y (by omega) hy
  have a3 := turn_at s hs (turn s D) (s - 1 - y) (s - 1 - x) (by omega) (by omega)
  have a4 := turn_at s hs D (s - 1 - (s - 1 - x)) (s - 1 - y) (by omega) (by omega)
  rw [show s - 1 - (s - 1 - x) = x by omega] at a3 a4
  rw [show s - 1 - (s - 1 - y) = y by omega] at a4
  exact ⟨by rw [a1.1, a2.1, a3.1, a4.1], by rw [a1.2, a2.2, a3.2, a4.2]⟩

set_option maxRecDepth 100000 in
set_option maxHeartbeats 1000000 in
theorem build2_QT (s : Nat) (hs : side s = true) (F : Nat → Nat × Nat) (hF : ∀ i, (fin (F i).1 && fin (F i).2) = true) (pw : Addr) (w : World)
    (hR : ∀ (y x : Nat) (v : World), y < s → x < s → Below w.heap.size w v → Calls Try.prog 104 #[.int .i64 y, .int .i64 x, .pointer (some pw)] v fun e w' =>
      e = .returned (.complex .f32 (F (s * y + x)).1 (F (s * y + x)).2) ∧ Below v.heap.size v w') :
    Calls Try.prog 72 #[.int .i64 s, .func (.func 104) #[] #[.pointer (some pw)]] w fun e w' =>
      e = .returned (.tuple #[.agg (pic s (gf F (s * s))), .int .i64 0]) ∧ Below w.heap.size w w' := by
  have hz37 := (zero_of_info info37').1
  have HS37 := Lib.hid (zero_of_info info37').2
  have HZ37 : Hid ((pic 0 zc).size = 65) := Lib.hid (pic_size 0 zc zc_size)
  have hne := pic_ne
  have HB := Lib.hid (pic_set0 0 s zc)
  have HR := Lib.hid hR
  have HFW : Hid (FinW s (pic s (gf F (s * s)))) := Lib.hid (gf_fin s F hF (s * s))
  have HPL : Hid (∀ y x, y < s → x < s → s * y + x < 64 ∧ s * y ≤ 56) := Lib.hid fun y x hy hx => place_lt s y x hs hy hx
  have hs8 : s ≤ 8 := by rcases side_nat s hs with rfl | rfl | rfl | rfl <;> omega
  clear hR hF
  obtain ⟨Z, hZ⟩ : ∃ Z, Z = pic 0 zc := ⟨_, rfl⟩
  rw [← hZ] at hz37 HZ37 hne HB
  have HE2 : Hid ((Try.prog.info? 32).map (·.size) = some (Z.setIfInBounds 0 (Value.int .i64 s)).size) := Lib.hid (by rw [HB.out, pic_size _ _ zc_size]; exact HS37.out)
  have HZ2 : Hid (Z.size = (Z.setIfInBounds 0 (Value.int .i64 s)).size) := Lib.hid (by simp)
  have H2 : Hid ((Z.setIfInBounds 0 (Value.int .i64 s)).all (·.oneCell') = true) := Lib.hid (by rw [HB.out]; exact zc_one s)
  obtain ⟨E, hE⟩ : ∃ E, E = pic s zc := ⟨_, rfl⟩
  rw [← hE] at HB
  have HEE := Lib.hid hE
  clear hZ hE hs
  go_enter Try.func72, Try.ntmps72
  go_wp2_with (first | fail | (refine wpList_store_row rfl 32 (.tmp 6) (.tmp 10) rfl (w.heap.size + 1) (Z.setIfInBounds 0 (Value.int .i64 s)) rfl rfl 32 Z (h2_1 _ _ _) HE2.out HZ2.out H2.out ?_; rw [setRow_al2, HB.out]))
  have GG : Hid (((w.alloc (.cells Z 32)).alloc (.cells E 32)).heap[w.heap.size + 1]? = some (.cells E 32 (0, 0))) := Lib.hid (h2_1 _ _ _)
  have GZ : Hid (((w.alloc (.cells Z 32)).alloc (.cells E 32)).heap[w.heap.size]? = some (.cells Z 32 (0, 0))) := Lib.hid (h2_0 _ _ _)
  have BB : Hid (Below w.heap.size w ((w.alloc (.cells Z 32)).alloc (.cells E 32))) := Lib.hid (below_al2 _ _ _)
  generalize (w.alloc (.cells Z 32)).alloc (.cells E 32) = V at *
  clear hz37 hne HE2 HZ2 H2
  go_loopw [12] (fun i wr => ∃ (y : Nat) (C : Array Value), y ≤ s ∧ i = .int .i64 y ∧ Hid (C = pic s (gf F (s * y))) ∧ Hid (wr.heap[w.heap.size + 1]? = some (.cells C 32 (0, 0))) ∧ Hid (wr.heap[w.heap.size]? = some (.cells Z 32 (0, 0))) ∧ Hid (Below w.heap.size w wr)) (fun i _ => s - (intOf i).toNat)
  case atStart => exact ⟨0, E, by omega, rfl, Lib.hid (by rw [HEE.out, Nat.mul_zero, gf_zero]), GG, GZ, BB⟩
  case round =>
    obtain ⟨y, C, hy, rfl, HC, G, Z0, B⟩ := hrel
    by_cases hlt : y < s
    · have hdy : decide ((y : Int) < (s : Int)) = true := by simp; omega
      go_wp2
      go_loopw [16] (fun i wr => ∃ (x : Nat) (D : Array Value), x ≤ s ∧ i = .int .i64 x ∧ Hid (D = pic s (gf F (s * y + x))) ∧ Hid (wr.heap[w.heap.size + 1]? = some (.cells D 32 (0, 0))) ∧ Hid (wr.heap[w.heap.size]? = some (.cells Z 32 (0, 0))) ∧ Hid (Below w.heap.size w wr)) (fun i _ => s - (intOf i).toNat)
      case atStart => exact ⟨0, C, by omega, rfl, HC, G, Z0, B⟩
      case round =>
        obtain ⟨x, D, hx, rfl, HD, G, Z0, B⟩ := hrel
        by_cases hlt2 : x < s
        · have hdx : decide ((x : Int) < (s : Int)) = true := by simp; omega
          obtain ⟨hk, hk'⟩ := HPL.out y x hlt hlt2
          have hw1 : IntKind.i64.wrap ((s : Int) * (y : Int)) = ((s * y : Nat) : Int) := by rw [← Int.natCast_mul]; exact IntWalk.i64_in _ (by omega)
          have HRR := Lib.hid (HR.out y x wr hlt hlt2 B.out)
          have hold0 : Hid (D[1 + (s * y + x)]? = some (.complex .f32 0 0)) := Lib.hid (by rw [HD.out]; exact gf_old s F (s * y + x) hk)
          have HD2 : Hid (D.setIfInBounds (1 + (s * y + x)) (.complex .f32 (F (s * y + x)).1 (F (s * y + x)).2) = pic s (gf F (s * y + x + 1))) := Lib.hid (by rw [HD.out]; exact gf_set s F _ hk)
          clear HD
          generalize s * y = p at *
          have hw2 : IntKind.i64.wrap ((p : Int) + (x : Int)) = ((p + x : Nat) : Int) := by rw [Int.natCast_add]; exact IntWalk.i64_in _ (by omega)
          have hq : ((p + x : Nat) : Int) < 64 := by omega
          have HQ := Lib.hid (show p + x + 1 = p + (x + 1) by omega)
          generalize hkk : p + x = k at *
          go_wp2_with (go_at_call 104; fail)
          refine HRR.out.mono ?_
          rintro e w1 ⟨rfl, b1⟩
          have G1 : Hid (w1.heap[w.heap.size + 1]? = some (.cells D 32 (0, 0))) := Lib.hid (by rw [b1.block _ (Array.getElem?_eq_some_iff.1 G.out).1]; exact G.out)
          have Z1 : Hid (w1.heap[w.heap.size]? = some (.cells Z 32 (0, 0))) := Lib.hid (by rw [b1.block _ (Array.getElem?_eq_some_iff.1 Z0.out).1]; exact Z0.out)
          have B1 : Hid (Below w.heap.size w w1) := Lib.hid (B.out.trans (b1.mono B.out.size))
          clear b1 G Z0 B
          have hold : w1.cell? ⟨w.heap.size + 1, 1 + k, none⟩ = some (.complex .f32 0 0) := by rw [cell_of_row _ _ _ _ _ _ G1.out]; exact hold0.out
          have hfree : w1.frozen? ⟨w.heap.size + 1, 1 + k, none⟩ = false := frozen_of_row _ _ _ _ _ G1.out
          go_wp2
          exact ⟨⟨x + 1, _, by omega, by go_num, Lib.hid (by rw [← HQ.out]; exact HD2.out), Lib.hid (heap_setCell_same _ _ _ _ _ _ G1.out), Lib.hid (by rw [heap_setCell_other _ _ _ _ (by show w.heap.size ≠ w.heap.size + 1; omega)]; exact Z1.out), Lib.hid (B1.out.setCell (by show w.heap.size ≤ w.heap.size + 1; omega) _)⟩, by simp [intOf]; omega⟩
        · obtain rfl : x = s := by omega
          go_wp2
          exact ⟨⟨y + 1, D, by omega, by go_num, Lib.hid (by rw [HD.out, show x * (y + 1) = x * y + x by rw [Nat.mul_succ]]), G, Z0, B⟩, by simp [intOf]; omega⟩
    · obtain rfl : y = s := by omega
      have HCI : Hid ((Try.prog.info? 32).map (·.size) = some C.size) := Lib.hid (by rw [HC.out, HFW.out.1]; exact HS37.out)
      have HZC : Hid (Z.size = C.size) := Lib.hid (by rw [HC.out, HFW.out.1]; exact HZ37.out)
      have HC1 : Hid (C.all (·.oneCell') = true) := Lib.hid (by rw [HC.out]; exact finW_one HFW.out)
      have HFC : Hid (FinW y C) := Lib.hid (by rw [HC.out]; exact HFW.out)
      have HLT : Hid (w.heap.size < wr.heap.size) := Lib.hid (Array.getElem?_eq_some_iff.1 Z0.out).1
      clear HR HPL HB HEE HFW HS37 HZ37
      go_wp2_with (first | fail | (refine wpList_load_row rfl 32 (.tmp 6) rfl (w.heap.size + 1) rfl 32 C (0, 0) _ G.out Try.underlying32 rfl HCI.out ?_))
      refine (finite_wave y C HFC.out wr).mono ?_
      rintro e w1 ⟨rfl, b1⟩
      have HG1 : Hid (w1.heap[w.heap.size]? = some (.cells Z 32)) := Lib.hid (by rw [b1.block _ HLT.out]; exact Z0.out)
      have HB3 : Hid (Below w.heap.size w w1) := Lib.hid (B.out.trans (b1.mono B.out.size))
      clear b1 Z0 G HLT B
      go_wp2_with (first | fail | (refine wpList_store_row rfl 32 (.tmp 4) (.tmp 34) rfl w.heap.size C rfl rfl 32 Z HG1.out HCI.out HZC.out HC1.out ?_))
      refine bodyPost_ret (v := .tuple #[.agg C, .int .i64 0]) (results_row_tmp (fn := Try.f72) (p := 4) (u := 5) (ty := 32) rfl _ _ w.heap.size 32 C (0, 0) _ rfl (setRow_heap _ _ _ _ _ _ HG1.out) Try.underlying32 rfl HCI.out) rfl ⟨by rw [HC.out], ?_⟩
      exact below_setRow HB3.out (Nat.le_refl _) _

set_option maxRecDepth 100000 in
set_option maxHeartbeats 400000 in
theorem rule_QT (s : Nat) (hs : side s = true) (D : Array Value) (hD : Wav s D) (y x : Nat) (hy : y < s) (hx : x < s) (b : Nat) (w : World) (hb : w.heap[b]? = some (.cells D 32 (0, 0))) :
    Calls Try.prog 104 #[.int .i64 y, .int .i64 x, .pointer (some ⟨b, 0, none⟩)] w fun e w' => e = .returned (.complex .f32 (cellQT s D (s * y + x)).1 (cellQT s D (s * y + x)).2) ∧ Below w.heap.size w w' := by
  obtain ⟨p1, p2⟩ := place_at s y x hx
  have hs8 : 1 ≤ s ∧ s ≤ 8 := by rcases side_nat s hs with rfl | rfl | rfl | rfl <;> omega
  obtain ⟨hk, hk'⟩ := place_lt s (s - 1 - x) y hs (by omega) hy
  obtain ⟨m, n, hz⟩ := hD.2.2 _ hk
  obtain ⟨r1, r2⟩ := at_of D _ m n hz
  have HF : cellQT s D (s * y + x) = (m, n) := by
    unfold cellQT
    rw [p1, p2, r1, r2]
  rw [HF]
  have c0 : w.cell? ⟨b, 0, none⟩ = some (.int .i64 s) := by rw [cell_of_row _ _ _ _ _ _ hb]; exact hD.2.1
  have e1 : IntKind.i64.wrap ((s : Int) - 1) = ((s - 1 : Nat) : Int) := by rw [show ((s - 1 : Nat) : Int) = (s : Int) - 1 by omega]; exact IntWalk.i64_in _ (by omega)
  have e2 : IntKind.i64.wrap (((s - 1 : Nat) : Int) - (x : Int)) = ((s - 1 - x : Nat) : Int) := by rw [show ((s - 1 - x : Nat) : Int) = ((s - 1 : Nat) : Int) - (x : Int) by omega]; exact IntWalk.i64_in _ (by omega)
  have hm : (s : Int) * ((s - 1 - x : Nat) : Int) = ((s * (s - 1 - x) : Nat) : Int) := by rw [Int.natCast_mul]
  have HA := Lib.hid (at_any b s D ((s - 1 - x : Nat) : Int) y (s * (s - 1 - x) + y) m n hk (by rw [hm]; exact IntWalk.i64_in _ (by omega)) (by rw [hm, ← Int.natCast_add]; exact IntWalk.i64_in _ (by omega)) hz hD.2.1 w hb)
  clear hz hD hb hm r1 r2 HF p1 p2
  generalize (s - 1 - x : Nat) = t at *
  generalize (s - 1 : Nat) = s1 at *
  go_enter Try.func104, Try.ntmps104
  go_wp2_with (go_at_call 77; fail)
  refine HA.out.mono ?_
  rintro e w1 ⟨rfl, q, rfl⟩
  go_wp2
  go_ret
  exact ⟨rfl, below_drewN (Below.refl _ _) _⟩

set_option maxRecDepth 100000 in
set_option maxHeartbeats 800000 in
theorem implQT_no (s : Int) (D : Array Value) (hD : Wav s D) (hw : isWav s D = false) (w : World) : Calls Try.prog 61 #[.agg D] w fun e w' => e = .returned (.tuple #[.agg (pic 0 zc), .int .i64 1]) ∧ Below w.heap.size w w' := by
  have hz37 := (zero_of_info info37').1
  have HS37 := Lib.hid (zero_of_info info37').2
  have HZ37 : Hid ((pic 0 zc).size = 65) := Lib.hid (pic_size 0 zc zc_size)
  have HZ1 := Lib.hid (zc_one 0)
  have hne := pic_ne
  generalize pic 0 zc = Z at *
  have HZI : Hid ((Try.prog.info? 32).map (·.size) = some Z.size) := Lib.hid (by rw [HZ37.out]; exact HS37.out)
  have HDI : Hid ((Try.prog.info? 32).map (·.size) = some D.size) := Lib.hid (by rw [hD.1]; exact HS37.out)
  have HIS := Lib.hid (implIsW_any s D hD)
  rw [hw] at HIS
  clear hD
  go_enter Try.func61, Try.ntmps61
  go_wp2_with (first | (refine wpList_load_row rfl 32 (.tmp 1) rfl w.heap.size rfl 32 D (0, 0) _ (h2_0 _ _ _) Try.underlying32 rfl HDI.out ?_) | (go_at_call 25; fail))
  refine (HIS.out _).mono ?_
  rintro e w1 ⟨rfl, b1⟩
  have G1 : Hid (w1.heap[w.heap.size + 1]? = some (.cells Z 32)) := Lib.hid (by rw [b1.block _ (by rw [size_al, size_al]; omega)]; exact h2_1 _ _ _)
  have B1 : Hid (Below w.heap.size w w1) := Lib.hid ((below_al2 w _ _).trans (b1.mono (by rw [size_al, size_al]; omega)))
  clear b1 HIS
  go_wp2_with (refine wpList_store_row rfl 32 (.tmp 2) (.tmp 7) rfl (w.heap.size + 1) Z rfl rfl 32 Z G1.out HZI.out rfl HZ1.out ?_)
  refine bodyPost_ret (v := .tuple #[.agg Z, .int .i64 1]) (results_row_tmp (fn := Try.f61) (p := 2) (u := 3) (ty := 32) rfl _ _ (w.heap.size + 1) 32 Z (0, 0) _ rfl (setRow_heap _ _ _ _ _ _ G1.out) Try.underlying32 rfl HZI.out) rfl ⟨rfl, ?_⟩
  exact below_setRow B1.out (by omega) _

set_option maxRecDepth 100000 in
set_option maxHeartbeats 800000 in
theorem implQT_yes (s : Nat) (hs : side s = true) (D : Array Value) (hD : Wav s D) (hw : isWav s D = true) (w : World) : Calls Try.prog 61 #[.agg D] w fun e w' => e = .returned (.tuple #[.agg (turn s D), .int .i64 0]) ∧ Below w.heap.size w w' := by
  have hz37 := (zero_of_info info37').1
  have HS37 := Lib.hid (zero_of_info info37').2
  have HZ37 : Hid ((pic 0 zc).size = 65) := Lib.hid (pic_size 0 zc zc_size)
  have HFW : Hid (FinW s (turn s D)) := Lib.hid (gf_fin s _ (cellQT_fin s D hD hw) (s * s))
  have HB : Hid (∀ (v : World) (b : Nat), v.heap[b]? = some (.cells D 32 (0, 0)) → Calls Try.prog 72 #[.int .i64 s, .func (.func 104) #[] #[.pointer (some ⟨b, 0, none⟩)]] v fun e w' =>
      e = .returned (.tuple #[.agg (turn s D), .int .i64 0]) ∧ Below v.heap.size v w') := Lib.hid fun v b hb =>
    build2_QT s hs (cellQT s D) (cellQT_fin s D hD hw) ⟨b, 0, none⟩ v fun y x z hy hx hz =>
      rule_QT s hs D hD y x hy hx b z (by rw [hz.block _ (Array.getElem?_eq_some_iff.1 hb).1]; exact hb)
  generalize turn s D = G at *
  generalize pic 0 zc = Z at *
  have HDI : Hid ((Try.prog.info? 32).map (·.size) = some D.size) := Lib.hid (by rw [hD.1]; exact HS37.out)
  have HFI : Hid ((Try.prog.info? 32).map (·.size) = some G.size) := Lib.hid (by rw [HFW.out.1]; exact HS37.out)
  have HZF : Hid (Z.size = G.size) := Lib.hid (by rw [HFW.out.1]; exact HZ37.out)
  have HF1 := Lib.hid (finW_one HFW.out)
  have HIS := Lib.hid (implIsW_any s D hD)
  rw [hw] at HIS
  have h0 := hD.2.1
  clear hD
  go_enter Try.func61, Try.ntmps61
  go_wp2_with (first | (refine wpList_load_row rfl 32 (.tmp 1) rfl w.heap.size rfl 32 D (0, 0) _ (h2_0 _ _ _) Try.underlying32 rfl HDI.out ?_) | (go_at_call 25; fail))
  refine (HIS.out _).mono ?_
  rintro e w1 ⟨rfl, b1⟩
  have D1 : Hid (w1.heap[w.heap.size]? = some (.cells D 32 (0, 0))) := Lib.hid (by rw [b1.block _ (by rw [size_al, size_al]; omega)]; exact h2_0 _ _ _)
  have Z1 : Hid (w1.heap[w.heap.size + 1]? = some (.cells Z 32 (0, 0))) := Lib.hid (by rw [b1.block _ (by rw [size_al, size_al]; omega)]; exact h2_1 _ _ _)
  have B1 : Hid (Below w.heap.size w w1) := Lib.hid ((below_al2 w _ _).trans (b1.mono (by rw [size_al, size_al]; omega)))
  have c0 : w1.cell? ⟨w.heap.size, 0, none⟩ = some (.int .i64 s) := by rw [cell_of_row _ _ _ _ _ _ D1.out]; exact h0
  clear b1 HIS h0
  go_wp2_with (go_at_call 72; fail)
  refine (HB.out _ _ D1.out).mono ?_
  rintro e w2 ⟨rfl, b2⟩
  have hlt := (Array.getElem?_eq_some_iff.1 Z1.out).1
  have Z2 : Hid (w2.heap[w.heap.size + 1]? = some (.cells Z 32 (0, 0))) := Lib.hid (by rw [b2.block _ hlt]; exact Z1.out)
  have B2 : Hid (Below w.heap.size w w2) := Lib.hid (B1.out.trans (b2.mono B1.out.size))
  clear b2 D1 Z1 B1 hlt HB c0
  go_wp2_with (refine wpList_store_row rfl 32 (.tmp 2) (.tmp 12) rfl (w.heap.size + 1) G rfl rfl 32 Z Z2.out HFI.out HZF.out HF1.out ?_)
  refine bodyPost_ret (v := .tuple #[.agg G, .int .i64 0]) (results_row_tmp (fn := Try.f61) (p := 2) (u := 3) (ty := 32) rfl _ _ (w.heap.size + 1) 32 G (0, 0) _ rfl (setRow_heap _ _ _ _ _ _ Z2.out) Try.underlying32 rfl HFI.out) rfl ⟨rfl, ?_⟩
  exact below_setRow B2.out (by omega) _
end Go.Proofs.Ytjmfffgddmnkmaa
