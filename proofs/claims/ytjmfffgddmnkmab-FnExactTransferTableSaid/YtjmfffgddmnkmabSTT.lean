/- The model's transfer table: the wave that the document tells, or zeros and the code of a range. Condition: none. -/
import Derived.Test.YtjmfffgddmnkmabS3
namespace Go.Proofs.Ytjmfffgddmnkmab
open Go Go.RowKit

/-- the folded frequency of a place on a side -/
def fr (s y : Nat) : Int := if s = 1 ∨ y < s / 2 then (y : Int) else (y : Int) - (s : Int)
def ttq (s y x : Nat) : Int := fr s y * fr s y + fr s x * fr s x
theorem fr_small (s y : Nat) (hs : side s = true) (hy : y < s) : -4 ≤ fr s y ∧ fr s y ≤ 4 := by
  unfold fr
  rcases side_nat s hs with rfl | rfl | rfl | rfl <;> split <;> omega
theorem sq4 (e : Int) (h : -4 ≤ e ∧ e ≤ 4) : 0 ≤ e * e ∧ e * e ≤ 16 := by
  have h1 : 0 ≤ e * e := by rcases Int.le_total 0 e with h | h; exact Int.mul_nonneg h h; exact Int.mul_nonneg_of_nonpos_of_nonpos h h
  refine ⟨h1, ?_⟩
  have h2 : 0 ≤ (4 - e) * (4 + e) := Int.mul_nonneg (by omega) (by omega)
  have h3 : (4 - e) * (4 + e) = 16 - e * e := by rw [Int.sub_mul, Int.mul_add, Int.mul_add]; omega
  omega
theorem freqSpec_any (s y : Nat) (hs : side s = true) (hy : y < s) (w : World) : Calls Try.prog 64 #[.int .i64 s, .int .i64 y] w fun e w' => e = .returned (.int .i64 (fr s y)) ∧ w = w' := by
  rcases side_nat s hs with rfl | rfl | rfl | rfl
  · exact match y, hy with
    | 0, _ => calls_of (fun _ => false) (known_none _) 999 (fun cs => by kernel_rfl)
    | k + 1, h => absurd h (by omega)
  · exact match y, hy with
    | 0, _ => calls_of (fun _ => false) (known_none _) 999 (fun cs => by kernel_rfl)
    | 1, _ => calls_of (fun _ => false) (known_none _) 999 (fun cs => by kernel_rfl)
    | k + 2, h => absurd h (by omega)
  · exact match y, hy with
    | 0, _ => calls_of (fun _ => false) (known_none _) 999 (fun cs => by kernel_rfl)
    | 1, _ => calls_of (fun _ => false) (known_none _) 999 (fun cs => by kernel_rfl)
    | 2, _ => calls_of (fun _ => false) (known_none _) 999 (fun cs => by kernel_rfl)
    | 3, _ => calls_of (fun _ => false) (known_none _) 999 (fun cs => by kernel_rfl)
    | k + 4, h => absurd h (by omega)
  · exact match y, hy with
    | 0, _ => calls_of (fun _ => false) (known_none _) 999 (fun cs => by kernel_rfl)
    | 1, _ => calls_of (fun _ => false) (known_none _) 999 (fun cs => by kernel_rfl)
    | 2, _ => calls_of (fun _ => false) (known_none _) 999 (fun cs => by kernel_rfl)
    | 3, _ => calls_of (fun _ => false) (known_none _) 999 (fun cs => by kernel_rfl)
    | 4, _ => calls_of (fun _ => false) (known_none _) 999 (fun cs => by kernel_rfl)
    | 5, _ => calls_of (fun _ => false) (known_none _) 999 (fun cs => by kernel_rfl)
    | 6, _ => calls_of (fun _ => false) (known_none _) 999 (fun cs => by kernel_rfl)
    | 7, _ => calls_of (fun _ => false) (known_none _) 999 (fun cs => by kernel_rfl)
    | k + 8, h => absurd h (by omega)
theorem l04Distance_any (d : Int) (w : World) : Calls Try.prog 91 #[.int .i64 d] w fun e w' => e = .returned (.bool (inside d (-64) 64)) ∧ w = w' := by
  go_enter Try.func91, Try.ntmps91
  go_wp2_with fail
  refine (l01In_gen _ _ _ _).mono ?_
  rintro e w' ⟨rfl, rfl⟩
  go_wp2
  go_ret
  exact ⟨rfl, rfl⟩

/-- are the arguments in their ranges? -/
def okTT (n d : Int) : Bool := side n && inside d (-64) 64
/-- the cell at a place -/
def cellTT (s : Nat) (d : Int) (i : Nat) : Nat × Nat := (tre ((-d * ttq s (i / s) (i % s)) % 64).toNat, tim ((-d * ttq s (i / s) (i % s)) % 64).toNat)
theorem cellTT_fin (s : Nat) (d : Int) (i : Nat) : (fin (cellTT s d i).1 && fin (cellTT s d i).2) = true := by
  unfold cellTT
  exact tab_fin2 _ (by omega)

set_option maxRecDepth 100000 in
set_option maxHeartbeats 800000 in
theorem specTT_no0 (n d : Int) (h0 : side n = false) (w : World) : Calls Try.prog 33 #[.int .i64 n, .int .i64 d] w fun e w' => e = .returned (.tuple #[.agg (pic 0 zc), .int .i64 2]) ∧ Below w.heap.size w w' := by
  have hz37 := (zero_of_info info37').1
  have HS37 := Lib.hid (zero_of_info info37').2
  have HZ37 : Hid ((pic 0 zc).size = 65) := Lib.hid (pic_size 0 zc zc_size)
  have HZ1 := Lib.hid (zc_one 0)
  have hne := pic_ne
  generalize pic 0 zc = Z at *
  have HZI : Hid ((Try.prog.info? 30).map (·.size) = some Z.size) := Lib.hid (by rw [HZ37.out]; exact HS37.out)
  go_enter Try.func33, Try.ntmps33
  go_wp2_with fail
  refine (l01Side_any _ _).mono ?_
  rw [h0]
  rintro e w' ⟨rfl, rfl⟩
  go_wp2_with (refine wpList_store_row rfl 30 (.tmp 4) (.tmp 14) rfl w.heap.size Z rfl rfl 30 Z (h1_0 _ _) HZI.out rfl HZ1.out ?_)
  refine bodyPost_ret (v := .tuple #[.agg Z, .int .i64 2]) (results_row_tmp (fn := Try.f33) (p := 4) (u := 5) (ty := 30) rfl _ _ w.heap.size 30 Z (0, 0) _ rfl (setRow_heap _ _ _ _ _ _ (h1_0 _ _)) Try.underlying30 rfl HZI.out) rfl ⟨rfl, ?_⟩
  exact below_setRow ((Below.refl _ _).alloc (Nat.le_refl _) _) (Nat.le_refl _) _

set_option maxRecDepth 100000 in
set_option maxHeartbeats 800000 in
theorem specTT_no1 (n d : Int) (h0 : side n = true) (h1 : inside d (-64) 64 = false) (w : World) : Calls Try.prog 33 #[.int .i64 n, .int .i64 d] w fun e w' => e = .returned (.tuple #[.agg (pic 0 zc), .int .i64 2]) ∧ Below w.heap.size w w' := by
  have hz37 := (zero_of_info info37').1
  have HS37 := Lib.hid (zero_of_info info37').2
  have HZ37 : Hid ((pic 0 zc).size = 65) := Lib.hid (pic_size 0 zc zc_size)
  have HZ1 := Lib.hid (zc_one 0)
  have hne := pic_ne
  generalize pic 0 zc = Z at *
  have HZI : Hid ((Try.prog.info? 30).map (·.size) = some Z.size) := Lib.hid (by rw [HZ37.out]; exact HS37.out)
  go_enter Try.func33, Try.ntmps33
  go_wp2_with fail
  refine (l01Side_any _ _).mono ?_
  rw [h0]
  rintro e w' ⟨rfl, rfl⟩
  go_wp2_with fail
  refine (l04Distance_any _ _).mono ?_
  rw [h1]
  rintro e w' ⟨rfl, rfl⟩
  go_wp2_with (refine wpList_store_row rfl 30 (.tmp 4) (.tmp 14) rfl w.heap.size Z rfl rfl 30 Z (h1_0 _ _) HZI.out rfl HZ1.out ?_)
  refine bodyPost_ret (v := .tuple #[.agg Z, .int .i64 2]) (results_row_tmp (fn := Try.f33) (p := 4) (u := 5) (ty := 30) rfl _ _ w.heap.size 30 Z (0, 0) _ rfl (setRow_heap _ _ _ _ _ _ (h1_0 _ _)) Try.underlying30 rfl HZI.out) rfl ⟨rfl, ?_⟩
  exact below_setRow ((Below.refl _ _).alloc (Nat.le_refl _) _) (Nat.le_refl _) _

set_option maxRecDepth 100000 in
set_option maxHeartbeats 2000000 in
theorem table_any (s : Nat) (d : Int) (hs : side s = true) (h1 : inside d (-64) 64 = true) (w : World) :
    Calls Try.prog 92 #[.int .i64 s, .int .i64 d] w fun e w' => e = .returned (.agg (pic s (gf (cellTT s d) (s * s)))) ∧ Below w.heap.size w w' := by
  have hz37 := (zero_of_info info37').1
  have HS37 := Lib.hid (zero_of_info info37').2
  have HZ37 : Hid ((pic 0 zc).size = 65) := Lib.hid (pic_size 0 zc zc_size)
  have HE37 : Hid ((pic s zc).size = 65) := Lib.hid (pic_size s zc zc_size)
  have HE1 : Hid ((pic s zc).all (·.oneCell') = true) := Lib.hid (zc_one s)
  have HEI : Hid ((Try.prog.info? 30).map (·.size) = some (pic s zc).size) := Lib.hid (by rw [HE37.out]; exact HS37.out)
  have HZE : Hid ((pic 0 zc).size = (pic s zc).size) := Lib.hid (by rw [HZ37.out, HE37.out])
  have HE := Lib.hid (empty_any s)
  have hne := pic_ne
  have hs8 : 1 ≤ s ∧ s ≤ 8 := by rcases side_nat s hs with rfl | rfl | rfl | rfl <;> omega
  have HPL : Hid (∀ y x, y < s → x < s → s * y + x < 64 ∧ s * y ≤ 56) := Lib.hid fun y x hy hx => place_lt s y x hs hy hx
  have hd64 : -64 ≤ d ∧ d ≤ 64 := by simp [inside] at h1; omega
  have HF : Hid (∀ y x, y < s → x < s → cellTT s d (s * y + x) = (tre ((-d * ttq s y x) % 64).toNat, tim ((-d * ttq s y x) % 64).toNat)) := Lib.hid fun y x _ hx => by
    obtain ⟨e1, e2⟩ := place_at s y x hx
    unfold cellTT
    rw [e1, e2]
  have HFR : Hid (∀ y, y < s → ∀ w, Calls Try.prog 64 #[.int .i64 s, .int .i64 y] w fun e w' => e = .returned (.int .i64 (fr s y)) ∧ w = w') := Lib.hid fun y hy w => freqSpec_any s y hs hy w
  have HFS : Hid (∀ y, y < s → -4 ≤ fr s y ∧ fr s y ≤ 4) := Lib.hid fun y hy => fr_small s y hs hy
  generalize cellTT s d = F at *
  obtain ⟨E, hE⟩ : ∃ E, E = pic s zc := ⟨_, rfl⟩
  rw [← hE] at HE37 HE1 HEI HZE HE
  have HEE := Lib.hid hE
  generalize pic 0 zc = Z at *
  clear hE h1 hs
  go_enter Try.func92, Try.ntmps92
  go_wp2_with fail
  refine (HE.out _).mono ?_
  rintro e w' ⟨rfl, rfl⟩
  go_wp2_with (refine wpList_store_row rfl 30 (.tmp 5) (.tmp 11) rfl (w.heap.size + 1 + 1) E rfl rfl 30 Z (h3_2 w (.cells Z 30) (.cells E 30) (.cells Z 30)) HEI.out HZE.out HE1.out ?_)
  have GG : Hid (((((w.alloc (.cells Z 30)).alloc (.cells E 30)).alloc (.cells Z 30)).setRow (w.heap.size + 1 + 1) E).heap[w.heap.size + 1 + 1]? = some (.cells E 30 (0, 0))) := Lib.hid (setRow_heap _ _ _ _ _ _ (h3_2 w (.cells Z 30) (.cells E 30) (.cells Z 30)))
  have GZ : Hid (((((w.alloc (.cells Z 30)).alloc (.cells E 30)).alloc (.cells Z 30)).setRow (w.heap.size + 1 + 1) E).heap[w.heap.size]? = some (.cells Z 30 (0, 0))) := Lib.hid (by rw [heap_setRow_other _ _ _ _ (by omega)]; exact h3_0 w (.cells Z 30) (.cells E 30) (.cells Z 30))
  have BB : Hid (Below w.heap.size w ((((w.alloc (.cells Z 30)).alloc (.cells E 30)).alloc (.cells Z 30)).setRow (w.heap.size + 1 + 1) E)) := Lib.hid (below_setRow ((((Below.refl _ _).alloc (Nat.le_refl _) _).alloc (by rw [size_al]; omega) _).alloc (by rw [size_al, size_al]; omega) _) (by omega) _)
  generalize (((w.alloc (.cells Z 30)).alloc (.cells E 30)).alloc (.cells Z 30)).setRow (w.heap.size + 1 + 1) E = V at *
  clear HE HE37 HE1 HEI HZE hz37 hne
  go_loopw [6] (fun i wr => ∃ (y : Nat) (C : Array Value), y ≤ s ∧ i = .int .i64 y ∧ Hid (C = pic s (gf F (s * y))) ∧ Hid (wr.heap[w.heap.size + 1 + 1]? = some (.cells C 30 (0, 0))) ∧ Hid (wr.heap[w.heap.size]? = some (.cells Z 30 (0, 0))) ∧ Hid (Below w.heap.size w wr)) (fun i _ => s - (intOf i).toNat)
  case atStart => exact ⟨0, E, by omega, rfl, Lib.hid (by rw [HEE.out, Nat.mul_zero, gf_zero]), GG, GZ, BB⟩
  case round =>
    obtain ⟨y, C, hy, rfl, HC, G, Z0, B⟩ := hrel
    by_cases hlt : y < s
    · have hdy : decide ((y : Int) < (s : Int)) = true := by simp; omega
      go_wp2
      go_loopw [7] (fun i wr => ∃ (x : Nat) (D : Array Value), x ≤ s ∧ i = .int .i64 x ∧ Hid (D = pic s (gf F (s * y + x))) ∧ Hid (wr.heap[w.heap.size + 1 + 1]? = some (.cells D 30 (0, 0))) ∧ Hid (wr.heap[w.heap.size]? = some (.cells Z 30 (0, 0))) ∧ Hid (Below w.heap.size w wr)) (fun i _ => s - (intOf i).toNat)
      case atStart => exact ⟨0, C, by omega, rfl, HC, G, Z0, B⟩
      case round =>
        obtain ⟨x, D, hx, rfl, HD, G, Z0, B⟩ := hrel
        by_cases hlt2 : x < s
        · have hdx : decide ((x : Int) < (s : Int)) = true := by simp; omega
          obtain ⟨hk, hk'⟩ := HPL.out y x hlt hlt2
          have hw1 : IntKind.i64.wrap ((s : Int) * (y : Int)) = ((s * y : Nat) : Int) := by rw [← Int.natCast_mul]; exact IntWalk.i64_in _ (by omega)
          have hold : wr.cell? ⟨w.heap.size + 1 + 1, 1 + (s * y + x), none⟩ = some (.complex .f32 0 0) := by
            rw [cell_of_row _ _ _ _ _ _ G.out, HD.out]; exact gf_old s F (s * y + x) hk
          have hfree : wr.frozen? ⟨w.heap.size + 1 + 1, 1 + (s * y + x), none⟩ = false := frozen_of_row _ _ _ _ _ G.out
          have HSET : Hid (D.setIfInBounds (1 + (s * y + x)) (.complex .f32 (F (s * y + x)).1 (F (s * y + x)).2) = pic s (gf F (s * y + x + 1))) := Lib.hid (by rw [HD.out]; exact gf_set s F _ hk)
          have HFF := Lib.hid (HF.out y x hlt hlt2)
          have HA := Lib.hid (HFR.out y hlt)
          have HB := Lib.hid (HFR.out x hlt2)
          have hf := HFS.out y hlt
          have hg := HFS.out x hlt2
          unfold ttq at HFF
          generalize fr s y = f at *
          generalize fr s x = g at *
          have hff := sq4 f hf
          have hgg := sq4 g hg
          have hmd := mul_small (-d) (f * f + g * g) 64 33 (by omega) (by omega)
          have hwf : IntKind.i64.wrap (f * f) = f * f := IntWalk.i64_in _ (by omega)
          have hwg : IntKind.i64.wrap (g * g) = g * g := IntWalk.i64_in _ (by omega)
          have hwq : IntKind.i64.wrap (f * f + g * g) = f * f + g * g := IntWalk.i64_in _ (by omega)
          have hwn : IntKind.i64.wrap (-d) = -d := IntWalk.i64_in _ (by omega)
          have hwm : IntKind.i64.wrap (-d * (f * f + g * g)) = -d * (f * f + g * g) := IntWalk.i64_in _ (by omega)
          have HPH := Lib.hid (spec_phase (-d * (f * f + g * g)))
          generalize ((-d * (f * f + g * g)) % 64).toNat = j at *
          have hF1 : (F (s * y + x)).1 = tre j := by rw [HFF.out]
          have hF2 : (F (s * y + x)).2 = tim j := by rw [HFF.out]
          clear HFF HF HFR HFS
          generalize s * y = p at *
          have hw2 : IntKind.i64.wrap ((p : Int) + (x : Int)) = ((p + x : Nat) : Int) := by rw [Int.natCast_add]; exact IntWalk.i64_in _ (by omega)
          have HQ := Lib.hid (show p + x + 1 = p + (x + 1) by omega)
          have hq : ((p + x : Nat) : Int) < 64 := by omega
          generalize hkk : p + x = k at *
          rw [hF1, hF2] at HSET
          generalize tre j = X at *
          generalize tim j = Y at *
          go_wp2_with fail
          refine (HA.out _).mono ?_
          rintro e w' ⟨rfl, hw'⟩
          rw [← hw']
          clear hw' w' HA
          go_wp2_with fail
          refine (HB.out _).mono ?_
          rintro e w' ⟨rfl, hw'⟩
          rw [← hw']
          clear hw' w' HB
          go_wp2_with fail
          refine (HPH.out _).mono ?_
          rintro e w' ⟨rfl, hw'⟩
          rw [← hw']
          clear hw' w' HPH
          go_wp2_with fail
          refine ⟨⟨x + 1, D.setIfInBounds (1 + k) (.complex .f32 X Y), by omega, by go_num, Lib.hid (by rw [← HQ.out]; exact HSET.out), Lib.hid (heap_setCell_same _ _ _ _ _ _ G.out), Lib.hid (by rw [heap_setCell_other _ _ _ _ (by show w.heap.size ≠ w.heap.size + 1 + 1; omega)]; exact Z0.out), Lib.hid (B.out.setCell (by show w.heap.size ≤ w.heap.size + 1 + 1; omega) _)⟩, by simp [intOf]; omega⟩
        · obtain rfl : x = s := by omega
          go_wp2
          exact ⟨⟨y + 1, D, by omega, by go_num, Lib.hid (by rw [HD.out, show x * (y + 1) = x * y + x by rw [Nat.mul_succ]]), G, Z0, B⟩, by simp [intOf]; omega⟩
    · obtain rfl : y = s := by omega
      have HCI : Hid ((Try.prog.info? 30).map (·.size) = some C.size) := Lib.hid (by rw [HC.out, pic_size _ _ (gf_size _ _)]; exact HS37.out)
      have HC1 : Hid (C.all (·.oneCell') = true) := Lib.hid (by rw [HC.out]; exact gf_wav_one _ _ _)
      have HZC : Hid (Z.size = C.size) := Lib.hid (by rw [HC.out, pic_size _ _ (gf_size _ _)]; exact HZ37.out)
      go_wp2_with (first | (refine wpList_load_row rfl 30 (.tmp 5) rfl (w.heap.size + 1 + 1) rfl 30 C (0, 0) _ G.out Try.underlying30 rfl HCI.out ?_) | (refine wpList_store_row rfl 30 (.tmp 4) (.tmp 46) rfl w.heap.size C rfl rfl 30 Z Z0.out HCI.out HZC.out HC1.out ?_))
      refine bodyPost_ret (v := .agg C) (results_cell_row (fn := Try.f92) (p := 4) (ty := 30) rfl _ _ w.heap.size 30 C (0, 0) _ rfl (setRow_heap _ _ _ _ _ _ Z0.out) Try.underlying30 rfl HCI.out) rfl ⟨by rw [HC.out], ?_⟩
      exact below_setRow B.out (Nat.le_refl _) _

set_option maxRecDepth 100000 in
set_option maxHeartbeats 800000 in
theorem specTT_yes (s : Nat) (d : Int) (h0 : side s = true) (h1 : inside d (-64) 64 = true) (w : World) : Calls Try.prog 33 #[.int .i64 s, .int .i64 d] w fun e w' => e = .returned (.tuple #[.agg (pic s (gf (cellTT s d) (s * s))), .int .i64 0]) ∧ Below w.heap.size w w' := by
  have hz37 := (zero_of_info info37').1
  have HS37 := Lib.hid (zero_of_info info37').2
  have HZ37 : Hid ((pic 0 zc).size = 65) := Lib.hid (pic_size 0 zc zc_size)
  have HT := Lib.hid (table_any s d h0 h1)
  have hne := pic_ne
  have HC1 : Hid ((pic s (gf (cellTT s d) (s * s))).all (·.oneCell') = true) := Lib.hid (gf_wav_one _ _ _)
  have HCI : Hid ((Try.prog.info? 30).map (·.size) = some (pic s (gf (cellTT s d) (s * s))).size) := Lib.hid (by rw [pic_size _ _ (gf_size _ _)]; exact HS37.out)
  have HZC : Hid ((pic 0 zc).size = (pic s (gf (cellTT s d) (s * s))).size) := Lib.hid (by rw [HZ37.out, pic_size _ _ (gf_size _ _)])
  generalize pic s (gf (cellTT s d) (s * s)) = C at *
  generalize pic 0 zc = Z at *
  go_enter Try.func33, Try.ntmps33
  go_wp2_with fail
  refine (l01Side_any _ _).mono ?_
  rw [h0]
  rintro e w' ⟨rfl, rfl⟩
  go_wp2_with fail
  refine (l04Distance_any _ _).mono ?_
  rw [h1]
  rintro e w' ⟨rfl, rfl⟩
  go_wp2_with (go_at_call 92; fail)
  refine (HT.out _).mono ?_
  rintro e w1 ⟨rfl, b1⟩
  have G1 : Hid (w1.heap[w.heap.size]? = some (.cells Z 30)) := Lib.hid (by rw [b1.block _ (by rw [size_al]; omega)]; exact h1_0 _ _)
  have B1 : Hid (Below w.heap.size w w1) := Lib.hid (((Below.refl _ _).alloc (Nat.le_refl _) _).trans (b1.mono (by rw [size_al]; omega)))
  clear b1
  go_wp2_with (refine wpList_store_row rfl 30 (.tmp 4) (.tmp 17) rfl w.heap.size C rfl rfl 30 Z G1.out HCI.out HZC.out HC1.out ?_)
  refine bodyPost_ret (v := .tuple #[.agg C, .int .i64 0]) (results_row_tmp (fn := Try.f33) (p := 4) (u := 5) (ty := 30) rfl _ _ w.heap.size 30 C (0, 0) _ rfl (setRow_heap _ _ _ _ _ _ G1.out) Try.underlying30 rfl HCI.out) rfl ⟨rfl, ?_⟩
  exact below_setRow B1.out (Nat.le_refl _) _

/-- the answer that is asked: side, cells, code -/
def ansTT (n d : Int) : Int × Array Value × Int := if okTT n d = true then (n, gf (cellTT n.toNat d) (n.toNat * n.toNat), 0) else (0, zc, 2)
theorem ansTT_yes (n d : Int) (h : okTT n d = true) : ansTT n d = (n, gf (cellTT n.toNat d) (n.toNat * n.toNat), 0) := by
  unfold ansTT
  rw [if_pos h]
theorem ansTT_no (n d : Int) (h : okTT n d = false) : ansTT n d = (0, zc, 2) := by
  unfold ansTT
  rw [if_neg (by rw [h]; decide)]
theorem ansTT_cells (n d : Int) : Cells (ansTT n d).2.1 := by
  cases h : okTT n d
  · rw [ansTT_no n d h]; exact zc_cells3
  · rw [ansTT_yes n d h]; exact gf_cells (cellTT n.toNat d) (cellTT_fin _ _) _
theorem ansTT_one (n d : Int) : (pic (ansTT n d).1 (ansTT n d).2.1).all (·.oneCell') = true := by
  cases h : okTT n d
  · rw [ansTT_no n d h]; exact zc_one 0
  · rw [ansTT_yes n d h]; exact gf_wav_one _ _ _
theorem specTT_any (n d : Int) (w : World) : Calls Try.prog 33 #[.int .i64 n, .int .i64 d] w fun e w' => e = .returned (.tuple #[.agg (pic (ansTT n d).1 (ansTT n d).2.1), .int .i64 (ansTT n d).2.2]) ∧ Below w.heap.size w w' := by
  cases h0 : side n
  · rw [ansTT_no n d (by unfold okTT; rw [h0]; rfl)]
    exact specTT_no0 n d h0 w
  cases h1 : inside d (-64) 64
  · rw [ansTT_no n d (by unfold okTT; rw [h0, h1]; rfl)]
    exact specTT_no1 n d h0 h1 w
  obtain ⟨s, rfl⟩ : ∃ s : Nat, n = s := ⟨n.toNat, by rcases side_yes n h0 with rfl | rfl | rfl | rfl <;> rfl⟩
  rw [ansTT_yes s d (by unfold okTT; rw [h0, h1]; rfl)]
  exact specTT_yes s d h0 h1 w
end Go.Proofs.Ytjmfffgddmnkmab
