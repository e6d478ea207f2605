/- Plain facts on waves that are filled cell by cell by a rule. Condition: none. The model's way to ask whether a number lies within two. Condition: none. Plain facts for chapter 3: distances, centres, cells that are left out, and the model's ways to ask for them. Condition: none. Waves as they may come: the cells of a wave, and a store into one. Condition: none. The model's way to ask whether something is a wave. Condition: 64 complex numbers. -/
import Derived.Test.YtjmfffgddmnkmacM23
import Derived.Test.YtjmfffgddmnkmacM21
namespace Go.Proofs.Ytjmfffgddmnkmac
open Go Go.RowKit

/-- the first k cells by a rule, the others 0 -/
def gf (F : Nat → Nat × Nat) (k : Nat) : Array Value := Array.ofFn (n := 64) fun i => if i.val < k then .complex .f32 (F i.val).1 (F i.val).2 else .complex .f32 0 0
theorem gf_get (F : Nat → Nat × Nat) (k i : Nat) : (gf F k)[i]? = if i < 64 then some (if i < k then .complex .f32 (F i).1 (F i).2 else .complex .f32 0 0) else none := by
  simp only [gf, Array.getElem?_ofFn]
  by_cases h : i < 64 <;> simp [h]
theorem gf_size (F : Nat → Nat × Nat) (k : Nat) : (gf F k).size = 64 := by simp [gf]
theorem gf_zero (F : Nat → Nat × Nat) : gf F 0 = zc := by
  apply Array.ext_getElem?
  intro i
  rw [gf_get]
  simp only [zc, Array.getElem?_replicate]
  split <;> simp
theorem gf_set (s : Int) (F : Nat → Nat × Nat) (k : Nat) (hk : k < 64) : (pic s (gf F k)).setIfInBounds (1 + k) (.complex .f32 (F k).1 (F k).2) = pic s (gf F (k + 1)) := by
  apply Array.ext_getElem?
  intro i
  rw [Array.getElem?_setIfInBounds, pic_size _ _ (gf_size F k)]
  cases i with
  | zero => rw [if_neg (by omega), pic_zero, pic_zero]
  | succ i =>
    rw [pic_succ, pic_succ, gf_get, gf_get]
    by_cases h1 : 1 + k = i + 1
    · obtain rfl : k = i := by omega
      simp [hk, show 1 + k = k + 1 by omega]
    · rw [if_neg h1]
      by_cases h2 : i < k
      · simp [h2, show i < k + 1 by omega]
      · simp [h2, show ¬ i < k + 1 by omega]
theorem gf_old (s : Int) (F : Nat → Nat × Nat) (k : Nat) (hk : k < 64) : (pic s (gf F k))[1 + k]? = some (.complex .f32 0 0) := by
  rw [Nat.add_comm, pic_succ, gf_get, if_pos hk, if_neg (by omega)]
theorem gf_fin (s : Int) (F : Nat → Nat × Nat) (hF : ∀ i, (fin (F i).1 && fin (F i).2) = true) (k : Nat) : FinW s (pic s (gf F k)) := by
  refine ⟨pic_size _ _ (gf_size _ _), pic_zero _ _, fun i hi => ?_⟩
  rw [Nat.add_comm, pic_succ, gf_get, if_pos hi]
  by_cases h : i < k
  · exact ⟨_, _, by rw [if_pos h], hF i⟩
  · exact ⟨0, 0, by rw [if_neg h], by decide⟩
theorem cell_al2 (w : World) (A B : Obj) (n : Nat) (p : Addr) (v : Value) (h : w.cell? p = some v) : (((w.alloc A).alloc B).drewN n).cell? p = some v := by
  have hb := World.block_lt_of_cell? w _ h
  rw [World.cell?_drewN, World.cell?_alloc_lt _ _ _ (by rw [size_al]; omega), World.cell?_alloc_lt _ _ _ hb, h]
theorem side_nat (s : Nat) (h : side s = true) : s = 1 ∨ s = 2 ∨ s = 4 ∨ s = 8 := by
  have := side_yes s h
  omega
theorem place_lt (s y x : Nat) (h : side s = true) (hy : y < s) (hx : x < s) : s * y + x < 64 ∧ s * y ≤ 56 := by
  rcases side_nat s h with rfl | rfl | rfl | rfl <;> omega
theorem sq_le (s : Nat) (h : side s = true) : s * s ≤ 64 := by
  rcases side_nat s h with rfl | rfl | rfl | rfl <;> omega

end Go.Proofs.Ytjmfffgddmnkmac

namespace Go.Proofs.Ytjmfffgddmnkmac
open Go Go.RowKit

def inside (k a b : Int) : Bool := decide (a ≤ k) && decide (k ≤ b)

set_option maxRecDepth 100000 in
set_option maxHeartbeats 400000 in
theorem l01In_gen (k a b : Int) (w : World) : Calls Try.prog 57 #[.int .i64 k, .int .i64 a, .int .i64 b] w fun e w' => e = .returned (.bool (inside k a b)) ∧ w = w' := by
  by_cases h1 : a ≤ k
  · by_cases h2 : k ≤ b
    · have e : inside k a b = true := by simp [inside, h1, h2]
      rw [e]
      go_enter Try.func57, Try.ntmps57
      go_wp2
      go_ret
      exact ⟨rfl, rfl⟩
    · have e : inside k a b = false := by simp [inside, h2]
      rw [e]
      go_enter Try.func57, Try.ntmps57
      go_wp2
      go_ret
      exact ⟨rfl, rfl⟩
  · have e : inside k a b = false := by simp [inside, h1]
    rw [e]
    go_enter Try.func57, Try.ntmps57
    go_wp2
    go_ret
    exact ⟨rfl, rfl⟩

end Go.Proofs.Ytjmfffgddmnkmac

namespace Go.Proofs.Ytjmfffgddmnkmac
open Go Go.RowKit

/-- the number 1 as a cell -/
def one32 : Nat × Nat := (1065353216, 0)
def mark (b : Bool) : Nat × Nat := if b then one32 else (0, 0)
theorem mark_fin (b : Bool) : (fin (mark b).1 && fin (mark b).2) = true := by cases b <;> decide
theorem gf_skip (F : Nat → Nat × Nat) (k : Nat) (h : F k = (0, 0)) : gf F k = gf F (k + 1) := by
  apply Array.ext_getElem?
  intro i
  rw [gf_get, gf_get]
  by_cases e : i = k
  · subst e
    simp [h]
  · have : (i < k + 1) = (i < k) := by apply propext; omega
    simp [this]
theorem gf_skips (F : Nat → Nat × Nat) (a b : Nat) (hab : a ≤ b) (h : ∀ i, a ≤ i → i < b → F i = (0, 0)) : gf F a = gf F b := by
  induction b with
  | zero => rw [show a = 0 by omega]
  | succ b ih =>
    by_cases e : a = b + 1
    · rw [e]
    · rw [ih (by omega) (fun i h1 h2 => h i h1 (by omega)), gf_skip F b (h b (by omega) (by omega))]
theorem gf_wav_one (s : Int) (F : Nat → Nat × Nat) (k : Nat) : (pic s (gf F k)).all (·.oneCell') = true := by
  rw [Array.all_eq_true_iff_forall_mem]
  intro v hv
  obtain ⟨i, hi, he⟩ := Array.mem_iff_getElem.1 hv
  have h := Array.getElem?_eq_getElem hi
  rw [he] at h
  cases i with
  | zero => rw [pic_zero] at h; cases h; rfl
  | succ i =>
    rw [pic_succ, gf_get] at h
    split at h
    · cases h
      split <;> rfl
    · cases h
theorem gf_cells (F : Nat → Nat × Nat) (hF : ∀ i, (fin (F i).1 && fin (F i).2) = true) (k : Nat) : Cells (gf F k) := by
  refine ⟨gf_size _ _, fun i hi => ?_⟩
  have h := hF i
  rw [Bool.and_eq_true] at h
  by_cases hk : i < k
  · exact ⟨_, _, h.1, h.2, by rw [gf_get, if_pos hi, if_pos hk]⟩
  · exact ⟨0, 0, by decide, by decide, by rw [gf_get, if_pos hi, if_neg hk]⟩
theorem zc_cells3 : Cells zc := by
  rw [← gf_zero (fun _ => (0, 0))]
  exact gf_cells _ (fun _ => by decide) 0
theorem tab_fin2 (m : Nat) (h : m < 64) : (fin (tre m) && fin (tim m)) = true := by
  obtain ⟨a, b⟩ := tab_fin m h
  rw [a, b]
  rfl
/-- row and column of a place -/
theorem place_at (s y x : Nat) (hx : x < s) : (s * y + x) / s = y ∧ (s * y + x) % s = x := by
  have h0 : 0 < s := by omega
  refine ⟨?_, ?_⟩
  · rw [Nat.mul_add_div h0, Nat.div_eq_of_lt hx, Nat.add_zero]
  · rw [Nat.mul_add_mod, Nat.mod_eq_of_lt hx]

/-- the distance of a cell from a centre -/
def dist (y x : Nat) (v u : Int) : Int := (2 * y - v) * (2 * y - v) + (2 * x - u) * (2 * x - u)
theorem sq_small (e : Int) (h : -14 ≤ e ∧ e ≤ 14) : 0 ≤ e * e ∧ e * e ≤ 196 := by
  have h1 : (e.natAbs * e.natAbs : Nat) ≤ 14 * 14 := Nat.mul_le_mul (by omega) (by omega)
  have h2 : ((e.natAbs * e.natAbs : Nat) : Int) = e * e := Int.natAbs_mul_self
  omega
theorem mul_small (k t : Int) (K T : Nat) (hk : -(K : Int) ≤ k ∧ k ≤ K) (ht : 0 ≤ t ∧ t < T) : -((K * T : Nat) : Int) ≤ k * t ∧ k * t ≤ ((K * T : Nat) : Int) := by
  have h1 : k.natAbs * t.natAbs ≤ K * T := Nat.mul_le_mul (by omega) (by omega)
  have h2 : (k * t).natAbs = k.natAbs * t.natAbs := Int.natAbs_mul k t
  omega
theorem dist_small (y x : Nat) (v u : Int) (hy : y < 8) (hx : x < 8) (hv : 0 ≤ v ∧ v ≤ 14) (hu : 0 ≤ u ∧ u ≤ 14) : 0 ≤ dist y x v u ∧ dist y x v u ≤ 392 := by
  have h1 := sq_small (2 * (y : Int) - v) (by omega)
  have h2 := sq_small (2 * (x : Int) - u) (by omega)
  unfold dist
  omega

def centre (n v u : Int) : Bool := side n && inside v 0 (2 * (n - 1)) && inside u 0 (2 * (n - 1))
end Go.Proofs.Ytjmfffgddmnkmac

namespace Go.Proofs.Ytjmfffgddmnkmac
open Go Go.RowKit

/-- the cells of a wave of a side: complex numbers, if only some -/
def Wav (s : Int) (D : Array Value) : Prop := D.size = 65 ∧ D[0]? = some (.int .i64 s) ∧ ∀ k, k < 64 → ∃ x y, D[1 + k]? = some (.complex .f32 x y)

theorem wav_fill (s : Int) (f : Nat → Nat) (k : Nat) : Wav s (pic s (fill f k)) := by
  refine ⟨pic_size _ _ (fill_size _ _), pic_zero _ _, fun i hi => ?_⟩
  rw [Nat.add_comm, pic_succ, fill_get, if_pos hi]
  by_cases h : i < k
  · rw [if_pos h]; exact ⟨_, _, rfl⟩
  · rw [if_neg h]; exact ⟨_, _, rfl⟩
theorem wav_zc (s : Int) : Wav s (pic s zc) := by rw [← fill_zero (fun _ => 0)]; exact wav_fill _ _ _
theorem wav_one {s : Int} {D : Array Value} (h : Wav s D) : D.all (·.oneCell') = true := by
  rw [Array.all_eq_true]
  intro i hi
  cases i with
  | zero =>
    have e := h.2.1
    rw [Array.getElem?_eq_getElem hi] at e
    rw [Option.some.inj e]
    rfl
  | succ k =>
    obtain ⟨x, y, e⟩ := h.2.2 k (by have := h.1; omega)
    rw [Nat.add_comm, Array.getElem?_eq_getElem hi] at e
    rw [Option.some.inj e]
    rfl
theorem wav_set {s : Int} {D : Array Value} (h : Wav s D) (k x y : Nat) : Wav s (D.setIfInBounds (1 + k) (.complex .f32 x y)) := by
  refine ⟨by rw [Array.size_setIfInBounds]; exact h.1, ?_, fun i hi => ?_⟩
  · rw [Array.getElem?_setIfInBounds_ne (by omega)]; exact h.2.1
  · by_cases e : k = i
    · subst e
      rw [Array.getElem?_setIfInBounds_self_of_lt (by rw [h.1]; omega)]
      exact ⟨x, y, rfl⟩
    · rw [Array.getElem?_setIfInBounds_ne (by omega)]
      exact h.2.2 i hi
theorem wav_side {s t : Int} {D : Array Value} (h : Wav s D) : Wav t (D.setIfInBounds 0 (.int .i64 t)) := by
  refine ⟨by rw [Array.size_setIfInBounds]; exact h.1, ?_, fun i hi => ?_⟩
  · rw [Array.getElem?_setIfInBounds_self_of_lt (by rw [h.1]; omega)]
  · rw [Array.getElem?_setIfInBounds_ne (by omega)]
    exact h.2.2 i hi
theorem wav_no {s : Int} {D : Array Value} (h : Wav s D) (j : Nat) (b : Int) : D[j]? ≠ some (.int .u8 b) := by
  intro e
  cases j with
  | zero => rw [h.2.1] at e; cases e
  | succ k =>
    by_cases hk : k < 64
    · obtain ⟨x, y, e2⟩ := h.2.2 k hk
      rw [Nat.add_comm] at e2
      rw [e2] at e
      cases e
    · rw [Array.getElem?_eq_none (by have := h.1; omega)] at e
      cases e

end Go.Proofs.Ytjmfffgddmnkmac

namespace Go.Proofs.Ytjmfffgddmnkmac
open Go Go.RowKit

def reOf : Value → Nat
  | .complex _ x _ => x
  | _ => 0
def imOf : Value → Nat
  | .complex _ _ y => y
  | _ => 0
def reAt (D : Array Value) (k : Nat) : Nat := reOf (D.getD (1 + k) undef)
def imAt (D : Array Value) (k : Nat) : Nat := imOf (D.getD (1 + k) undef)
def nul (x y : Nat) : Bool := (FloatKind.f32.format.order x 0 == some .eq) && (FloatKind.f32.format.order y 0 == some .eq)
/-- may the k-th cell of a wave with n cells be these bits? -/
def okWav (n k x y : Nat) : Bool := (fin x && fin y) && (decide (k < n) || nul x y)
/-- are the first k cells as they have to be? -/
def okWavs (n : Nat) (D : Array Value) : Nat → Bool
  | 0 => true
  | k + 1 => okWavs n D k && okWav n k (reAt D k) (imAt D k)
def isWav (s : Int) (D : Array Value) : Bool := side s && okWavs (s * s).toNat D 64

theorem at_of (D : Array Value) (k x y : Nat) (h : D[1 + k]? = some (.complex .f32 x y)) : reAt D k = x ∧ imAt D k = y := by
  unfold reAt imAt
  rw [Array.getD_eq_getD_getElem?, h]
  exact ⟨rfl, rfl⟩
theorem okWavs_false (n : Nat) (D : Array Value) (k m : Nat) (h : okWavs n D k = false) (hm : k ≤ m) : okWavs n D m = false := by
  induction m with
  | zero => obtain rfl : k = 0 := by omega
            exact h
  | succ m ih =>
    by_cases h1 : k = m + 1
    · subst h1; exact h
    · rw [okWavs, ih (by omega)]; rfl

set_option maxRecDepth 100000 in
set_option maxHeartbeats 400000 in
theorem specIs_no (s : Int) (D : Array Value) (hD : Wav s D) (h : side s = false) (w : World) : Calls Try.prog 75 #[.agg D] w fun e w' => e = .returned (.bool false) ∧ Below w.heap.size w w' := by
  have h0 := hD.2.1
  clear hD
  go_enter Try.func75, Try.ntmps75
  go_wp2_with (go_at_call 49; refine (l01Side_any _ _).mono ?_; rw [h]; rintro e w' ⟨rfl, rfl⟩)
  go_ret
  exact ⟨rfl, (Below.refl _ _).alloc (Nat.le_refl _) _⟩

set_option maxRecDepth 100000 in
set_option maxHeartbeats 1000000 in
theorem specIs_yes (s : Int) (D : Array Value) (hD : Wav s D) (hs : side s = true) (w : World) : Calls Try.prog 75 #[.agg D] w fun e w' => e = .returned (.bool (okWavs (s * s).toNat D 64)) ∧ Below w.heap.size w w' := by
  have h0 := hD.2.1
  have HD := Lib.hid hD.2.2
  clear hD
  obtain ⟨N, hN, hN64, hNs⟩ : ∃ N : Nat, IntKind.i64.wrap (s * s) = (N : Int) ∧ N ≤ 64 ∧ (s * s).toNat = N := by
    rcases side_yes s hs with rfl | rfl | rfl | rfl
    · exact ⟨1, rfl, by omega, rfl⟩
    · exact ⟨4, rfl, by omega, rfl⟩
    · exact ⟨16, rfl, by omega, rfl⟩
    · exact ⟨64, rfl, by omega, rfl⟩
  rw [hNs]
  clear hNs
  go_enter Try.func75, Try.ntmps75
  go_wp2_with (go_at_call 49; refine (l01Side_any _ _).mono ?_; rw [hs]; rintro e w' ⟨rfl, rfl⟩)
  clear hs
  go_loopw [3] (fun i wr => ∃ k n : Nat, k ≤ 64 ∧ i = .int .i64 k ∧ Hid (okWavs N D k = true) ∧ wr = (w.alloc (.cells D 33)).drewN n) (fun i _ => 64 - (intOf i).toNat)
  case atStart => exact ⟨0, 0, by omega, rfl, Lib.hid rfl, rfl⟩
  case round =>
    obtain ⟨k, n, hk, rfl, hok, rfl⟩ := hrel
    by_cases hlt : k < 64
    · obtain ⟨x, y, hzk⟩ := HD.out k hlt
      have hat := at_of D k x y hzk
      have HN : Hid (okWavs N D (k + 1) = okWav N k x y) := Lib.hid (by rw [okWavs, hok.out, hat.1, hat.2]; rfl)
      clear hat
      cases hf : fin x && fin y
      · have HF : Hid (okWavs N D 64 = false) := Lib.hid (okWavs_false N D (k + 1) 64 (by rw [HN.out]; simp [okWav, hf]) (by omega))
        go_wp2_with (go_at_call 83; refine (whole_any _ _ _).mono ?_; rw [hf]; rintro e w' ⟨rfl, n', rfl⟩)
        go_ret
        exact ⟨by rw [HF.out]; rfl, below_drewN ((Below.refl _ _).alloc (Nat.le_refl _) _) _⟩
      · by_cases hkn : k < N
        · have HF : Hid (okWavs N D (k + 1) = true) := Lib.hid (by rw [HN.out]; simp [okWav, hf, hkn])
          go_wp2_with (go_at_call 83; refine (whole_any _ _ _).mono ?_; rw [hf]; rintro e w' ⟨rfl, n', rfl⟩)
          exact ⟨⟨k + 1, n + n', by omega, by go_num, HF, rfl⟩, by simp [intOf]; omega⟩
        · go_wp2_with (go_at_call 83; refine (whole_any _ _ _).mono ?_; rw [hf]; rintro e w' ⟨rfl, n', rfl⟩)
          · rename_i hne
            have hz : nul x y = false := by
              unfold nul
              rcases hne with h | h
              · rw [Bool.not_eq_true'] at h; rw [h]; rfl
              · rw [Bool.not_eq_true'] at h; rw [h, Bool.and_false]
            have HF : Hid (okWavs N D 64 = false) := Lib.hid (okWavs_false N D (k + 1) 64 (by rw [HN.out]; simp [okWav, hkn, hz]) (by omega))
            go_ret
            exact ⟨by rw [HF.out]; rfl, below_drewN ((Below.refl _ _).alloc (Nat.le_refl _) _) _⟩
          · rename_i hne
            have hz : nul x y = true := by
              unfold nul
              obtain ⟨h1, h2⟩ := hne
              rw [Bool.not_eq_false'] at h1 h2
              rw [h1, h2]; rfl
            have HF : Hid (okWavs N D (k + 1) = true) := Lib.hid (by rw [HN.out]; simp [okWav, hf, hz])
            exact ⟨⟨k + 1, n + n', by omega, by go_num, HF, rfl⟩, by simp [intOf]; omega⟩
    · obtain rfl : k = 64 := by omega
      go_wp2
      go_ret
      exact ⟨by rw [hok.out]; rfl, below_drewN ((Below.refl _ _).alloc (Nat.le_refl _) _) _⟩

theorem specIs_any (s : Int) (D : Array Value) (hD : Wav s D) (w : World) : Calls Try.prog 75 #[.agg D] w fun e w' => e = .returned (.bool (isWav s D)) ∧ Below w.heap.size w w' := by
  unfold isWav
  cases hs : side s
  · exact specIs_no s D hD hs w
  · exact specIs_yes s D hD hs w
end Go.Proofs.Ytjmfffgddmnkmac
