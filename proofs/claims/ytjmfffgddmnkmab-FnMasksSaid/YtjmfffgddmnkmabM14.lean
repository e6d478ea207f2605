/- Waves as they may come: the cells of a wave, and a store into one. Condition: none. The model's way to ask whether something is a wave. Condition: 64 complex numbers. -/
import Derived.Test.YtjmfffgddmnkmabM12
import Derived.Test.YtjmfffgddmnkmabM6
namespace Go.Proofs.Ytjmfffgddmnkmab
open Go Go.RowKit

/-- the cells of a wave of a side: complex numbers, if only some -/
def Wav (s : Int) (D : Array Value) : Prop := D.size = 65 ∧ D[0]? = some (.int .i64 s) ∧ ∀ k, k < 64 → ∃ x y, D[1 + k]? = some (.complex .f32 x y)

theorem wav_fill (s : Int) (f : Nat → Nat) (k : Nat) : Wav s (pic s (fill f k)) := by
  refine ⟨pic_size _ _ (fill_size _ _), pic_zero _ _, fun i hi => ?_⟩
  rw [Nat.add_comm, pic_succ, fill_get, if_pos hi]
  by_cases h : i < k
  · rw [if_pos h]; exact ⟨_, _, rfl⟩
  · rw [if_neg h]; exact ⟨_, _, rfl⟩
theorem wav_zc (s : Int) : Wav s (pic s zc) := by rw [← fill_zero (fun _ => 0)]; exact wav_fill _ _ _
theorem wav_one {s : Int} {D : Array Value} (h : Wav s D) : D.all (·.oneCell') = true := by
  rw [Array.all_eq_true]
  intro i hi
  cases i with
  | zero =>
    have e := h.2.1
    rw [Array.getElem?_eq_getElem hi] at e
    rw [Option.some.inj e]
    rfl
  | succ k =>
    obtain ⟨x, y, e⟩ := h.2.2 k (by have := h.1; omega)
    rw [Nat.add_comm, Array.getElem?_eq_getElem hi] at e
    rw [Option.some.inj e]
    rfl
theorem wav_set {s : Int} {D : Array Value} (h : Wav s D) (k x y : Nat) : Wav s (D.setIfInBounds (1 + k) (.complex .f32 x y)) := by
  refine ⟨by rw [Array.size_setIfInBounds]; exact h.1, ?_, fun i hi => ?_⟩
  · rw [Array.getElem?_setIfInBounds_ne (by omega)]; exact h.2.1
  · by_cases e : k = i
    · subst e
      rw [Array.getElem?_setIfInBounds_self_of_lt (by rw [h.1]; omega)]
      exact ⟨x, y, rfl⟩
    · rw [Array.getElem?_setIfInBounds_ne (by omega)]
      exact h.2.2 i hi
theorem wav_side {s t : Int} {D : Array Value} (h : Wav s D) : Wav t (D.setIfInBounds 0 (.int .i64 t)) := by
  refine ⟨by rw [Array.size_setIfInBounds]; exact h.1, ?_, fun i hi => ?_⟩
  · rw [Array.getElem?_setIfInBounds_self_of_lt (by rw [h.1]; omega)]
  · rw [Array.getElem?_setIfInBounds_ne (by omega)]
    exact h.2.2 i hi
theorem wav_no {s : Int} {D : Array Value} (h : Wav s D) (j : Nat) (b : Int) : D[j]? ≠ some (.int .u8 b) := by
  intro e
  cases j with
  | zero => rw [h.2.1] at e; cases e
  | succ k =>
    by_cases hk : k < 64
    · obtain ⟨x, y, e2⟩ := h.2.2 k hk
      rw [Nat.add_comm] at e2
      rw [e2] at e
      cases e
    · rw [Array.getElem?_eq_none (by have := h.1; omega)] at e
      cases e

end Go.Proofs.Ytjmfffgddmnkmab

namespace Go.Proofs.Ytjmfffgddmnkmab
open Go Go.RowKit

def reOf : Value → Nat
  | .complex _ x _ => x
  | _ => 0
def imOf : Value → Nat
  | .complex _ _ y => y
  | _ => 0
def reAt (D : Array Value) (k : Nat) : Nat := reOf (D.getD (1 + k) undef)
def imAt (D : Array Value) (k : Nat) : Nat := imOf (D.getD (1 + k) undef)
def nul (x y : Nat) : Bool := (FloatKind.f32.format.order x 0 == some .eq) && (FloatKind.f32.format.order y 0 == some .eq)
/-- may the k-th cell of a wave with n cells be these bits? -/
def okWav (n k x y : Nat) : Bool := (fin x && fin y) && (decide (k < n) || nul x y)
/-- are the first k cells as they have to be? -/
def okWavs (n : Nat) (D : Array Value) : Nat → Bool
  | 0 => true
  | k + 1 => okWavs n D k && okWav n k (reAt D k) (imAt D k)
def isWav (s : Int) (D : Array Value) : Bool := side s && okWavs (s * s).toNat D 64

theorem at_of (D : Array Value) (k x y : Nat) (h : D[1 + k]? = some (.complex .f32 x y)) : reAt D k = x ∧ imAt D k = y := by
  unfold reAt imAt
  rw [Array.getD_eq_getD_getElem?, h]
  exact ⟨rfl, rfl⟩
theorem okWavs_false (n : Nat) (D : Array Value) (k m : Nat) (h : okWavs n D k = false) (hm : k ≤ m) : okWavs n D m = false := by
  induction m with
  | zero => obtain rfl : k = 0 := by omega
            exact h
  | succ m ih =>
    by_cases h1 : k = m + 1
    · subst h1; exact h
    · rw [okWavs, ih (by omega)]; rfl

set_option maxRecDepth 100000 in
set_option maxHeartbeats 400000 in
theorem specIs_no (s : Int) (D : Array Value) (hD : Wav s D) (h : side s = false) (w : World) : Calls Try.prog 88 #[.agg D] w fun e w' => e = .returned (.bool false) ∧ Below w.heap.size w w' := by
  have h0 := hD.2.1
  clear hD
  go_enter Try.func88, Try.ntmps88
  go_wp2_with (go_at_call 62; refine (l01Side_any _ _).mono ?_; rw [h]; rintro e w' ⟨rfl, rfl⟩)
  go_ret
  exact ⟨rfl, (Below.refl _ _).alloc (Nat.le_refl _) _⟩

set_option maxRecDepth 100000 in
set_option maxHeartbeats 1000000 in
theorem specIs_yes (s : Int) (D : Array Value) (hD : Wav s D) (hs : side s = true) (w : World) : Calls Try.prog 88 #[.agg D] w fun e w' => e = .returned (.bool (okWavs (s * s).toNat D 64)) ∧ Below w.heap.size w w' := by
  have h0 := hD.2.1
  have HD := Lib.hid hD.2.2
  clear hD
  obtain ⟨N, hN, hN64, hNs⟩ : ∃ N : Nat, IntKind.i64.wrap (s * s) = (N : Int) ∧ N ≤ 64 ∧ (s * s).toNat = N := by
    rcases side_yes s hs with rfl | rfl | rfl | rfl
    · exact ⟨1, rfl, by omega, rfl⟩
    · exact ⟨4, rfl, by omega, rfl⟩
    · exact ⟨16, rfl, by omega, rfl⟩
    · exact ⟨64, rfl, by omega, rfl⟩
  rw [hNs]
  clear hNs
  go_enter Try.func88, Try.ntmps88
  go_wp2_with (go_at_call 62; refine (l01Side_any _ _).mono ?_; rw [hs]; rintro e w' ⟨rfl, rfl⟩)
  clear hs
  go_loopw [3] (fun i wr => ∃ k n : Nat, k ≤ 64 ∧ i = .int .i64 k ∧ Hid (okWavs N D k = true) ∧ wr = (w.alloc (.cells D 30)).drewN n) (fun i _ => 64 - (intOf i).toNat)
  case atStart => exact ⟨0, 0, by omega, rfl, Lib.hid rfl, rfl⟩
  case round =>
    obtain ⟨k, n, hk, rfl, hok, rfl⟩ := hrel
    by_cases hlt : k < 64
    · obtain ⟨x, y, hzk⟩ := HD.out k hlt
      have hat := at_of D k x y hzk
      have HN : Hid (okWavs N D (k + 1) = okWav N k x y) := Lib.hid (by rw [okWavs, hok.out, hat.1, hat.2]; rfl)
      clear hat
      cases hf : fin x && fin y
      · have HF : Hid (okWavs N D 64 = false) := Lib.hid (okWavs_false N D (k + 1) 64 (by rw [HN.out]; simp [okWav, hf]) (by omega))
        go_wp2_with (go_at_call 124; refine (whole_any _ _ _).mono ?_; rw [hf]; rintro e w' ⟨rfl, n', rfl⟩)
        go_ret
        exact ⟨by rw [HF.out]; rfl, below_drewN ((Below.refl _ _).alloc (Nat.le_refl _) _) _⟩
      · by_cases hkn : k < N
        · have HF : Hid (okWavs N D (k + 1) = true) := Lib.hid (by rw [HN.out]; simp [okWav, hf, hkn])
          go_wp2_with (go_at_call 124; refine (whole_any _ _ _).mono ?_; rw [hf]; rintro e w' ⟨rfl, n', rfl⟩)
          exact ⟨⟨k + 1, n + n', by omega, by go_num, HF, rfl⟩, by simp [intOf]; omega⟩
        · go_wp2_with (go_at_call 124; refine (whole_any _ _ _).mono ?_; rw [hf]; rintro e w' ⟨rfl, n', rfl⟩)
          · rename_i hne
            have hz : nul x y = false := by
              unfold nul
              rcases hne with h | h
              · rw [Bool.not_eq_true'] at h; rw [h]; rfl
              · rw [Bool.not_eq_true'] at h; rw [h, Bool.and_false]
            have HF : Hid (okWavs N D 64 = false) := Lib.hid (okWavs_false N D (k + 1) 64 (by rw [HN.out]; simp [okWav, hkn, hz]) (by omega))
            go_ret
            exact ⟨by rw [HF.out]; rfl, below_drewN ((Below.refl _ _).alloc (Nat.le_refl _) _) _⟩
          · rename_i hne
            have hz : nul x y = true := by
              unfold nul
              obtain ⟨h1, h2⟩ := hne
              rw [Bool.not_eq_false'] at h1 h2
              rw [h1, h2]; rfl
            have HF : Hid (okWavs N D (k + 1) = true) := Lib.hid (by rw [HN.out]; simp [okWav, hf, hz])
            exact ⟨⟨k + 1, n + n', by omega, by go_num, HF, rfl⟩, by simp [intOf]; omega⟩
    · obtain rfl : k = 64 := by omega
      go_wp2
      go_ret
      exact ⟨by rw [hok.out]; rfl, below_drewN ((Below.refl _ _).alloc (Nat.le_refl _) _) _⟩

theorem specIs_any (s : Int) (D : Array Value) (hD : Wav s D) (w : World) : Calls Try.prog 88 #[.agg D] w fun e w' => e = .returned (.bool (isWav s D)) ∧ Below w.heap.size w w' := by
  unfold isWav
  cases hs : side s
  · exact specIs_no s D hD hs w
  · exact specIs_yes s D hD hs w
end Go.Proofs.Ytjmfffgddmnkmab
