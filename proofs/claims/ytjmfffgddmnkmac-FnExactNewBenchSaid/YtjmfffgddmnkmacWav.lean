/- Waves as they may come: the cells of a wave, and a store into one. Condition: none. -/
import Derived.Test.YtjmfffgddmnkmacRes
namespace Go.Proofs.Ytjmfffgddmnkmac
open Go Go.RowKit

/-- the cells of a wave of a side: complex numbers, if only some -/
def Wav (s : Int) (D : Array Value) : Prop := D.size = 65 ∧ D[0]? = some (.int .i64 s) ∧ ∀ k, k < 64 → ∃ x y, D[1 + k]? = some (.complex .f32 x y)

theorem wav_fill (s : Int) (f : Nat → Nat) (k : Nat) : Wav s (pic s (fill f k)) := by
  refine ⟨pic_size _ _ (fill_size _ _), pic_zero _ _, fun i hi => ?_⟩
  rw [Nat.add_comm, pic_succ, fill_get, if_pos hi]
  by_cases h : i < k
  · rw [if_pos h]; exact ⟨_, _, rfl⟩
  · rw [if_neg h]; exact ⟨_, _, rfl⟩
theorem wav_zc (s : Int) : Wav s (pic s zc) := by rw [← fill_zero (fun _ => 0)]; exact wav_fill _ _ _
theorem wav_one {s : Int} {D : Array Value} (h : Wav s D) : D.all (·.oneCell') = true := by
  rw [Array.all_eq_true]
  intro i hi
  cases i with
  | zero =>
    have e := h.2.1
    rw [Array.getElem?_eq_getElem hi] at e
    rw [Option.some.inj e]
    rfl
  | succ k =>
    obtain ⟨x, y, e⟩ := h.2.2 k (by have := h.1; omega)
    rw [Nat.add_comm, Array.getElem?_eq_getElem hi] at e
    rw [Option.some.inj e]
    rfl
theorem wav_set {s : Int} {D : Array Value} (h : Wav s D) (k x y : Nat) : Wav s (D.setIfInBounds (1 + k) (.complex .f32 x y)) := by
  refine ⟨by rw [Array.size_setIfInBounds]; exact h.1, ?_, fun i hi => ?_⟩
  · rw [Array.getElem?_setIfInBounds_ne (by omega)]; exact h.2.1
  · by_cases e : k = i
    · subst e
      rw [Array.getElem?_setIfInBounds_self_of_lt (by rw [h.1]; omega)]
      exact ⟨x, y, rfl⟩
    · rw [Array.getElem?_setIfInBounds_ne (by omega)]
      exact h.2.2 i hi
theorem wav_side {s t : Int} {D : Array Value} (h : Wav s D) : Wav t (D.setIfInBounds 0 (.int .i64 t)) := by
  refine ⟨by rw [Array.size_setIfInBounds]; exact h.1, ?_, fun i hi => ?_⟩
  · rw [Array.getElem?_setIfInBounds_self_of_lt (by rw [h.1]; omega)]
  · rw [Array.getElem?_setIfInBounds_ne (by omega)]
    exact h.2.2 i hi
theorem wav_no {s : Int} {D : Array Value} (h : Wav s D) (j : Nat) (b : Int) : D[j]? ≠ some (.int .u8 b) := by
  intro e
  cases j with
  | zero => rw [h.2.1] at e; cases e
  | succ k =>
    by_cases hk : k < 64
    · obtain ⟨x, y, e2⟩ := h.2.2 k hk
      rw [Nat.add_comm] at e2
      rw [e2] at e
      cases e
    · rw [Array.getElem?_eq_none (by have := h.1; omega)] at e
      cases e

end Go.Proofs.Ytjmfffgddmnkmac
