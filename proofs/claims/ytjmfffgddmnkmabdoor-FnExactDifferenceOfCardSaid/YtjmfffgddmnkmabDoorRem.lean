/- The program's remainder by 64 is the remainder that is at least 0, of any integer. Condition: none. -/
import Derived.Test.YtjmfffgddmnkmabDoorTab
import Derived.WalkKit
namespace Go.Proofs.YtjmfffgddmnkmabDoor
open Go

theorem tmod64 (a : Int) : (0 ≤ a → a.tmod 64 = a % 64) ∧ (a < 0 → a.tmod 64 = -((-a) % 64)) := by
  constructor
  · intro h; exact Int.tmod_eq_emod_of_nonneg h
  · intro h
    have h1 : (-a).tmod 64 = (-a) % 64 := Int.tmod_eq_emod_of_nonneg (by omega)
    rw [Int.neg_tmod] at h1
    omega

theorem tmod64_bd (a : Int) : -64 < a.tmod 64 ∧ a.tmod 64 < 64 := by
  have h := tmod64 a
  rcases Int.lt_or_le a 0 with h0 | h0
  · have := h.2 h0; omega
  · have := h.1 h0; omega

theorem emod64 (a : Int) : a % 64 = if a.tmod 64 < 0 then a.tmod 64 + 64 else a.tmod 64 := by
  have h := tmod64 a
  rcases Int.lt_or_le a 0 with h0 | h0
  · have := h.2 h0; split <;> omega
  · have := h.1 h0; split <;> omega

theorem wrap_small (a : Int) (h : -1000 ≤ a) (h' : a ≤ 1000) : IntKind.i64.wrap a = a := IntWalk.i64_in a (by omega)

theorem spec_rest (a : Int) : (IntKind.i64.wrap (a.tmod 64 + 64)).tmod 64 = a % 64 := by
  have hb := tmod64_bd a
  have he := emod64 a
  rw [wrap_small _ (by omega) (by omega), Int.tmod_eq_emod_of_nonneg (by omega)]
  split at he <;> omega

end Go.Proofs.YtjmfffgddmnkmabDoor
