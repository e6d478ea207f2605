/- The model's flat wave. Condition: none. -/
import Derived.Test.YtjmfffgddmnkmacSCe
namespace Go.Proofs.Ytjmfffgddmnkmac
open Go Go.RowKit

/-- k cells with one number, the others 0 -/
def flat (x y k : Nat) : Array Value := Array.ofFn (n := 64) fun i => if i.val < k then .complex .f32 x y else .complex .f32 0 0
theorem flat_get (x y k i : Nat) : (flat x y k)[i]? = if i < 64 then some (if i < k then .complex .f32 x y else .complex .f32 0 0) else none := by
  simp only [flat, Array.getElem?_ofFn]
  by_cases h : i < 64 <;> simp [h]
theorem flat_size (x y k : Nat) : (flat x y k).size = 64 := by simp [flat]
theorem flat_zero (x y : Nat) : flat x y 0 = zc := by
  apply Array.ext_getElem?
  intro i
  rw [flat_get]
  by_cases h : i < 64 <;> simp [h, zc]
theorem flat_set (s : Int) (x y k : Nat) (hk : k < 64) : (pic s (flat x y k)).setIfInBounds (1 + k) (.complex .f32 x y) = pic s (flat x y (k + 1)) := by
  apply Array.ext_getElem?
  intro i
  rw [Array.getElem?_setIfInBounds]
  cases i with
  | zero => simp [pic_zero]
  | succ i =>
    rw [pic_succ, pic_succ, flat_get, flat_get, pic_size _ _ (flat_size _ _ _)]
    by_cases e : k = i
    · subst e
      simp [Nat.add_comm, hk]
    · have e1 : ¬ 1 + k = i + 1 := by omega
      have e2 : (i < k + 1) = (i < k) := by apply propext; omega
      simp [e1, e2]
theorem wav_flat (s : Int) (x y k : Nat) : Wav s (pic s (flat x y k)) := by
  refine ⟨pic_size _ _ (flat_size _ _ _), pic_zero _ _, fun i hi => ?_⟩
  rw [Nat.add_comm, pic_succ, flat_get, if_pos hi]
  by_cases h : i < k
  · rw [if_pos h]; exact ⟨_, _, rfl⟩
  · rw [if_neg h]; exact ⟨_, _, rfl⟩

def flatAns (n : Int) (x y : Nat) : Value :=
  if fin x && fin y then
    if side n then .tuple #[.agg (pic n (flat x y (n * n).toNat)), .int .i64 0] else .tuple #[.agg (pic 0 zc), .int .i64 2]
  else .tuple #[.agg (pic 0 zc), .int .i64 1]

end Go.Proofs.Ytjmfffgddmnkmac
