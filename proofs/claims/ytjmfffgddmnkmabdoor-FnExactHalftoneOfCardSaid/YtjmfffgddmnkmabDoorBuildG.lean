/- Plain facts on waves that are filled cell by cell by a rule. Condition: none. -/
import Derived.Test.YtjmfffgddmnkmabDoorM19
namespace Go.Proofs.YtjmfffgddmnkmabDoor
open Go Go.RowKit

/-- the first k cells by a rule, the others 0 -/
def gf (F : Nat → Nat × Nat) (k : Nat) : Array Value := Array.ofFn (n := 64) fun i => if i.val < k then .complex .f32 (F i.val).1 (F i.val).2 else .complex .f32 0 0
theorem gf_get (F : Nat → Nat × Nat) (k i : Nat) : (gf F k)[i]? = if i < 64 then some (if i < k then .complex .f32 (F i).1 (F i).2 else .complex .f32 0 0) else none := by
  simp only [gf, Array.getElem?_ofFn]
  by_cases h : i < 64 <;> simp [h]
theorem gf_size (F : Nat → Nat × Nat) (k : Nat) : (gf F k).size = 64 := by simp [gf]
theorem gf_zero (F : Nat → Nat × Nat) : gf F 0 = zc := by
  apply Array.ext_getElem?
  intro i
  rw [gf_get]
  simp only [zc, Array.getElem?_replicate]
  split <;> simp
theorem gf_set (s : Int) (F : Nat → Nat × Nat) (k : Nat) (hk : k < 64) : (pic s (gf F k)).setIfInBounds (1 + k) (.complex .f32 (F k).1 (F k).2) = pic s (gf F (k + 1)) := by
  apply Array.ext_getElem?
  intro i
  rw [Array.getElem?_setIfInBounds, pic_size _ _ (gf_size F k)]
  cases i with
  | zero => rw [if_neg (by omega), pic_zero, pic_zero]
  | succ i =>
    rw [pic_succ, pic_succ, gf_get, gf_get]
    by_cases h1 : 1 + k = i + 1
    · obtain rfl : k = i := by omega
      simp [hk, show 1 + k = k + 1 by omega]
    · rw [if_neg h1]
      by_cases h2 : i < k
      · simp [h2, show i < k + 1 by omega]
      · simp [h2, show ¬ i < k + 1 by omega]
theorem gf_old (s : Int) (F : Nat → Nat × Nat) (k : Nat) (hk : k < 64) : (pic s (gf F k))[1 + k]? = some (.complex .f32 0 0) := by
  rw [Nat.add_comm, pic_succ, gf_get, if_pos hk, if_neg (by omega)]
theorem gf_fin (s : Int) (F : Nat → Nat × Nat) (hF : ∀ i, (fin (F i).1 && fin (F i).2) = true) (k : Nat) : FinW s (pic s (gf F k)) := by
  refine ⟨pic_size _ _ (gf_size _ _), pic_zero _ _, fun i hi => ?_⟩
  rw [Nat.add_comm, pic_succ, gf_get, if_pos hi]
  by_cases h : i < k
  · exact ⟨_, _, by rw [if_pos h], hF i⟩
  · exact ⟨0, 0, by rw [if_neg h], by decide⟩
theorem cell_al2 (w : World) (A B : Obj) (n : Nat) (p : Addr) (v : Value) (h : w.cell? p = some v) : (((w.alloc A).alloc B).drewN n).cell? p = some v := by
  have hb := World.block_lt_of_cell? w _ h
  rw [World.cell?_drewN, World.cell?_alloc_lt _ _ _ (by rw [size_al]; omega), World.cell?_alloc_lt _ _ _ hb, h]
theorem side_nat (s : Nat) (h : side s = true) : s = 1 ∨ s = 2 ∨ s = 4 ∨ s = 8 := by
  have := side_yes s h
  omega
theorem place_lt (s y x : Nat) (h : side s = true) (hy : y < s) (hx : x < s) : s * y + x < 64 ∧ s * y ≤ 56 := by
  rcases side_nat s h with rfl | rfl | rfl | rfl <;> omega
theorem sq_le (s : Nat) (h : side s = true) : s * s ≤ 64 := by
  rcases side_nat s h with rfl | rfl | rfl | rfl <;> omega

end Go.Proofs.YtjmfffgddmnkmabDoor
