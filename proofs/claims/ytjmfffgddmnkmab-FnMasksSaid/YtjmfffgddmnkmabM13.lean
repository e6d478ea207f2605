/- The model's way to ask whether a number lies within two. Condition: none. Plain facts for chapter 3: distances, centres, cells that are left out, and the model's ways to ask for them. Condition: none. -/
import Derived.Test.YtjmfffgddmnkmabM11
import Derived.Test.YtjmfffgddmnkmabM12
namespace Go.Proofs.Ytjmfffgddmnkmab
open Go Go.RowKit

def inside (k a b : Int) : Bool := decide (a ≤ k) && decide (k ≤ b)

set_option maxRecDepth 100000 in
set_option maxHeartbeats 400000 in
theorem l01In_gen (k a b : Int) (w : World) : Calls Try.prog 63 #[.int .i64 k, .int .i64 a, .int .i64 b] w fun e w' => e = .returned (.bool (inside k a b)) ∧ w = w' := by
  by_cases h1 : a ≤ k
  · by_cases h2 : k ≤ b
    · have e : inside k a b = true := by simp [inside, h1, h2]
      rw [e]
      go_enter Try.func63, Try.ntmps63
      go_wp2
      go_ret
      exact ⟨rfl, rfl⟩
    · have e : inside k a b = false := by simp [inside, h2]
      rw [e]
      go_enter Try.func63, Try.ntmps63
      go_wp2
      go_ret
      exact ⟨rfl, rfl⟩
  · have e : inside k a b = false := by simp [inside, h1]
    rw [e]
    go_enter Try.func63, Try.ntmps63
    go_wp2
    go_ret
    exact ⟨rfl, rfl⟩

end Go.Proofs.Ytjmfffgddmnkmab

namespace Go.Proofs.Ytjmfffgddmnkmab
open Go Go.RowKit

/-- the number 1 as a cell -/
def one32 : Nat × Nat := (1065353216, 0)
def mark (b : Bool) : Nat × Nat := if b then one32 else (0, 0)
theorem mark_fin (b : Bool) : (fin (mark b).1 && fin (mark b).2) = true := by cases b <;> decide
theorem gf_skip (F : Nat → Nat × Nat) (k : Nat) (h : F k = (0, 0)) : gf F k = gf F (k + 1) := by
  apply Array.ext_getElem?
  intro i
  rw [gf_get, gf_get]
  by_cases e : i = k
  · subst e
    simp [h]
  · have : (i < k + 1) = (i < k) := by apply propext; omega
    simp [this]
theorem gf_skips (F : Nat → Nat × Nat) (a b : Nat) (hab : a ≤ b) (h : ∀ i, a ≤ i → i < b → F i = (0, 0)) : gf F a = gf F b := by
  induction b with
  | zero => rw [show a = 0 by omega]
  | succ b ih =>
    by_cases e : a = b + 1
    · rw [e]
    · rw [ih (by omega) (fun i h1 h2 => h i h1 (by omega)), gf_skip F b (h b (by omega) (by omega))]
theorem gf_wav_one (s : Int) (F : Nat → Nat × Nat) (k : Nat) : (pic s (gf F k)).all (·.oneCell') = true := by
  rw [Array.all_eq_true_iff_forall_mem]
  intro v hv
  obtain ⟨i, hi, he⟩ := Array.mem_iff_getElem.1 hv
  have h := Array.getElem?_eq_getElem hi
  rw [he] at h
  cases i with
  | zero => rw [pic_zero] at h; cases h; rfl
  | succ i =>
    rw [pic_succ, gf_get] at h
    split at h
    · cases h
      split <;> rfl
    · cases h
theorem gf_cells (F : Nat → Nat × Nat) (hF : ∀ i, (fin (F i).1 && fin (F i).2) = true) (k : Nat) : Cells (gf F k) := by
  refine ⟨gf_size _ _, fun i hi => ?_⟩
  have h := hF i
  rw [Bool.and_eq_true] at h
  by_cases hk : i < k
  · exact ⟨_, _, h.1, h.2, by rw [gf_get, if_pos hi, if_pos hk]⟩
  · exact ⟨0, 0, by decide, by decide, by rw [gf_get, if_pos hi, if_neg hk]⟩
theorem zc_cells3 : Cells zc := by
  rw [← gf_zero (fun _ => (0, 0))]
  exact gf_cells _ (fun _ => by decide) 0
theorem tab_fin2 (m : Nat) (h : m < 64) : (fin (tre m) && fin (tim m)) = true := by
  obtain ⟨a, b⟩ := tab_fin m h
  rw [a, b]
  rfl
/-- row and column of a place -/
theorem place_at (s y x : Nat) (hx : x < s) : (s * y + x) / s = y ∧ (s * y + x) % s = x := by
  have h0 : 0 < s := by omega
  refine ⟨?_, ?_⟩
  · rw [Nat.mul_add_div h0, Nat.div_eq_of_lt hx, Nat.add_zero]
  · rw [Nat.mul_add_mod, Nat.mod_eq_of_lt hx]

/-- the distance of a cell from a centre -/
def dist (y x : Nat) (v u : Int) : Int := (2 * y - v) * (2 * y - v) + (2 * x - u) * (2 * x - u)
theorem sq_small (e : Int) (h : -14 ≤ e ∧ e ≤ 14) : 0 ≤ e * e ∧ e * e ≤ 196 := by
  have h1 : (e.natAbs * e.natAbs : Nat) ≤ 14 * 14 := Nat.mul_le_mul (by omega) (by omega)
  have h2 : ((e.natAbs * e.natAbs : Nat) : Int) = e * e := Int.natAbs_mul_self
  omega
theorem mul_small (k t : Int) (K T : Nat) (hk : -(K : Int) ≤ k ∧ k ≤ K) (ht : 0 ≤ t ∧ t < T) : -((K * T : Nat) : Int) ≤ k * t ∧ k * t ≤ ((K * T : Nat) : Int) := by
  have h1 : k.natAbs * t.natAbs ≤ K * T := Nat.mul_le_mul (by omega) (by omega)
  have h2 : (k * t).natAbs = k.natAbs * t.natAbs := Int.natAbs_mul k t
  omega
theorem dist_small (y x : Nat) (v u : Int) (hy : y < 8) (hx : x < 8) (hv : 0 ≤ v ∧ v ≤ 14) (hu : 0 ≤ u ∧ u ≤ 14) : 0 ≤ dist y x v u ∧ dist y x v u ≤ 392 := by
  have h1 := sq_small (2 * (y : Int) - v) (by omega)
  have h2 := sq_small (2 * (x : Int) - u) (by omega)
  unfold dist
  omega

def centre (n v u : Int) : Bool := side n && inside v 0 (2 * (n - 1)) && inside u 0 (2 * (n - 1))
end Go.Proofs.Ytjmfffgddmnkmab
