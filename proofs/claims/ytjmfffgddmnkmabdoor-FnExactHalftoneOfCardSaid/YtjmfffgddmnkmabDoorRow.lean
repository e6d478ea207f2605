/- A row cut out of the cells, or of the levels. Condition: a side of at most 8. -/
import Derived.Test.YtjmfffgddmnkmabDoorSHa
namespace Go.Proofs.YtjmfffgddmnkmabDoor
open Go Go.RowKit

set_option maxRecDepth 100000 in
set_option maxHeartbeats 400000 in
theorem rowOf_levels (b o n y : Nat) (hn : 1 ≤ n ∧ n ≤ 8) (hy : y < n) (w : World) : Calls Tryd.prog 41 #[.slice (some ⟨b, o, none⟩) 64 64, .int .i64 n, .int .i64 y] w fun e w' => e = .returned (.slice (some ⟨b, o + n * y, none⟩) n n) ∧ w = w' := by
  obtain ⟨p, hp⟩ : ∃ p, n * y = p := ⟨_, rfl⟩
  have hq : n * (y + 1) = p + n := by rw [Nat.mul_succ, hp]
  have h64 : p + n ≤ 64 := by
    rw [← hq]
    exact Nat.le_trans (Nat.mul_le_mul hn.2 (show y + 1 ≤ 8 by omega)) (by decide)
  have hw1 : IntKind.i64.wrap ((n : Int) * (y : Int)) = (p : Int) := by rw [← Int.natCast_mul, hp]; exact IntWalk.i64_in _ (by omega)
  have hw2 : IntKind.i64.wrap ((n : Int) * ((y : Int) + 1)) = ((p + n : Nat) : Int) := by
    rw [show (n : Int) * ((y : Int) + 1) = ((n * (y + 1) : Nat) : Int) by rw [Int.natCast_mul]; rfl, hq]; exact IntWalk.i64_in _ (by omega)
  have hw3 : IntKind.i64.wrap ((y : Int) + 1) = (y : Int) + 1 := IntWalk.i64_in _ (by omega)
  obtain ⟨q, hqq⟩ : ∃ q, p + n = q := ⟨_, rfl⟩
  rw [hqq] at hw2
  have hsub : q - p = n := by omega
  have hne : ¬ q = p := by omega
  have hpq : (p : Int) ≤ (q : Int) := by omega
  have hq64 : (q : Int) ≤ 64 := by omega
  have hp0 : (0 : Int) ≤ (p : Int) := by omega
  clear hq hn hy hqq
  rw [hp]
  clear hp
  go_enter Tryd.func41, Tryd.ntmps41
  go_wp2
  go_ret
  exact ⟨by first | rfl | (simp; omega) | (rw [hsub]), rfl⟩

set_option maxRecDepth 100000 in
set_option maxHeartbeats 400000 in
theorem rowOf_cells (b o n y : Nat) (hn : 1 ≤ n ∧ n ≤ 8) (hy : y < n) (w : World) : Calls Tryd.prog 40 #[.slice (some ⟨b, o, none⟩) 64 64, .int .i64 n, .int .i64 y] w fun e w' => e = .returned (.slice (some ⟨b, o + n * y, none⟩) n n) ∧ w = w' := by
  obtain ⟨p, hp⟩ : ∃ p, n * y = p := ⟨_, rfl⟩
  have hq : n * (y + 1) = p + n := by rw [Nat.mul_succ, hp]
  have h64 : p + n ≤ 64 := by
    rw [← hq]
    exact Nat.le_trans (Nat.mul_le_mul hn.2 (show y + 1 ≤ 8 by omega)) (by decide)
  have hw1 : IntKind.i64.wrap ((n : Int) * (y : Int)) = (p : Int) := by rw [← Int.natCast_mul, hp]; exact IntWalk.i64_in _ (by omega)
  have hw2 : IntKind.i64.wrap ((n : Int) * ((y : Int) + 1)) = ((p + n : Nat) : Int) := by
    rw [show (n : Int) * ((y : Int) + 1) = ((n * (y + 1) : Nat) : Int) by rw [Int.natCast_mul]; rfl, hq]; exact IntWalk.i64_in _ (by omega)
  have hw3 : IntKind.i64.wrap ((y : Int) + 1) = (y : Int) + 1 := IntWalk.i64_in _ (by omega)
  obtain ⟨q, hqq⟩ : ∃ q, p + n = q := ⟨_, rfl⟩
  rw [hqq] at hw2
  have hsub : q - p = n := by omega
  have hne : ¬ q = p := by omega
  have hpq : (p : Int) ≤ (q : Int) := by omega
  have hq64 : (q : Int) ≤ 64 := by omega
  have hp0 : (0 : Int) ≤ (p : Int) := by omega
  clear hq hn hy hqq
  rw [hp]
  clear hp
  go_enter Tryd.func40, Tryd.ntmps40
  go_wp2
  go_ret
  exact ⟨by first | rfl | (simp; omega) | (rw [hsub]), rfl⟩
end Go.Proofs.YtjmfffgddmnkmabDoor
