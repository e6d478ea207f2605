/- The code of a list whose length is to be a prime, as the program asks for it; sums that differ nowhere. Condition: none. -/
import Derived.Test.YtclflnpbiiimiaaM29
import Derived.Test.YtclflnpbiiimiaaM35
import Derived.Test.YtclflnpbiiimiaaKl
namespace Go.Proofs.Ytclflnpbiiimiaa
open Go Go.RowKit Ieee

theorem sc_chk (A : List Nat) : chk (prI (A.length : Int)) [A] = scC A := by
  unfold chk scC
  simp only [List.all_cons, List.all_nil, Bool.and_true]
  cases A.all fin <;> cases prI (A.length : Int) <;> rfl
theorem acc_congr {f g : Nat → Nat} : ∀ n, (∀ j, j < n → f j = g j) → accTo f n = accTo g n
  | 0, _ => rfl
  | n + 1, h => by rw [accTo, accTo, acc_congr n (fun j hj => h j (by omega)), h n (by omega)]
theorem rows_congr {F G : Nat → Option Nat} : ∀ n, (∀ j, j < n → F j = G j) → rowsTo F n = rowsTo G n
  | 0, _ => rfl
  | n + 1, h => by rw [rowsTo, rowsTo, rows_congr n (fun j hj => h j (by omega)), h n (by omega)]
theorem sub_mod (k j n : Nat) (hj : j ≤ n) : ((((k : Int) - j) % n).toNat) = (k + n - j) % n := by
  have h : ((k : Int) - j) % n = (((k + n - j) % n : Nat) : Int) := by
    rw [Int.natCast_emod, show ((k + n - j : Nat) : Int) = (k : Int) - j + n by omega, Int.add_emod_right]
  rw [h, Int.toNat_natCast]
theorem legs_all (n : Nat) : (legs n).all fin = true := by
  rw [List.all_eq_true]
  intro x hx
  unfold legs at hx
  obtain ⟨j, _, rfl⟩ := List.mem_map.1 hx
  exact leg_fin n j

end Go.Proofs.Ytclflnpbiiimiaa
