/- How program and model ask whether a list of whole numbers is a height map, a wrapped one; wrapped heights and their differences. Condition: none, or heights. -/
import Derived.Test.YtjmfffgddmnkmabHp
import Derived.Test.YtjmfffgddmnkmabOc
import Derived.Lib.Hide
namespace Go.Proofs.Ytjmfffgddmnkmab
open Go Go.RowKit

theorem l01In_b (k a b : Int) (w : World) : Calls Try.prog 63 #[.int .i64 k, .int .i64 a, .int .i64 b] w fun e w' => e = .returned (.bool (decide (a ≤ k) && decide (k ≤ b))) ∧ w = w' := by
  by_cases h1 : a ≤ k
  · by_cases h2 : k ≤ b
    · rw [decide_eq_true h1, decide_eq_true h2]
      go_enter Try.func63, Try.ntmps63
      go_wp2
      go_ret
      exact ⟨rfl, rfl⟩
    · rw [decide_eq_true h1, decide_eq_false h2]
      go_enter Try.func63, Try.ntmps63
      go_wp2
      go_ret
      exact ⟨rfl, rfl⟩
  · rw [decide_eq_false h1, Bool.false_and]
    go_enter Try.func63, Try.ntmps63
    go_wp2
    go_ret
    exact ⟨rfl, rfl⟩

theorem between_b (a k b : Int) (w : World) : Calls Try.prog 102 #[.int .i64 a, .int .i64 k, .int .i64 b] w fun e w' => e = .returned (.bool (decide (a ≤ k) && decide (k ≤ b))) ∧ w = w' := by
  by_cases h1 : a ≤ k
  · by_cases h2 : k ≤ b
    · rw [decide_eq_true h1, decide_eq_true h2]
      go_enter Try.func102, Try.ntmps102
      go_wp2
      go_ret
      exact ⟨rfl, rfl⟩
    · rw [decide_eq_true h1, decide_eq_false h2]
      go_enter Try.func102, Try.ntmps102
      go_wp2
      go_ret
      exact ⟨rfl, rfl⟩
  · rw [decide_eq_false h1, Bool.false_and]
    go_enter Try.func102, Try.ntmps102
    go_wp2
    go_ret
    exact ⟨rfl, rfl⟩

theorem within_b (k : Int) (w : World) : Calls Try.prog 126 #[.int .i64 k, .int .i64 100000] w fun e w' => e = .returned (.bool (isH k)) ∧ w = w' := by
  unfold isH
  by_cases h1 : -100000 ≤ k
  · by_cases h2 : k ≤ 100000
    · rw [decide_eq_true h1, decide_eq_true h2]
      go_enter Try.func126, Try.ntmps126
      go_wp2
      go_ret
      exact ⟨rfl, rfl⟩
    · rw [decide_eq_true h1, decide_eq_false h2]
      go_enter Try.func126, Try.ntmps126
      go_wp2
      go_ret
      exact ⟨rfl, rfl⟩
  · rw [decide_eq_false h1, Bool.false_and]
    go_enter Try.func126, Try.ntmps126
    go_wp2
    go_ret
    exact ⟨rfl, rfl⟩

theorem any_not (p : Int → Bool) (L : List Int) : (!L.any (fun x => !p x)) = L.all p := by
  rw [List.any_eq_not_all_not]; simp

end Go.Proofs.Ytjmfffgddmnkmab
