/- The program's and the model's ways to ask whether a number is a side answer alike. Condition: none. -/
import Derived.Test.YtemobkegbaljlaaFinW
namespace Go.Proofs.Ytemobkegbaljlaa
open Go Go.RowKit

theorem isSide_lo (n : Int) (h : n < 1) (w : World) : Calls Try.prog 56 #[.int .i64 n] w fun e w' => e = .returned (.bool false) ∧ w = w' := by
  have h1 : decide (n ≥ 1) = false := by simp; omega
  go_enter Try.func56, Try.ntmps56
  go_wp2
  go_ret
  exact ⟨rfl, rfl⟩
theorem isSide_hi (n : Int) (h : 8 < n) (w : World) : Calls Try.prog 56 #[.int .i64 n] w fun e w' => e = .returned (.bool false) ∧ w = w' := by
  have h0 : 1 ≤ n := by omega
  have h1 : decide (n ≤ 8) = false := by simp; omega
  go_enter Try.func56, Try.ntmps56
  go_wp2
  go_ret
  exact ⟨rfl, rfl⟩
theorem isSide_mid (n : Nat) (h : n < 8) (w : World) : Calls Try.prog 56 #[.int .i64 (n + 1 : Nat)] w fun e w' => e = .returned (.bool (side (n + 1 : Nat))) ∧ w = w' :=
  match n, h with
  | 0, _ => calls_of (fun _ => false) (known_none _) 99 (fun cs => by kernel_rfl)
  | 1, _ => calls_of (fun _ => false) (known_none _) 99 (fun cs => by kernel_rfl)
  | 2, _ => calls_of (fun _ => false) (known_none _) 99 (fun cs => by kernel_rfl)
  | 3, _ => calls_of (fun _ => false) (known_none _) 99 (fun cs => by kernel_rfl)
  | 4, _ => calls_of (fun _ => false) (known_none _) 99 (fun cs => by kernel_rfl)
  | 5, _ => calls_of (fun _ => false) (known_none _) 99 (fun cs => by kernel_rfl)
  | 6, _ => calls_of (fun _ => false) (known_none _) 99 (fun cs => by kernel_rfl)
  | 7, _ => calls_of (fun _ => false) (known_none _) 99 (fun cs => by kernel_rfl)
  | n + 8, h => absurd h (by omega)

theorem side_not (n : Int) (h : n < 1 ∨ 8 < n) : side n = false := by
  unfold side
  simp only [Bool.or_eq_false_iff, beq_eq_false_iff_ne]
  omega

theorem isSide_any (n : Int) (w : World) : Calls Try.prog 56 #[.int .i64 n] w fun e w' => e = .returned (.bool (side n)) ∧ w = w' := by
  rcases Int.lt_or_le n 1 with h | h
  · rw [side_not n (.inl h)]; exact isSide_lo n h w
  · rcases Int.lt_or_le 8 n with h' | h'
    · rw [side_not n (.inr h')]; exact isSide_hi n h' w
    · obtain ⟨k, rfl⟩ : ∃ k : Nat, n = (k + 1 : Nat) := ⟨(n - 1).toNat, by omega⟩
      exact isSide_mid k (by omega) w

theorem l01Side_no (n : Int) (h : side n = false) (w : World) : Calls Try.prog 35 #[.int .i64 n] w fun e w' => e = .returned (.bool false) ∧ w = w' := by
  unfold side at h
  simp only [Bool.or_eq_false_iff] at h
  obtain ⟨⟨⟨h1, h2⟩, h3⟩, h4⟩ := h
  go_enter Try.func35, Try.ntmps35
  go_wp2
  go_ret
  exact ⟨rfl, rfl⟩
theorem side_yes (n : Int) (h : side n = true) : n = 1 ∨ n = 2 ∨ n = 4 ∨ n = 8 := by
  unfold side at h
  simp only [Bool.or_eq_true, beq_iff_eq] at h
  omega
theorem l01Side_any (n : Int) (w : World) : Calls Try.prog 35 #[.int .i64 n] w fun e w' => e = .returned (.bool (side n)) ∧ w = w' := by
  cases h : side n
  · exact l01Side_no n h w
  · rcases side_yes n h with rfl | rfl | rfl | rfl
    · exact calls_of (fun _ => false) (known_none _) 99 (fun cs => by kernel_rfl)
    · exact calls_of (fun _ => false) (known_none _) 99 (fun cs => by kernel_rfl)
    · exact calls_of (fun _ => false) (known_none _) 99 (fun cs => by kernel_rfl)
    · exact calls_of (fun _ => false) (known_none _) 99 (fun cs => by kernel_rfl)

end Go.Proofs.Ytemobkegbaljlaa
