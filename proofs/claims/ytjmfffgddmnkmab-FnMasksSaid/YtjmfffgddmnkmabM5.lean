/- The program's and the model's ways to ask whether a number is a side answer alike. Condition: none. What is a complex number, and what lies within 64, in the program's ways to ask. Condition: none. -/
import Derived.Test.YtjmfffgddmnkmabFinW
namespace Go.Proofs.Ytjmfffgddmnkmab
open Go Go.RowKit

/-- the powers of two up to 64 -/
def pow64 (n : Int) : Bool := n == 1 || n == 2 || n == 4 || n == 8 || n == 16 || n == 32 || n == 64
theorem and_prev : ∀ k : Fin 65, (bits .and .i64 (k.val : Int) ((k.val : Int) - 1) == 0) = (pow64 (k.val : Int) || (k.val : Int) == 0) := by decide +kernel
theorem pow64_not (n : Int) (h : n < 1 ∨ 64 < n) : pow64 n = false := by
  unfold pow64
  simp only [Bool.or_eq_false_iff, beq_eq_false_iff_ne]
  omega
theorem powOf_lo (n m : Int) (h : n < 1) (w : World) : Calls Try.prog 117 #[.int .i64 n, .int .i64 m] w fun e w' => e = .returned (.bool false) ∧ w = w' := by
  have h1 : decide (n ≥ 1) = false := by simp; omega
  go_enter Try.func117, Try.ntmps117
  go_wp2
  go_ret
  exact ⟨rfl, rfl⟩
theorem powOf_hi (n m : Int) (h0 : 1 ≤ n) (h : m < n) (w : World) : Calls Try.prog 117 #[.int .i64 n, .int .i64 m] w fun e w' => e = .returned (.bool false) ∧ w = w' := by
  have h1 : decide (n ≤ m) = false := by simp; omega
  go_enter Try.func117, Try.ntmps117
  go_wp2
  go_ret
  exact ⟨rfl, rfl⟩
theorem powOf_mid (n m : Int) (h0 : 1 ≤ n) (h : n ≤ m) (hm : m ≤ 64) (w : World) : Calls Try.prog 117 #[.int .i64 n, .int .i64 m] w fun e w' => e = .returned (.bool (pow64 n)) ∧ w = w' := by
  have h1 : decide (n ≥ 1) = true := by simp; omega
  have h2 : decide (n ≤ m) = true := by simp; omega
  have h3 : IntKind.i64.wrap (n - 1) = n - 1 := IntWalk.i64_in _ (by omega)
  have h4 : (bits .and .i64 n (n - 1) == 0) = pow64 n := by
    have := and_prev ⟨n.toNat, by omega⟩
    simp only [Int.toNat_of_nonneg (show 0 ≤ n by omega)] at this
    rw [this, show (n == 0) = false by simp; omega, Bool.or_false]
  go_enter Try.func117, Try.ntmps117
  go_wp2
  go_ret
  exact ⟨by rw [← h4]; rfl, rfl⟩
theorem powOf_any (n m : Int) (hm : m ≤ 64) (w : World) : Calls Try.prog 117 #[.int .i64 n, .int .i64 m] w fun e w' => e = .returned (.bool (decide (n ≤ m) && pow64 n)) ∧ w = w' := by
  rcases Int.lt_or_le n 1 with h | h
  · rw [pow64_not n (.inl h), Bool.and_false]; exact powOf_lo n m h w
  · rcases Int.lt_or_le m n with h' | h'
    · rw [show decide (n ≤ m) = false by simp; omega, Bool.false_and]; exact powOf_hi n m h h' w
    · rw [show decide (n ≤ m) = true by simp; omega, Bool.true_and]; exact powOf_mid n m h h' hm w

theorem side_not (n : Int) (h : n < 1 ∨ 8 < n) : side n = false := by
  unfold side
  simp only [Bool.or_eq_false_iff, beq_eq_false_iff_ne]
  omega

theorem isSide_any (n : Int) (w : World) : Calls Try.prog 65 #[.int .i64 n] w fun e w' => e = .returned (.bool (side n)) ∧ w = w' := by
  have hs : (decide (n ≤ 8) && pow64 n) = side n := by
    rcases Int.lt_or_le n 1 with h | h
    · rw [pow64_not n (.inl h), side_not n (.inl h), Bool.and_false]
    · rcases Int.lt_or_le 8 n with h' | h'
      · rw [show decide (n ≤ 8) = false by simp; omega, side_not n (.inr h'), Bool.false_and]
      · rw [show decide (n ≤ 8) = true by simp; omega, Bool.true_and]
        unfold pow64 side
        rw [show (n == 16) = false by simp; omega, show (n == 32) = false by simp; omega, show (n == 64) = false by simp; omega]
        simp only [Bool.or_false]
  have HC := powOf_any n 8 (by omega) w
  rw [hs] at HC
  go_enter Try.func65, Try.ntmps65
  go_wp2_with fail
  refine HC.mono ?_
  rintro e w' ⟨rfl, rfl⟩
  go_wp2
  go_ret
  exact ⟨rfl, rfl⟩

theorem l01Side_no (n : Int) (h : side n = false) (w : World) : Calls Try.prog 62 #[.int .i64 n] w fun e w' => e = .returned (.bool false) ∧ w = w' := by
  unfold side at h
  simp only [Bool.or_eq_false_iff] at h
  obtain ⟨⟨⟨h1, h2⟩, h3⟩, h4⟩ := h
  go_enter Try.func62, Try.ntmps62
  go_wp2
  go_ret
  exact ⟨rfl, rfl⟩
theorem side_yes (n : Int) (h : side n = true) : n = 1 ∨ n = 2 ∨ n = 4 ∨ n = 8 := by
  unfold side at h
  simp only [Bool.or_eq_true, beq_iff_eq] at h
  omega
theorem l01Side_any (n : Int) (w : World) : Calls Try.prog 62 #[.int .i64 n] w fun e w' => e = .returned (.bool (side n)) ∧ w = w' := by
  cases h : side n
  · exact l01Side_no n h w
  · rcases side_yes n h with rfl | rfl | rfl | rfl
    · exact calls_of (fun _ => false) (known_none _) 99 (fun cs => by kernel_rfl)
    · exact calls_of (fun _ => false) (known_none _) 99 (fun cs => by kernel_rfl)
    · exact calls_of (fun _ => false) (known_none _) 99 (fun cs => by kernel_rfl)
    · exact calls_of (fun _ => false) (known_none _) 99 (fun cs => by kernel_rfl)

end Go.Proofs.Ytjmfffgddmnkmab

namespace Go.Proofs.Ytjmfffgddmnkmab
open Go Go.RowKit

/-- 64 finite complex numbers -/
def Cells (zs : Array Value) : Prop := zs.size = 64 ∧ ∀ k, k < 64 → ∃ x y, fin x = true ∧ fin y = true ∧ zs[k]? = some (.complex .f32 x y)

theorem size35 : (Try.prog.info? 28).map (·.size) = some 64 := by kernel_rfl
theorem info37 : (Try.prog.info? 30).map (fun i => (i.zero, i.size)) = some (some (.agg (pic 0 (Array.replicate 64 (.complex .f32 0 0)))), 65) := by kernel_rfl

theorem isComplex_yes (x y : Nat) (hx : fin x = true) (hy : fin y = true) (w : World) : Calls Try.prog 119 #[.complex .f32 x y] w fun e w' => e = .returned (.bool true) ∧ ∃ n, w' = w.drewN n := by
  have HX := Lib.hid (finite_yes x hx)
  have HY := Lib.hid (finite_yes y hy)
  clear hx hy
  go_enter Try.func119, Try.ntmps119
  go_wp2_with fail
  refine (HX.out _).mono ?_
  rintro e w1 ⟨rfl, n1, rfl⟩
  go_wp2_with fail
  refine (HY.out _).mono ?_
  rintro e w1 ⟨rfl, n2, rfl⟩
  go_wp2
  go_ret
  exact ⟨rfl, _, rfl⟩

/-- within -64 and 64 -/
def within (k : Int) : Bool := decide (-64 ≤ k) && decide (k ≤ 64)

theorem within_any (k : Int) (w : World) : Calls Try.prog 126 #[.int .i64 k, .int .i64 64] w fun e w' => e = .returned (.bool (within k)) ∧ w = w' := by
  by_cases h1 : -64 ≤ k
  · by_cases h2 : k ≤ 64
    · have e : within k = true := by simp [within, h1, h2]
      rw [e]
      go_enter Try.func126, Try.ntmps126
      go_wp2
      go_ret
      exact ⟨rfl, rfl⟩
    · have e : within k = false := by simp [within, h2]
      rw [e]
      go_enter Try.func126, Try.ntmps126
      go_wp2
      go_ret
      exact ⟨rfl, rfl⟩
  · have e : within k = false := by simp [within, h1]
    rw [e]
    go_enter Try.func126, Try.ntmps126
    go_wp2
    go_ret
    exact ⟨rfl, rfl⟩

theorem l01In_any (k : Int) (w : World) : Calls Try.prog 63 #[.int .i64 k, .int .i64 (-64), .int .i64 64] w fun e w' => e = .returned (.bool (within k)) ∧ w = w' := by
  by_cases h1 : -64 ≤ k
  · by_cases h2 : k ≤ 64
    · have e : within k = true := by simp [within, h1, h2]
      rw [e]
      go_enter Try.func63, Try.ntmps63
      go_wp2
      go_ret
      exact ⟨rfl, rfl⟩
    · have e : within k = false := by simp [within, h2]
      rw [e]
      go_enter Try.func63, Try.ntmps63
      go_wp2
      go_ret
      exact ⟨rfl, rfl⟩
  · have e : within k = false := by simp [within, h1]
    rw [e]
    go_enter Try.func63, Try.ntmps63
    go_wp2
    go_ret
    exact ⟨rfl, rfl⟩

end Go.Proofs.Ytjmfffgddmnkmab
