/- The program's and the model's ways to ask whether a number is a side answer alike. Condition: none. What is a complex number, and what lies within 64, in the program's ways to ask. Condition: none. Whether a complex number is one, in both ways to ask. Condition: none. -/
import Derived.Test.YtdmeinaonliphabFinW
namespace Go.Proofs.Ytdmeinaonliphab
open Go Go.RowKit

theorem isSide_lo (n : Int) (h : n < 1) (w : World) : Calls Try.prog 54 #[.int .i64 n] w fun e w' => e = .returned (.bool false) ∧ w = w' := by
  have h1 : decide (n ≥ 1) = false := by simp; omega
  go_enter Try.func54, Try.ntmps54
  go_wp2
  go_ret
  exact ⟨rfl, rfl⟩
theorem isSide_hi (n : Int) (h : 8 < n) (w : World) : Calls Try.prog 54 #[.int .i64 n] w fun e w' => e = .returned (.bool false) ∧ w = w' := by
  have h0 : 1 ≤ n := by omega
  have h1 : decide (n ≤ 8) = false := by simp; omega
  go_enter Try.func54, Try.ntmps54
  go_wp2
  go_ret
  exact ⟨rfl, rfl⟩
theorem isSide_mid (n : Nat) (h : n < 8) (w : World) : Calls Try.prog 54 #[.int .i64 (n + 1 : Nat)] w fun e w' => e = .returned (.bool (side (n + 1 : Nat))) ∧ w = w' :=
  match n, h with
  | 0, _ => calls_of (fun _ => false) (known_none _) 99 (fun cs => by kernel_rfl)
  | 1, _ => calls_of (fun _ => false) (known_none _) 99 (fun cs => by kernel_rfl)
  | 2, _ => calls_of (fun _ => false) (known_none _) 99 (fun cs => by kernel_rfl)
  | 3, _ => calls_of (fun _ => false) (known_none _) 99 (fun cs => by kernel_rfl)
  | 4, _ => calls_of (fun _ => false) (known_none _) 99 (fun cs => by kernel_rfl)
  | 5, _ => calls_of (fun _ => false) (known_none _) 99 (fun cs => by kernel_rfl)
  | 6, _ => calls_of (fun _ => false) (known_none _) 99 (fun cs => by kernel_rfl)
  | 7, _ => calls_of (fun _ => false) (known_none _) 99 (fun cs => by kernel_rfl)
  | n + 8, h => absurd h (by omega)

theorem side_not (n : Int) (h : n < 1 ∨ 8 < n) : side n = false := by
  unfold side
  simp only [Bool.or_eq_false_iff, beq_eq_false_iff_ne]
  omega

theorem isSide_any (n : Int) (w : World) : Calls Try.prog 54 #[.int .i64 n] w fun e w' => e = .returned (.bool (side n)) ∧ w = w' := by
  rcases Int.lt_or_le n 1 with h | h
  · rw [side_not n (.inl h)]; exact isSide_lo n h w
  · rcases Int.lt_or_le 8 n with h' | h'
    · rw [side_not n (.inr h')]; exact isSide_hi n h' w
    · obtain ⟨k, rfl⟩ : ∃ k : Nat, n = (k + 1 : Nat) := ⟨(n - 1).toNat, by omega⟩
      exact isSide_mid k (by omega) w

theorem l01Side_no (n : Int) (h : side n = false) (w : World) : Calls Try.prog 42 #[.int .i64 n] w fun e w' => e = .returned (.bool false) ∧ w = w' := by
  unfold side at h
  simp only [Bool.or_eq_false_iff] at h
  obtain ⟨⟨⟨h1, h2⟩, h3⟩, h4⟩ := h
  go_enter Try.func42, Try.ntmps42
  go_wp2
  go_ret
  exact ⟨rfl, rfl⟩
theorem side_yes (n : Int) (h : side n = true) : n = 1 ∨ n = 2 ∨ n = 4 ∨ n = 8 := by
  unfold side at h
  simp only [Bool.or_eq_true, beq_iff_eq] at h
  omega
theorem l01Side_any (n : Int) (w : World) : Calls Try.prog 42 #[.int .i64 n] w fun e w' => e = .returned (.bool (side n)) ∧ w = w' := by
  cases h : side n
  · exact l01Side_no n h w
  · rcases side_yes n h with rfl | rfl | rfl | rfl
    · exact calls_of (fun _ => false) (known_none _) 99 (fun cs => by kernel_rfl)
    · exact calls_of (fun _ => false) (known_none _) 99 (fun cs => by kernel_rfl)
    · exact calls_of (fun _ => false) (known_none _) 99 (fun cs => by kernel_rfl)
    · exact calls_of (fun _ => false) (known_none _) 99 (fun cs => by kernel_rfl)

end Go.Proofs.Ytdmeinaonliphab

namespace Go.Proofs.Ytdmeinaonliphab
open Go Go.RowKit

/-- 64 finite complex numbers -/
def Cells (zs : Array Value) : Prop := zs.size = 64 ∧ ∀ k, k < 64 → ∃ x y, fin x = true ∧ fin y = true ∧ zs[k]? = some (.complex .f32 x y)

theorem size35 : (Try.prog.info? 25).map (·.size) = some 64 := by kernel_rfl
theorem info37 : (Try.prog.info? 27).map (fun i => (i.zero, i.size)) = some (some (.agg (pic 0 (Array.replicate 64 (.complex .f32 0 0)))), 65) := by kernel_rfl

theorem isComplex_yes (x y : Nat) (hx : fin x = true) (hy : fin y = true) (w : World) : Calls Try.prog 57 #[.complex .f32 x y] w fun e w' => e = .returned (.bool true) ∧ ∃ n, w' = w.drewN n := by
  have HX := Lib.hid (finite_yes x hx)
  have HY := Lib.hid (finite_yes y hy)
  clear hx hy
  go_enter Try.func57, Try.ntmps57
  go_wp2_with fail
  refine (HX.out _).mono ?_
  rintro e w1 ⟨rfl, n1, rfl⟩
  go_wp2_with fail
  refine (HY.out _).mono ?_
  rintro e w1 ⟨rfl, n2, rfl⟩
  go_wp2
  go_ret
  exact ⟨rfl, _, rfl⟩

/-- within -64 and 64 -/
def within (k : Int) : Bool := decide (-64 ≤ k) && decide (k ≤ 64)

theorem l01In_any (k : Int) (w : World) : Calls Try.prog 52 #[.int .i64 k, .int .i64 (-64), .int .i64 64] w fun e w' => e = .returned (.bool (within k)) ∧ w = w' := by
  by_cases h1 : -64 ≤ k
  · by_cases h2 : k ≤ 64
    · have e : within k = true := by simp [within, h1, h2]
      rw [e]
      go_enter Try.func52, Try.ntmps52
      go_wp2
      go_ret
      exact ⟨rfl, rfl⟩
    · have e : within k = false := by simp [within, h2]
      rw [e]
      go_enter Try.func52, Try.ntmps52
      go_wp2
      go_ret
      exact ⟨rfl, rfl⟩
  · have e : within k = false := by simp [within, h1]
    rw [e]
    go_enter Try.func52, Try.ntmps52
    go_wp2
    go_ret
    exact ⟨rfl, rfl⟩

end Go.Proofs.Ytdmeinaonliphab

namespace Go.Proofs.Ytdmeinaonliphab
open Go Go.RowKit

set_option maxRecDepth 100000 in
set_option maxHeartbeats 400000 in
theorem isComplex_any (x y : Nat) (w : World) : Calls Try.prog 57 #[.complex .f32 x y] w fun e w' => e = .returned (.bool (fin x && fin y)) ∧ ∃ n, w' = w.drewN n := by
  have HX := Lib.hid (finite_any x)
  have HY := Lib.hid (finite_any y)
  cases hx : fin x <;> rw [hx] at HX
  · go_enter Try.func57, Try.ntmps57
    go_wp2_with fail
    refine (HX.out _).mono ?_
    rintro e w1 ⟨rfl, n1, rfl⟩
    go_wp2
    go_ret
    exact ⟨rfl, _, rfl⟩
  · go_enter Try.func57, Try.ntmps57
    go_wp2_with fail
    refine (HX.out _).mono ?_
    rintro e w1 ⟨rfl, n1, rfl⟩
    go_wp2_with fail
    refine (HY.out _).mono ?_
    rintro e w1 ⟨rfl, n2, rfl⟩
    go_wp2
    go_ret
    exact ⟨by simp, _, rfl⟩

set_option maxRecDepth 100000 in
set_option maxHeartbeats 400000 in
theorem whole_any (x y : Nat) (w : World) : Calls Try.prog 63 #[.complex .f32 x y] w fun e w' => e = .returned (.bool (fin x && fin y)) ∧ ∃ n, w' = w.drewN n := by
  have HX := Lib.hid (fine_any x)
  have HY := Lib.hid (fine_any y)
  cases hx : fin x <;> rw [hx] at HX
  · go_enter Try.func63, Try.ntmps63
    go_wp2_with fail
    refine (HX.out _).mono ?_
    rintro e w1 ⟨rfl, n1, rfl⟩
    go_wp2
    go_ret
    exact ⟨rfl, _, rfl⟩
  · go_enter Try.func63, Try.ntmps63
    go_wp2_with fail
    refine (HX.out _).mono ?_
    rintro e w1 ⟨rfl, n1, rfl⟩
    go_wp2_with fail
    refine (HY.out _).mono ?_
    rintro e w1 ⟨rfl, n2, rfl⟩
    go_wp2
    go_ret
    exact ⟨by simp, _, rfl⟩
end Go.Proofs.Ytdmeinaonliphab
