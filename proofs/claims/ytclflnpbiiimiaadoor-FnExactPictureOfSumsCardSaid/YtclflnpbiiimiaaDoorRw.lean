/- The program's code of Walsh: the iterator, the list, the function. Condition: none. -/
import Derived.Test.YtclflnpbiiimiaaDoorRg
import Derived.Test.YtclflnpbiiimiaaDoorM12
import Derived.Test.YtclflnpbiiimiaaDoorSide
namespace Go.Proofs.YtclflnpbiiimiaaDoor
open Go Go.RowKit Go.Shelf Ieee

theorem list_of {L : List Nat} {n : Nat} {F : Nat → Nat} (hl : L.length = n) (h : ∀ j, j < n → L.getD j 0 = F j) : L = (List.range n).map F := by
  apply List.ext_getElem?
  intro j
  by_cases hj : j < n
  · have := h j hj
    rw [List.getD_eq_getElem?_getD] at this
    rw [List.getElem?_map, List.getElem?_range hj]
    rw [List.getElem?_eq_getElem (by omega)] at this ⊢
    simpa using this
  · rw [List.getElem?_eq_none (by omega), List.getElem?_eq_none (by simp; omega)]

theorem codeLen_any (n : Int) (w : World) : Calls Tryd.prog 35 #[.int .i64 n] w fun e w' => e = .returned (.bool (lenI n)) ∧ w = w' := by
  have hs : (decide (n ≤ 64) && pow64 n) = lenI n := by
    rcases Int.lt_or_le 64 n with h | h
    · rw [show decide (n ≤ 64) = false by simp; omega, Bool.false_and]
      exact (pow64_not n (.inr h)).symm
    · rw [show decide (n ≤ 64) = true by simp; omega, Bool.true_and]
      rfl
  have HC := powOf_any n 64 (by omega) w
  rw [hs] at HC
  go_enter Tryd.func35, Tryd.ntmps35
  go_wp2_with fail
  refine HC.mono ?_
  rintro e w' ⟨rfl, rfl⟩
  go_wp2
  go_ret
  exact ⟨rfl, rfl⟩

/-- how many digits are 1 -/
def pop (q : Nat) : Nat := q % 2 + q / 2 % 2 + q / 4 % 2 + q / 8 % 2 + q / 16 % 2 + q / 32 % 2
theorem ones_any (q : Nat) (h : q < 64) (w : World) : Calls Tryd.prog 68 #[.int .u64 (q : Int)] w fun e w' => e = .returned (.int .i64 (pop q : Nat)) ∧ w = w' :=
  match q, h with
  | 0, _ => calls_of (fun _ => false) (known_none _) 99 (fun cs => by kernel_rfl)
  | 1, _ => calls_of (fun _ => false) (known_none _) 99 (fun cs => by kernel_rfl)
  | 2, _ => calls_of (fun _ => false) (known_none _) 99 (fun cs => by kernel_rfl)
  | 3, _ => calls_of (fun _ => false) (known_none _) 99 (fun cs => by kernel_rfl)
  | 4, _ => calls_of (fun _ => false) (known_none _) 99 (fun cs => by kernel_rfl)
  | 5, _ => calls_of (fun _ => false) (known_none _) 99 (fun cs => by kernel_rfl)
  | 6, _ => calls_of (fun _ => false) (known_none _) 99 (fun cs => by kernel_rfl)
  | 7, _ => calls_of (fun _ => false) (known_none _) 99 (fun cs => by kernel_rfl)
  | 8, _ => calls_of (fun _ => false) (known_none _) 99 (fun cs => by kernel_rfl)
  | 9, _ => calls_of (fun _ => false) (known_none _) 99 (fun cs => by kernel_rfl)
  | 10, _ => calls_of (fun _ => false) (known_none _) 99 (fun cs => by kernel_rfl)
  | 11, _ => calls_of (fun _ => false) (known_none _) 99 (fun cs => by kernel_rfl)
  | 12, _ => calls_of (fun _ => false) (known_none _) 99 (fun cs => by kernel_rfl)
  | 13, _ => calls_of (fun _ => false) (known_none _) 99 (fun cs => by kernel_rfl)
  | 14, _ => calls_of (fun _ => false) (known_none _) 99 (fun cs => by kernel_rfl)
  | 15, _ => calls_of (fun _ => false) (known_none _) 99 (fun cs => by kernel_rfl)
  | 16, _ => calls_of (fun _ => false) (known_none _) 99 (fun cs => by kernel_rfl)
  | 17, _ => calls_of (fun _ => false) (known_none _) 99 (fun cs => by kernel_rfl)
  | 18, _ => calls_of (fun _ => false) (known_none _) 99 (fun cs => by kernel_rfl)
  | 19, _ => calls_of (fun _ => false) (known_none _) 99 (fun cs => by kernel_rfl)
  | 20, _ => calls_of (fun _ => false) (known_none _) 99 (fun cs => by kernel_rfl)
  | 21, _ => calls_of (fun _ => false) (known_none _) 99 (fun cs => by kernel_rfl)
  | 22, _ => calls_of (fun _ => false) (known_none _) 99 (fun cs => by kernel_rfl)
  | 23, _ => calls_of (fun _ => false) (known_none _) 99 (fun cs => by kernel_rfl)
  | 24, _ => calls_of (fun _ => false) (known_none _) 99 (fun cs => by kernel_rfl)
  | 25, _ => calls_of (fun _ => false) (known_none _) 99 (fun cs => by kernel_rfl)
  | 26, _ => calls_of (fun _ => false) (known_none _) 99 (fun cs => by kernel_rfl)
  | 27, _ => calls_of (fun _ => false) (known_none _) 99 (fun cs => by kernel_rfl)
  | 28, _ => calls_of (fun _ => false) (known_none _) 99 (fun cs => by kernel_rfl)
  | 29, _ => calls_of (fun _ => false) (known_none _) 99 (fun cs => by kernel_rfl)
  | 30, _ => calls_of (fun _ => false) (known_none _) 99 (fun cs => by kernel_rfl)
  | 31, _ => calls_of (fun _ => false) (known_none _) 99 (fun cs => by kernel_rfl)
  | 32, _ => calls_of (fun _ => false) (known_none _) 99 (fun cs => by kernel_rfl)
  | 33, _ => calls_of (fun _ => false) (known_none _) 99 (fun cs => by kernel_rfl)
  | 34, _ => calls_of (fun _ => false) (known_none _) 99 (fun cs => by kernel_rfl)
  | 35, _ => calls_of (fun _ => false) (known_none _) 99 (fun cs => by kernel_rfl)
  | 36, _ => calls_of (fun _ => false) (known_none _) 99 (fun cs => by kernel_rfl)
  | 37, _ => calls_of (fun _ => false) (known_none _) 99 (fun cs => by kernel_rfl)
  | 38, _ => calls_of (fun _ => false) (known_none _) 99 (fun cs => by kernel_rfl)
  | 39, _ => calls_of (fun _ => false) (known_none _) 99 (fun cs => by kernel_rfl)
  | 40, _ => calls_of (fun _ => false) (known_none _) 99 (fun cs => by kernel_rfl)
  | 41, _ => calls_of (fun _ => false) (known_none _) 99 (fun cs => by kernel_rfl)
  | 42, _ => calls_of (fun _ => false) (known_none _) 99 (fun cs => by kernel_rfl)
  | 43, _ => calls_of (fun _ => false) (known_none _) 99 (fun cs => by kernel_rfl)
  | 44, _ => calls_of (fun _ => false) (known_none _) 99 (fun cs => by kernel_rfl)
  | 45, _ => calls_of (fun _ => false) (known_none _) 99 (fun cs => by kernel_rfl)
  | 46, _ => calls_of (fun _ => false) (known_none _) 99 (fun cs => by kernel_rfl)
  | 47, _ => calls_of (fun _ => false) (known_none _) 99 (fun cs => by kernel_rfl)
  | 48, _ => calls_of (fun _ => false) (known_none _) 99 (fun cs => by kernel_rfl)
  | 49, _ => calls_of (fun _ => false) (known_none _) 99 (fun cs => by kernel_rfl)
  | 50, _ => calls_of (fun _ => false) (known_none _) 99 (fun cs => by kernel_rfl)
  | 51, _ => calls_of (fun _ => false) (known_none _) 99 (fun cs => by kernel_rfl)
  | 52, _ => calls_of (fun _ => false) (known_none _) 99 (fun cs => by kernel_rfl)
  | 53, _ => calls_of (fun _ => false) (known_none _) 99 (fun cs => by kernel_rfl)
  | 54, _ => calls_of (fun _ => false) (known_none _) 99 (fun cs => by kernel_rfl)
  | 55, _ => calls_of (fun _ => false) (known_none _) 99 (fun cs => by kernel_rfl)
  | 56, _ => calls_of (fun _ => false) (known_none _) 99 (fun cs => by kernel_rfl)
  | 57, _ => calls_of (fun _ => false) (known_none _) 99 (fun cs => by kernel_rfl)
  | 58, _ => calls_of (fun _ => false) (known_none _) 99 (fun cs => by kernel_rfl)
  | 59, _ => calls_of (fun _ => false) (known_none _) 99 (fun cs => by kernel_rfl)
  | 60, _ => calls_of (fun _ => false) (known_none _) 99 (fun cs => by kernel_rfl)
  | 61, _ => calls_of (fun _ => false) (known_none _) 99 (fun cs => by kernel_rfl)
  | 62, _ => calls_of (fun _ => false) (known_none _) 99 (fun cs => by kernel_rfl)
  | 63, _ => calls_of (fun _ => false) (known_none _) 99 (fun cs => by kernel_rfl)
  | n + 64, h => absurd h (by omega)
theorem par_step (q : Nat) : par q = xor (q % 2 == 1) (par (q / 2)) := by
  rcases Nat.eq_zero_or_pos q with rfl | h
  · rw [par_zero]; rfl
  · exact par_pos q h
theorem bits_par : ∀ a b c d e f : Fin 2, ((a.val + b.val + c.val + d.val + e.val + f.val) % 2 == 0) = !(xor (a.val == 1) (xor (b.val == 1) (xor (c.val == 1) (xor (d.val == 1) (xor (e.val == 1) (xor (f.val == 1) false)))))) := by decide +kernel
theorem pop_par (q : Nat) (h : q < 64) : (pop q % 2 == 0) = !par q := by
  rw [par_step q, par_step (q / 2), par_step (q / 2 / 2), par_step (q / 2 / 2 / 2), par_step (q / 2 / 2 / 2 / 2), par_step (q / 2 / 2 / 2 / 2 / 2)]
  simp only [Nat.div_div_eq_div_mul, Nat.reduceMul]
  rw [show q / 64 = 0 by omega, par_zero]
  exact bits_par ⟨q % 2, by omega⟩ ⟨q / 2 % 2, by omega⟩ ⟨q / 4 % 2, by omega⟩ ⟨q / 8 % 2, by omega⟩ ⟨q / 16 % 2, by omega⟩ ⟨q / 32 % 2, by omega⟩

end Go.Proofs.YtclflnpbiiimiaaDoor
