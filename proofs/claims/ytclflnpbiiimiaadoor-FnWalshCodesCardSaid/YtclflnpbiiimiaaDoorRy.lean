/- Lists of sums with an early end, out of what a list of told numbers holds; two lists side by side. Condition: none. -/
import Derived.Test.YtclflnpbiiimiaaDoorM23
import Derived.Test.YtclflnpbiiimiaaDoorRh
namespace Go.Proofs.YtclflnpbiiimiaaDoor
open Go Go.RowKit

theorem rows_some {n : Nat} {F : Nat → Option Nat} {L : List Nat} (hl : L.length = n) (h : ∀ k, k < n → SR (F k) (L.getD k 0)) (hf : L.all fin = true) : rowsTo F n = some L := by
  have : ∀ k, k ≤ n → rowsTo F k = some (L.take k) := by
    intro k
    induction k with
    | zero => intro _; simp [rowsTo]
    | succ k ih =>
      intro hk
      rw [take_succ_getDF L k (by omega)]
      refine rows_step (ih (by omega)) ?_
      rcases h k (by omega) with ⟨h1, _⟩ | ⟨_, h2⟩
      · exact h1
      · rw [all_at hf k (by omega)] at h2; cases h2
  have := this n (Nat.le_refl _)
  rwa [← hl, List.take_length, hl] at this
theorem rows_nil {n : Nat} {F : Nat → Option Nat} {L : List Nat} (hl : L.length = n) (h : ∀ k, k < n → SR (F k) (L.getD k 0)) (hf : L.all fin = false) : rowsTo F n = none := by
  obtain ⟨k, hk, hb⟩ : ∃ k, k < n ∧ fin (L.getD k 0) = false := by
    rw [List.all_eq_false] at hf
    obtain ⟨x, hx, hb⟩ := hf
    obtain ⟨q, hq, rfl⟩ := List.getElem_of_mem hx
    refine ⟨q, by omega, ?_⟩
    rw [List.getD_eq_getElem?_getD, List.getElem?_eq_getElem hq]
    simpa using hb
  rcases h k hk with ⟨_, h2⟩ | ⟨h1, _⟩
  · rw [hb] at h2; cases h2
  · exact rows_end h1 hk

/-- what a list of told sums answers is what is asked -/
theorem told_ans {n : Nat} {F : Nat → Option Nat} {B : Nat} {L : List Nat} {e : Ending} {w' : World} (hl : L.length = n) (h : ∀ k, k < n → SR (F k) (L.getD k 0))
    (he : (L.all fin = true ∧ ∃ v, e = .returned (.tuple #[v, .int .i64 0]) ∧ OwnF B v L w') ∨ (L.all fin = false ∧ e = .returned (.tuple #[.slice none 0 0, .int .i64 3]))) :
    ∃ v, e = .returned (.tuple #[v, .int .i64 (ansC (rowsTo F n))]) ∧ OwnF B v (ansL (rowsTo F n)) w' := by
  rcases he with ⟨h1, v, rfl, hO⟩ | ⟨h1, rfl⟩
  · rw [rows_some hl h h1]
    exact ⟨v, rfl, hO⟩
  · rw [rows_nil hl h h1]
    exact ⟨_, rfl, OwnF.zero _ _⟩

theorem rows_two {u : World} {g cA cB : Nat} {a b : Option Addr} {A B : List Nat} {T : TypeId} (hg : u.heap[g]? = some (.cells #[.slice a A.length cA, .slice b B.length cB] T (0, 0))) (hA : CameF a A.length A u) (hB : CameF b B.length B u)
    (lA : A.length ≤ 1048576) (lB : B.length ≤ 1048576) : Rows g 2 [A, B] u := by
  refine ⟨rfl, fun i hi => ?_⟩
  match i, hi with
  | 0, _ => exact ⟨a, cA, by rw [cell_of_row _ _ _ _ _ _ hg]; rfl, hA, lA⟩
  | 1, _ => exact ⟨b, cB, by rw [cell_of_row _ _ _ _ _ _ hg]; rfl, hB, lB⟩
theorem rows_one {u : World} {g cA : Nat} {a : Option Addr} {A : List Nat} {T : TypeId} (hg : u.heap[g]? = some (.cells #[.slice a A.length cA] T (0, 0))) (hA : CameF a A.length A u) (lA : A.length ≤ 1048576) : Rows g 1 [A] u := by
  refine ⟨rfl, fun i hi => ?_⟩
  match i, hi with
  | 0, _ => exact ⟨a, cA, by rw [cell_of_row _ _ _ _ _ _ hg]; rfl, hA, lA⟩

end Go.Proofs.YtclflnpbiiimiaaDoor
