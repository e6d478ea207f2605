/- Maps unwrapped along rows, as lists of whole numbers: how the list grows, and how great its numbers are. Condition: none. -/
import Derived.Test.YtjmfffgddmnkmacM4
namespace Go.Proofs.Ytjmfffgddmnkmac
open Go Go.RowKit

/-- the height of the cell k, from those of the cells before it -/
def unwStep (m : Nat) (L U : List Int) (k : Nat) : Int :=
  if k = 0 then L.getD 0 0 else if k % m = 0 then U.getD (k - m) 0 + lessH (L.getD (k - m) 0) (L.getD k 0) else U.getD (k - 1) 0 + lessH (L.getD (k - 1) 0) (L.getD k 0)
/-- the first k heights -/
def unw (m : Nat) (L : List Int) : Nat → List Int
  | 0 => []
  | k + 1 => unw m L k ++ [unwStep m L (unw m L k) k]

theorem unw_len (m : Nat) (L : List Int) : ∀ k, (unw m L k).length = k
  | 0 => rfl
  | k + 1 => by rw [unw, List.length_append, unw_len m L k]; rfl

theorem getD_append_one (U : List Int) (x : Int) (i : Nat) : (U ++ [x]).getD i 0 = if i < U.length then U.getD i 0 else if i = U.length then x else 0 := by
  by_cases h : i < U.length
  · rw [if_pos h, List.getD_eq_getElem?_getD, List.getElem?_append_left h, ← List.getD_eq_getElem?_getD]
  · rw [if_neg h, List.getD_eq_getElem?_getD, List.getElem?_append_right (by omega)]
    by_cases e : i = U.length
    · rw [if_pos e, e, Nat.sub_self]; rfl
    · rw [if_neg e]
      obtain ⟨j, hj⟩ : ∃ j, i - U.length = j + 1 := ⟨i - U.length - 1, by omega⟩
      rw [hj]; rfl

theorem unw_bound (m : Nat) (L : List Int) (hL : ∀ i, 0 ≤ L.getD i 0 ∧ L.getD i 0 ≤ 63) : ∀ k i : Nat, -(64 * (k : Int)) ≤ (unw m L k).getD i 0 ∧ (unw m L k).getD i 0 ≤ 64 * (k : Int)
  | 0, i => by unfold unw; simp
  | k + 1, i => by
    have ih := unw_bound m L hL k
    have hs : -(64 * ((k : Int) + 1)) ≤ unwStep m L (unw m L k) k ∧ unwStep m L (unw m L k) k ≤ 64 * ((k : Int) + 1) := by
      unfold unwStep
      split
      · have := hL 0; omega
      · split
        · have h1 := ih (k - m)
          have h2 := lessH_range (L.getD (k - m) 0) (L.getD k 0)
          omega
        · have h1 := ih (k - 1)
          have h2 := lessH_range (L.getD (k - 1) 0) (L.getD k 0)
          omega
    have hi := ih i
    rw [unw, getD_append_one]
    push_cast
    split
    · omega
    · split
      · exact hs
      · omega

theorem isW_getD {L : List Int} (h : L.all isW = true) (i : Nat) : 0 ≤ L.getD i 0 ∧ L.getD i 0 ≤ 63 := by
  by_cases hi : i < L.length
  · exact isW_all h i hi
  · rw [List.getD_eq_getElem?_getD, List.getElem?_eq_none (by omega)]
    decide

theorem unwStep_zero (m : Nat) (L U : List Int) : unwStep m L U 0 = L.getD 0 0 := rfl
theorem unwStep_up (m : Nat) (L U : List Int) (k : Nat) (h0 : k ≠ 0) (h : k % m = 0) : unwStep m L U k = U.getD (k - m) 0 + lessH (L.getD (k - m) 0) (L.getD k 0) := by
  unfold unwStep; rw [if_neg h0, if_pos h]
theorem unwStep_left (m : Nat) (L U : List Int) (k : Nat) (h0 : k ≠ 0) (h : k % m ≠ 0) : unwStep m L U k = U.getD (k - 1) 0 + lessH (L.getD (k - 1) 0) (L.getD k 0) := by
  unfold unwStep; rw [if_neg h0, if_neg h]

/-- the answer that is asked for -/
def resUr (n : Int) (L : List Int) : List Int := if codeW n L = 0 then unw n.toNat L L.length else []
theorem codeW_zero {n : Int} {L : List Int} (h : codeW n L = 0) : isMap n L = true ∧ L.all isW = true := by
  unfold codeW at h
  split at h
  · rename_i h1
    split at h
    · rename_i h2; exact ⟨h1, h2⟩
    · omega
  · omega
theorem codeW_kinds (n : Int) (L : List Int) : codeW n L = 0 ∨ codeW n L = 1 ∨ codeW n L = 5 := by
  unfold codeW
  split
  · split
    · exact .inl rfl
    · exact .inr (.inr rfl)
  · exact .inr (.inl rfl)
theorem map_le {n : Int} {L : List Int} (h : isMap n L = true) : L.length ≤ 64 := by
  obtain ⟨m, _, _, h1, h2⟩ := isMap_nat h
  rw [h2]; exact Nat.mul_le_mul h1 h1
theorem resUr_len (n : Int) (L : List Int) : (resUr n L).length ≤ 1048576 := by
  unfold resUr
  split
  · rename_i h
    rw [unw_len]
    have := map_le (codeW_zero h).1
    omega
  · exact Nat.zero_le _

end Go.Proofs.Ytjmfffgddmnkmac
