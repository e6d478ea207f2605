/- Heights as whole numbers: what it is to wrap one, the wrapped difference of two, which lists are height maps. Condition: none. -/
import Derived.WalkKit
import Derived.Test.YtjmfffgddmnkmabSide
import Derived.Test.YtjmfffgddmnkmabOw
namespace Go.Proofs.Ytjmfffgddmnkmab
open Go Go.RowKit

/-- a height, wrapped -/
def wrapH (h : Int) : Int := h % 64
/-- the wrapped difference -/
def lessH (h k : Int) : Int := (k - h + 32) % 64 - 32
/-- a height -/
def isH (h : Int) : Bool := decide (-100000 ≤ h) && decide (h ≤ 100000)
/-- a wrapped height -/
def isW (h : Int) : Bool := decide (0 ≤ h) && decide (h ≤ 63)
/-- a height map of the side n -/
def isMap (n : Int) (L : List Int) : Bool := side n && (decide ((L.length : Int) = n * n) && L.all isH)
/-- the code of a map that has to be wrapped -/
def codeW (n : Int) (L : List Int) : Int := if isMap n L then (if L.all isW then 0 else 5) else 1

theorem wrapH_range (h : Int) : 0 ≤ wrapH h ∧ wrapH h ≤ 63 := by unfold wrapH; omega
theorem lessH_range (h k : Int) : -32 ≤ lessH h k ∧ lessH h k ≤ 31 := by unfold lessH; omega

theorem tmod_range (h : Int) : -64 < h.tmod 64 ∧ h.tmod 64 < 64 := by
  have h1 := Int.tmod_lt_of_pos h (show (0 : Int) < 64 by decide)
  have h2 := Int.lt_tmod_of_pos h (show (0 : Int) < 64 by decide)
  omega
theorem tmod_emod (h : Int) : (h.tmod 64 + 64) % 64 = h % 64 := by
  rcases Int.le_total 0 h with h0 | h0
  · rw [Int.tmod_eq_emod_of_nonneg h0]; omega
  · have e : h.tmod 64 = -((-h) % 64) := by
      rw [← Int.tmod_eq_emod_of_nonneg (by omega : 0 ≤ -h), Int.neg_tmod, Int.neg_neg]
    rw [e]; omega
theorem tmod_neg (h : Int) (h0 : h.tmod 64 < 0) : h.tmod 64 + 64 = h % 64 := by
  have h1 := tmod_range h
  have h2 := tmod_emod h
  rw [← h2]
  omega
theorem tmod_pos (h : Int) (h0 : 0 ≤ h.tmod 64) : h.tmod 64 = h % 64 := by
  have h1 := tmod_range h
  have h2 := tmod_emod h
  omega

theorem isMap_side {n : Int} {L : List Int} (h : isMap n L = true) : side n = true := by
  unfold isMap at h; simp only [Bool.and_eq_true] at h; exact h.1
theorem isMap_len {n : Int} {L : List Int} (h : isMap n L = true) : (L.length : Int) = n * n := by
  unfold isMap at h; simp only [Bool.and_eq_true, decide_eq_true_eq] at h; exact h.2.1
theorem isMap_all {n : Int} {L : List Int} (h : isMap n L = true) (i : Nat) (hi : i < L.length) : -100000 ≤ L.getD i 0 ∧ L.getD i 0 ≤ 100000 := by
  unfold isMap at h
  simp only [Bool.and_eq_true, List.all_eq_true] at h
  have h1 := h.2.2 (L.getD i 0) (by rw [List.getD_eq_getElem?_getD, List.getElem?_eq_getElem hi]; exact List.getElem_mem _)
  unfold isH at h1
  simp only [Bool.and_eq_true, decide_eq_true_eq] at h1
  exact h1
theorem isW_all {L : List Int} (h : L.all isW = true) (i : Nat) (hi : i < L.length) : 0 ≤ L.getD i 0 ∧ L.getD i 0 ≤ 63 := by
  simp only [List.all_eq_true] at h
  have h1 := h (L.getD i 0) (by rw [List.getD_eq_getElem?_getD, List.getElem?_eq_getElem hi]; exact List.getElem_mem _)
  unfold isW at h1
  simp only [Bool.and_eq_true, decide_eq_true_eq] at h1
  exact h1
/-- the side as a small whole number -/
theorem isMap_nat {n : Int} {L : List Int} (h : isMap n L = true) : ∃ m : Nat, n = m ∧ 1 ≤ m ∧ m ≤ 8 ∧ L.length = m * m := by
  have h1 := isMap_len h
  rcases side_yes n (isMap_side h) with rfl | rfl | rfl | rfl
  · exact ⟨1, rfl, by omega, by omega, by omega⟩
  · exact ⟨2, rfl, by omega, by omega, by omega⟩
  · exact ⟨4, rfl, by omega, by omega, by omega⟩
  · exact ⟨8, rfl, by omega, by omega, by omega⟩
theorem isMap_pos {n : Int} {L : List Int} (h : isMap n L = true) : 0 < L.length := by
  obtain ⟨m, _, h1, _, h2⟩ := isMap_nat h
  rw [h2]; exact Nat.mul_pos h1 h1

/-- how far a list is all of a kind -/
theorem all_take_succ (p : Int → Bool) (L : List Int) (k : Nat) (hk : k < L.length) : (L.take (k + 1)).all p = ((L.take k).all p && p (L.getD k 0)) := by
  rw [take_succ_getD L k hk, List.all_append, List.all_cons, List.all_nil, Bool.and_true]
theorem any_take_succ (p : Int → Bool) (L : List Int) (k : Nat) (hk : k < L.length) : (L.take (k + 1)).any p = ((L.take k).any p || p (L.getD k 0)) := by
  rw [take_succ_getD L k hk, List.any_append, List.any_cons, List.any_nil, Bool.or_false]
theorem all_false_of (p : Int → Bool) (L : List Int) (k : Nat) (hk : k < L.length) (h : p (L.getD k 0) = false) : L.all p = false := by
  cases h1 : L.all p
  · rfl
  · simp only [List.all_eq_true] at h1
    have := h1 (L.getD k 0) (by rw [List.getD_eq_getElem?_getD, List.getElem?_eq_getElem hk]; exact List.getElem_mem _)
    rw [this] at h; cases h
theorem any_true_of (p : Int → Bool) (L : List Int) (k : Nat) (hk : k < L.length) (h : p (L.getD k 0) = true) : L.any p = true := by
  simp only [List.any_eq_true]
  exact ⟨_, by rw [List.getD_eq_getElem?_getD, List.getElem?_eq_getElem hk]; exact List.getElem_mem _, h⟩

end Go.Proofs.Ytjmfffgddmnkmab
