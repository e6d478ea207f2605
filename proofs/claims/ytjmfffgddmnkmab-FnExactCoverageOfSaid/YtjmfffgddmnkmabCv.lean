/- Coverages of places and grids of places as lists of whole numbers, how they grow. Condition: none. -/
import Derived.WalkKit
import Derived.Test.YtjmfffgddmnkmabSide
import Derived.Test.YtjmfffgddmnkmabOw
namespace Go.Proofs.Ytjmfffgddmnkmab
open Go Go.RowKit

/-- one more at i -/
def bump (C : List Int) (i : Nat) : List Int := C.set i (C.getD i 0 + 1)
/-- the cell that the patch at r, c has at y, x -/
def cellAt (n r c y x : Nat) : Nat := n * ((r + y) % n) + (c + x) % n
/-- the first x cells of a row of a patch -/
def covIn (n r c y : Nat) (C : List Int) : Nat → List Int
  | 0 => C
  | x + 1 => bump (covIn n r c y C x) (cellAt n r c y x)
/-- the first y rows of a patch of the side m -/
def covMid (n m r c : Nat) (C : List Int) : Nat → List Int
  | 0 => C
  | y + 1 => covIn n r c y (covMid n m r c C y) m
/-- the first k places of F -/
def covAll (n m : Nat) (F : List Int) : Nat → List Int
  | 0 => List.replicate (n * n) 0
  | k + 1 => covMid n m (F.getD (k * 2) 0).toNat (F.getD (k * 2 + 1) 0).toNat (covAll n m F k) m

theorem bump_len (C : List Int) (i : Nat) : (bump C i).length = C.length := by simp [bump]
theorem covIn_len (n r c y : Nat) (C : List Int) (x : Nat) : (covIn n r c y C x).length = C.length := by
  induction x with
  | zero => rfl
  | succ x ih => rw [covIn, bump_len, ih]
theorem covMid_len (n m r c : Nat) (C : List Int) (y : Nat) : (covMid n m r c C y).length = C.length := by
  induction y with
  | zero => rfl
  | succ y ih => rw [covMid, covIn_len, ih]
theorem covAll_len (n m : Nat) (F : List Int) (k : Nat) : (covAll n m F k).length = n * n := by
  induction k with
  | zero => simp [covAll]
  | succ k ih => rw [covAll, covMid_len, ih]

theorem bump_get (C : List Int) (i j : Nat) (hi : i < C.length) : (bump C i).getD j 0 = if i = j then C.getD j 0 + 1 else C.getD j 0 := by
  unfold bump
  rw [List.getD_eq_getElem?_getD, List.getElem?_set]
  by_cases h : i = j
  · subst h
    rw [if_pos rfl, if_pos rfl, if_pos hi]
    rfl
  · rw [if_neg h, if_neg h, List.getD_eq_getElem?_getD]
theorem cellAt_lt (n r c y x : Nat) (hn : 0 < n) : cellAt n r c y x < n * n := by
  unfold cellAt
  have h1 := Nat.mod_lt (r + y) hn
  have h2 := Nat.mod_lt (c + x) hn
  calc n * ((r + y) % n) + (c + x) % n < n * ((r + y) % n) + n := by omega
    _ = n * ((r + y) % n + 1) := by rw [Nat.mul_add, Nat.mul_one]
    _ ≤ n * n := Nat.mul_le_mul_left n (by omega)

/-- all counts lie in 0 .. b -/
def Upto (C : List Int) (b : Nat) : Prop := ∀ i, 0 ≤ C.getD i 0 ∧ C.getD i 0 ≤ b
theorem Upto.bump {C : List Int} {b : Nat} (h : Upto C b) (i : Nat) : Upto (bump C i) (b + 1) := by
  intro j
  by_cases hi : i < C.length
  · rw [bump_get C i j hi]
    have := h j
    split <;> omega
  · have e : Proofs.Ytjmfffgddmnkmab.bump C i = C := by unfold Proofs.Ytjmfffgddmnkmab.bump; exact List.set_eq_of_length_le (by omega)
    rw [e]
    have := h j
    omega
theorem Upto.covIn {C : List Int} {b : Nat} (h : Upto C b) (n r c y x : Nat) : Upto (covIn n r c y C x) (b + x) := by
  induction x with
  | zero => exact h
  | succ x ih => exact ih.bump _
theorem Upto.covMid {C : List Int} {b : Nat} (h : Upto C b) (n m r c y : Nat) : Upto (covMid n m r c C y) (b + y * m) := by
  induction y with
  | zero => rw [Nat.zero_mul, Nat.add_zero]; exact h
  | succ y ih =>
    have := ih.covIn n r c y m
    rw [Nat.succ_mul, ← Nat.add_assoc]
    exact this
theorem upto_all (n m : Nat) (F : List Int) (k : Nat) : Upto (covAll n m F k) (k * (m * m)) := by
  induction k with
  | zero =>
    intro i
    rw [covAll, List.getD_eq_getElem?_getD, List.getElem?_replicate]
    split <;> simp
  | succ k ih =>
    have := ih.covMid n m (F.getD (k * 2) 0).toNat (F.getD (k * 2 + 1) 0).toNat m
    rw [Nat.succ_mul]
    exact this
theorem Upto.mono {C : List Int} {b d : Nat} (h : Upto C b) (hb : b ≤ d) : Upto C d := fun i => by have := h i; omega

/-- a place of the side n -/
def isAt (n r c : Int) : Bool := (decide (0 ≤ r) && decide (r ≤ n - 1)) && (decide (0 ≤ c) && decide (c ≤ n - 1))
/-- the first k places of F are places of the side n -/
def areAt (n : Int) (F : List Int) : Nat → Bool
  | 0 => true
  | k + 1 => areAt n F k && isAt n (F.getD (k * 2) 0) (F.getD (k * 2 + 1) 0)
theorem areAt_get {n : Int} {F : List Int} : ∀ {k : Nat}, areAt n F k = true → ∀ i, i < k → isAt n (F.getD (i * 2) 0) (F.getD (i * 2 + 1) 0) = true
  | 0, _, i, hi => by omega
  | k + 1, h, i, hi => by
    rw [areAt, Bool.and_eq_true] at h
    by_cases e : i = k
    · subst e; exact h.2
    · exact areAt_get h.1 i (by omega)
theorem areAt_no {n : Int} {F : List Int} {i : Nat} (h : isAt n (F.getD (i * 2) 0) (F.getD (i * 2 + 1) 0) = false) : ∀ {k : Nat}, i < k → areAt n F k = false
  | 0, hi => by omega
  | k + 1, hi => by
    rw [areAt]
    by_cases e : i = k
    · subst e; rw [h, Bool.and_false]
    · rw [areAt_no h (by omega : i < k), Bool.false_and]
theorem isAt_nat {n : Nat} {r c : Int} (h : isAt n r c = true) : ∃ a b : Nat, r = a ∧ c = b ∧ a < n ∧ b < n := by
  unfold isAt at h
  simp only [Bool.and_eq_true, decide_eq_true_eq] at h
  exact ⟨r.toNat, c.toNat, by omega, by omega, by omega, by omega⟩

/-- the patches of the side m at k places are in an object of the side n -/
def arePat (n m : Int) (k : Nat) (F : List Int) : Bool := side n && (side m && (decide (m ≤ n) && (decide (k ≤ 20) && areAt n F k)))

/-- the first x cells of the row y of a grid -/
def gIn (s : Int) (y : Nat) (G : List Int) : Nat → List Int
  | 0 => G
  | x + 1 => if (y : Int) % s = 0 ∧ (x : Int) % s = 0 then gIn s y G x ++ [(y : Int), (x : Int)] else gIn s y G x
def gOut (n : Nat) (s : Int) : Nat → List Int
  | 0 => []
  | y + 1 => gIn s y (gOut n s y) n
theorem gIn_len (s : Int) (y : Nat) (G : List Int) (x : Nat) : ∃ j, j ≤ x ∧ (gIn s y G x).length = G.length + j * 2 := by
  induction x with
  | zero => exact ⟨0, by omega, rfl⟩
  | succ x ih =>
    obtain ⟨j, h1, h2⟩ := ih
    rw [gIn]
    split
    · exact ⟨j + 1, by omega, by rw [List.length_append, h2]; simp; omega⟩
    · exact ⟨j, by omega, h2⟩
theorem gOut_len (n : Nat) (s : Int) (y : Nat) : ∃ j, j ≤ y * n ∧ (gOut n s y).length = j * 2 := by
  induction y with
  | zero => exact ⟨0, by omega, rfl⟩
  | succ y ih =>
    obtain ⟨j, h1, h2⟩ := ih
    obtain ⟨i, h3, h4⟩ := gIn_len s y (gOut n s y) n
    exact ⟨j + i, by rw [Nat.succ_mul]; omega, by rw [gOut, h4, h2]; omega⟩
theorem gIn_yes {s : Int} {y x : Nat} (G : List Int) (h1 : (y : Int) % s = 0) (h2 : (x : Int) % s = 0) : gIn s y G x ++ [(y : Int), (x : Int)] = gIn s y G (x + 1) := by
  rw [gIn, if_pos ⟨h1, h2⟩]
theorem gIn_no {s : Int} {y x : Nat} (G : List Int) (h : ¬ ((y : Int) % s = 0 ∧ (x : Int) % s = 0)) : gIn s y G x = gIn s y G (x + 1) := by
  rw [gIn, if_neg h]

end Go.Proofs.Ytjmfffgddmnkmab
