/- Sums of products with an early end, and lists of such sums: what they are. Condition: none. -/
import Derived.Test.YtclflnpbiiimiaaDoorKd
namespace Go.Proofs.YtclflnpbiiimiaaDoor
open Go Go.RowKit Ieee

def mulF (x y : Nat) : Nat := (single.mul x y).getD 0
theorem mulF_fin (x y : Nat) (hx : fin x = true) (hy : fin y = true) : single.mul x y = some (mulF x y) ∧ NotNan (mulF x y) := by
  obtain ⟨s, m, p, hr, _⟩ := fin_read x hx
  obtain ⟨t, n, q, hq, _⟩ := fin_read y hy
  have h : single.mul x y = some (single.nearest (s ^^ t) (m * n) (p + q)) := by
    unfold Format.mul
    rw [hr, hq]
    rfl
  unfold mulF
  rw [h]
  exact ⟨rfl, notnan_near _ _ _⟩
theorem addF_num (s p : Nat) (hs : fin s = true) (hp : NotNan p) : single.add s p = some (addF s p) := by
  obtain ⟨t, m, i, hr, _⟩ := fin_read s hs
  have h : ∃ r, single.add s p = some r := by
    unfold Format.add
    rw [hr]
    rcases hp with ⟨u, n, j, h⟩ | ⟨u, h⟩
    · rw [h]; exact ⟨_, rfl⟩
    · rw [h]; exact ⟨_, rfl⟩
  obtain ⟨r, h⟩ := h
  unfold addF
  rw [h]
  rfl

/-- the sum of the first j numbers of f from 0 on, if it is finite all the way -/
def accTo (f : Nat → Nat) : Nat → Option Nat
  | 0 => some 0
  | j + 1 => (accTo f j).bind fun s => if fin (addF s (f j)) = true then some (addF s (f j)) else none
theorem acc_step {f : Nat → Nat} {j s : Nat} (h : accTo f j = some s) (hf : fin (addF s (f j)) = true) : accTo f (j + 1) = some (addF s (f j)) := by
  rw [accTo, h, Option.bind_some, if_pos hf]
theorem acc_stop {f : Nat → Nat} {j s : Nat} (h : accTo f j = some s) (hf : fin (addF s (f j)) = false) : accTo f (j + 1) = none := by
  rw [accTo, h, Option.bind_some, if_neg (by rw [hf]; decide)]
theorem acc_none {f : Nat → Nat} {j : Nat} (h : accTo f j = none) : ∀ d, accTo f (j + d) = none
  | 0 => h
  | d + 1 => by rw [← Nat.add_assoc, accTo, acc_none h d, Option.bind_none]
theorem acc_end {f : Nat → Nat} {j n : Nat} (h : accTo f j = none) (hj : j ≤ n) : accTo f n = none := by
  have := acc_none h (n - j)
  rwa [show j + (n - j) = n by omega] at this
theorem acc_fin {f : Nat → Nat} : ∀ {j s : Nat}, accTo f j = some s → fin s = true
  | 0, s, h => by
    rw [accTo] at h
    cases h
    decide
  | j + 1, s, h => by
    rw [accTo] at h
    cases h1 : accTo f j with
    | none => rw [h1, Option.bind_none] at h; cases h
    | some u =>
      rw [h1, Option.bind_some] at h
      split at h
      · rename_i hf
        cases h
        exact hf
      · cases h

/-- the first k numbers of F, if there are all -/
def rowsTo (F : Nat → Option Nat) : Nat → Option (List Nat)
  | 0 => some []
  | k + 1 => (rowsTo F k).bind fun R => (F k).bind fun s => some (R ++ [s])
theorem rows_step {F : Nat → Option Nat} {k s : Nat} {R : List Nat} (h : rowsTo F k = some R) (hs : F k = some s) : rowsTo F (k + 1) = some (R ++ [s]) := by
  rw [rowsTo, h, Option.bind_some, hs, Option.bind_some]
theorem rows_stop {F : Nat → Option Nat} {k : Nat} (hs : F k = none) : rowsTo F (k + 1) = none := by
  rw [rowsTo]
  cases rowsTo F k with
  | none => rfl
  | some R => rw [Option.bind_some, hs, Option.bind_none]
theorem rows_none {F : Nat → Option Nat} {k : Nat} (h : rowsTo F k = none) : ∀ d, rowsTo F (k + d) = none
  | 0 => h
  | d + 1 => by rw [← Nat.add_assoc, rowsTo, rows_none h d, Option.bind_none]
theorem rows_end {F : Nat → Option Nat} {k n : Nat} (h : F k = none) (hk : k < n) : rowsTo F n = none := by
  have := rows_none (rows_stop h) (n - (k + 1))
  rwa [show k + 1 + (n - (k + 1)) = n by omega] at this
theorem rows_len {F : Nat → Option Nat} : ∀ {k : Nat} {R : List Nat}, rowsTo F k = some R → R.length = k
  | 0, R, h => by rw [rowsTo] at h; cases h; rfl
  | k + 1, R, h => by
    rw [rowsTo] at h
    cases h1 : rowsTo F k with
    | none => rw [h1, Option.bind_none] at h; cases h
    | some R1 =>
      rw [h1, Option.bind_some] at h
      cases h2 : F k with
      | none => rw [h2, Option.bind_none] at h; cases h
      | some s =>
        rw [h2, Option.bind_some] at h
        cases h
        rw [List.length_append, rows_len h1]
        rfl
/-- the code and the list of an answer -/
def ansC (o : Option (List Nat)) : Int := if o.isSome then 0 else 3
def ansL (o : Option (List Nat)) : List Nat := o.getD []

/-- the correlation at k -/
def corF (A B : List Nat) (k : Nat) : Nat → Nat := fun j => mulF (A.getD j 0) (B.getD ((j + k) % B.length) 0)
def cor (A B : List Nat) : Option (List Nat) := rowsTo (fun k => accTo (corF A B k) A.length) A.length

/-- what is asked of a function of two lists -/
def Lists2F (f : FuncId) (A B R : List Nat) (c : Int) : Prop :=
  A.length ≤ 1048576 → B.length ≤ 1048576 → ∀ u v w, OwnF 0 u A w → OwnF 0 v B w → Calls Tryd.prog f #[u, v] w fun e w' => ∃ r, e = .returned (.tuple #[r, .int .i64 c]) ∧ OwnF w.heap.size r R w' ∧ Below w.heap.size w w'
def clOk (A B : List Nat) : Bool := decide (A.length = B.length) && (decide (1 ≤ A.length) && decide (A.length ≤ 64))
def clCode (A B : List Nat) : Int := if A.all fin = false then 1 else if B.all fin = false then 1 else if clOk A B = false then 2 else ansC (cor A B)
def clList (A B : List Nat) : List Nat := if A.all fin = false then [] else if B.all fin = false then [] else if clOk A B = false then [] else ansL (cor A B)
theorem cl_len (A B : List Nat) : (clList A B).length ≤ 64 := by
  unfold clList
  split
  · simp
  · split
    · simp
    · split
      · simp
      · rename_i h
        unfold clOk at h
        simp only [Bool.and_eq_false_iff, decide_eq_false_iff_not, not_or, Decidable.not_not] at h
        unfold ansL
        cases hc : cor A B with
        | none => simp
        | some R =>
          have := rows_len hc
          simp
          omega

end Go.Proofs.YtclflnpbiiimiaaDoor
