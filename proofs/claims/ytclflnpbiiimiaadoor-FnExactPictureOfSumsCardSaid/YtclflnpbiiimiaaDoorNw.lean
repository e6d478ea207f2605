/- What program and model answer to weights that are to be normed: the list and the code. Condition: none. -/
import Derived.Test.YtclflnpbiiimiaaDoorNq
import Derived.Test.YtclflnpbiiimiaaDoorFv
namespace Go.Proofs.YtclflnpbiiimiaaDoor
open Go Go.RowKit

theorem all_no {L : List Nat} {f : Nat → Bool} (i : Nat) (hi : i < L.length) (h : f (L.getD i 0) = false) : L.all f = false := by
  rw [List.getD_eq_getElem?_getD, List.getElem?_eq_getElem hi] at h
  rw [List.all_eq_false]
  exact ⟨L[i], List.getElem_mem hi, by simpa using h⟩
theorem all_yes {L : List Nat} {f : Nat → Bool} (h : ∀ i, i < L.length → f (L.getD i 0) = true) : L.all f = true := by
  rw [List.all_eq_true]
  intro x hx
  obtain ⟨i, hi, rfl⟩ := List.getElem_of_mem hx
  have := h i hi
  rwa [List.getD_eq_getElem?_getD, List.getElem?_eq_getElem hi] at this
theorem all_at {L : List Nat} {f : Nat → Bool} (h : L.all f = true) (i : Nat) (hi : i < L.length) : f (L.getD i 0) = true := by
  rw [List.getD_eq_getElem?_getD, List.getElem?_eq_getElem hi]
  exact (List.all_eq_true.1 h) _ (List.getElem_mem hi)

/-- the sum from the left -/
def sumF (L : List Nat) : Nat := L.foldl addS 0
theorem sumF_succ (L : List Nat) (k : Nat) (hk : k < L.length) : sumF (L.take (k + 1)) = addS (sumF (L.take k)) (L.getD k 0) := by
  unfold sumF
  rw [take_succ_getDF L k hk, List.foldl_append]
  rfl
theorem sumF_all (L : List Nat) (k : Nat) (h : L.length ≤ k) : sumF (L.take k) = sumF L := by rw [List.take_of_length_le h]
/-- numbers of at least 0 -/
def posF (x : Nat) : Bool := fin x && !ltz x
theorem posF_yes {x : Nat} (h : posF x = true) : fin x = true ∧ ltz x = false := by
  unfold posF at h; simpa using h
theorem sumF_any (L : List Nat) (h : L.all posF = true) (k : Nat) : Sm (sumF (L.take k)) ∧ ∀ x ∈ L.take k, magF x ≤ sumF (L.take k) := by
  obtain ⟨h1, _, h3⟩ := fold_any (L.take k) 0 sm_zero (fun x hx => posF_yes ((List.all_eq_true.1 h) x (List.mem_of_mem_take hx)))
  exact ⟨h1, h3⟩

def divS (x y : Nat) : Nat := (Ieee.single.div x y).getD 0

/-- the code of weights that are none -/
def wtCode (L : List Nat) : Int := if L.all fin = false then 1 else if 1 ≤ L.length ∧ L.length ≤ 16 ∧ L.all posF = true then 0 else 2
def nwCode (L : List Nat) : Int := if wtCode L = 0 then (if fin (sumF L) = false then 3 else if eqz (sumF L) = true then 5 else 0) else wtCode L
def nwList (L : List Nat) : List Nat := if nwCode L = 0 then L.map (fun x => divS x (sumF L)) else []

theorem wt_zero {L : List Nat} (h : wtCode L = 0) : L.all fin = true ∧ 1 ≤ L.length ∧ L.length ≤ 16 ∧ L.all posF = true := by
  unfold wtCode at h
  cases hf : L.all fin
  · rw [if_pos hf] at h; cases h
  · rw [if_neg (by rw [hf]; decide)] at h
    by_cases h2 : 1 ≤ L.length ∧ L.length ≤ 16 ∧ L.all posF = true
    · exact ⟨rfl, h2⟩
    · rw [if_neg h2] at h; cases h
theorem nw_other (L : List Nat) (c : Int) (h : wtCode L = c) (hc : c ≠ 0) : nwCode L = c ∧ nwList L = [] := by
  have e : nwCode L = c := by unfold nwCode; rw [if_neg (by omega)]; exact h
  exact ⟨e, by unfold nwList; rw [if_neg (by omega)]⟩
theorem nw_nan (L : List Nat) (h : L.all fin = false) : nwCode L = 1 ∧ nwList L = [] :=
  nw_other L 1 (by unfold wtCode; rw [if_pos h]) (by decide)
theorem nw_len (L : List Nat) (h : L.all fin = true) (h2 : ¬ (1 ≤ L.length ∧ L.length ≤ 16)) : nwCode L = 2 ∧ nwList L = [] :=
  nw_other L 2 (by unfold wtCode; rw [if_neg (by rw [h]; decide), if_neg (fun h3 => h2 ⟨h3.1, h3.2.1⟩)]) (by decide)
theorem nw_neg (L : List Nat) (h : L.all fin = true) (h2 : L.all posF = false) : nwCode L = 2 ∧ nwList L = [] :=
  nw_other L 2 (by unfold wtCode; rw [if_neg (by rw [h]; decide), if_neg (fun h3 => by rw [h3.2.2] at h2; cases h2)]) (by decide)
theorem wt_yes (L : List Nat) (h : L.all fin = true) (h1 : 1 ≤ L.length) (h2 : L.length ≤ 16) (h3 : L.all posF = true) : wtCode L = 0 := by
  unfold wtCode; rw [if_neg (by rw [h]; decide), if_pos ⟨h1, h2, h3⟩]
theorem nw_lim (L : List Nat) (h : wtCode L = 0) (h2 : fin (sumF L) = false) : nwCode L = 3 ∧ nwList L = [] := by
  have e : nwCode L = 3 := by unfold nwCode; rw [if_pos h, if_pos h2]
  exact ⟨e, by unfold nwList; rw [if_neg (by omega)]⟩
theorem nw_state (L : List Nat) (h : wtCode L = 0) (h2 : fin (sumF L) = true) (h3 : eqz (sumF L) = true) : nwCode L = 5 ∧ nwList L = [] := by
  have e : nwCode L = 5 := by unfold nwCode; rw [if_pos h, if_neg (by rw [h2]; decide), if_pos h3]
  exact ⟨e, by unfold nwList; rw [if_neg (by omega)]⟩
theorem nw_yes (L : List Nat) (h : wtCode L = 0) (h2 : fin (sumF L) = true) (h3 : eqz (sumF L) = false) : nwCode L = 0 ∧ nwList L = L.map (fun x => divS x (sumF L)) := by
  have e : nwCode L = 0 := by unfold nwCode; rw [if_pos h, if_neg (by rw [h2]; decide), if_neg (by rw [h3]; decide)]
  exact ⟨e, by unfold nwList; rw [if_pos e]⟩
/-- the quotient by the sum -/
theorem nw_div (L : List Nat) (h : wtCode L = 0) (h2 : fin (sumF L) = true) (h3 : eqz (sumF L) = false) (i : Nat) (hi : i < L.length) : Ieee.single.div (L.getD i 0) (sumF L) = some (divS (L.getD i 0) (sumF L)) ∧ fin (divS (L.getD i 0) (sumF L)) = true := by
  obtain ⟨_, _, _, hp⟩ := wt_zero h
  have hs := sumF_any L hp L.length
  rw [List.take_length] at hs
  have hm : L.getD i 0 ∈ L := by
    rw [List.getD_eq_getElem?_getD, List.getElem?_eq_getElem hi]
    exact List.getElem_mem hi
  obtain ⟨r, h4, h5⟩ := div_fin (L.getD i 0) (sumF L) (posF_yes (all_at hp i hi)).1 (sm_fin _ hs.1 h2) h3 (hs.2 _ hm)
  have e : divS (L.getD i 0) (sumF L) = r := by unfold divS; rw [h4]; rfl
  rw [e]
  exact ⟨h4, h5⟩
theorem map_len (L : List Nat) (f : Nat → Nat) : (L.map f).length = L.length := List.length_map _
theorem nw_take (L : List Nat) (f : Nat → Nat) (k : Nat) (hk : k < L.length) : (L.take (k + 1)).map f = (L.take k).map f ++ [f (L.getD k 0)] := by
  rw [take_succ_getDF L k hk, List.map_append]; rfl
end Go.Proofs.YtclflnpbiiimiaaDoor
