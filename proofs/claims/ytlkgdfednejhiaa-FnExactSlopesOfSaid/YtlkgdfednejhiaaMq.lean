/- The number that occurs most often in a list of whole numbers, the least one of several such: what it is, that there is one alone, and how it is kept while a list is read. Condition: none. -/
import Derived.WalkKit
namespace Go.Proofs.Ytlkgdfednejhiaa
open Go Go.RowKit

/-- b is the least of the numbers of P that occur most often in L, m times; 0 if P has none -/
def BestIn (P L : List Int) (b : Int) (m : Nat) : Prop :=
  (P = [] ∧ b = 0 ∧ m = 0) ∨ (b ∈ P ∧ L.count b = m ∧ ∀ x ∈ P, L.count x < m ∨ (L.count x = m ∧ b ≤ x))

theorem BestIn.zero (L : List Int) : BestIn [] L 0 0 := .inl ⟨rfl, rfl, rfl⟩

theorem BestIn.one {L : List Int} {b c : Int} {m k : Nat} (h1 : BestIn L L b m) (h2 : BestIn L L c k) : b = c := by
  rcases h1 with ⟨e, hb, _⟩ | ⟨hb, hm, h1⟩
  · rcases h2 with ⟨_, hc, _⟩ | ⟨hc, _, _⟩
    · rw [hb, hc]
    · rw [e] at hc; cases hc
  · rcases h2 with ⟨e, hc, _⟩ | ⟨hc, hk, h2⟩
    · rw [e] at hb; cases hb
    · have a1 := h1 c hc
      have a2 := h2 b hb
      rw [hk] at a1
      rw [hm] at a2
      omega

theorem BestIn.perm {P Q : List Int} {b : Int} {m : Nat} (h : BestIn P P b m) (hp : P.Perm Q) : BestIn Q Q b m := by
  rcases h with ⟨e, hb, hm⟩ | ⟨hb, hm, h⟩
  · rw [e] at hp
    exact .inl ⟨List.nil_perm.1 hp, hb, hm⟩
  · refine .inr ⟨hp.mem_iff.1 hb, by rw [← hp.count_eq]; exact hm, fun x hx => ?_⟩
    rw [← hp.count_eq]
    exact h x (hp.mem_iff.2 hx)

/-- a number more, of which the whole list's count is known: it becomes the best -/
theorem BestIn.take {P L : List Int} {b : Int} {m : Nat} (h : BestIn P L b m) (y : Int) (hc : m < L.count y ∨ (L.count y = m ∧ y < b)) : BestIn (P ++ [y]) L y (L.count y) := by
  refine .inr ⟨by simp, rfl, fun x hx => ?_⟩
  rw [List.mem_append, List.mem_singleton] at hx
  rcases hx with hx | rfl
  · rcases h with ⟨e, _, _⟩ | ⟨hb, hm, h⟩
    · rw [e] at hx; cases hx
    · have := h x hx; omega
  · exact .inr ⟨rfl, Int.le_refl _⟩
/-- it doesn't -/
theorem BestIn.keep {P L : List Int} {b : Int} {m : Nat} (h : BestIn P L b m) (y : Int) (hy : 0 < L.count y) (hc : ¬ (m < L.count y ∨ (L.count y = m ∧ y < b))) : BestIn (P ++ [y]) L b m := by
  rcases h with ⟨e, hb, hm⟩ | ⟨hb, hm, h⟩
  · omega
  · refine .inr ⟨by simp [hb], hm, fun x hx => ?_⟩
    rw [List.mem_append, List.mem_singleton] at hx
    rcases hx with hx | rfl
    · exact h x hx
    · omega

/-- the number -/
noncomputable def mostOf (L : List Int) : Int := open Classical in if h : ∃ b, ∃ m, BestIn L L b m then Classical.choose h else 0
theorem mostOf_eq {L : List Int} {b : Int} {m : Nat} (h : BestIn L L b m) : mostOf L = b := by
  have hx : ∃ b, ∃ m, BestIn L L b m := ⟨b, m, h⟩
  unfold mostOf
  rw [dif_pos hx]
  obtain ⟨k, hk⟩ := Classical.choose_spec hx
  exact hk.one h

/-- how often a number occurs among the first k -/
def cntTo (L : List Int) (y : Int) (k : Nat) : Nat := (L.take k).count y
theorem cntTo_zero (L : List Int) (y : Int) : cntTo L y 0 = 0 := by simp [cntTo]
theorem take_snoc (L : List Int) (k : Nat) (hk : k < L.length) : L.take (k + 1) = L.take k ++ [L.getD k 0] := by
  rw [List.take_add_one, List.getD_eq_getElem?_getD, List.getElem?_eq_getElem hk]; rfl
theorem cntTo_hit (L : List Int) (y : Int) (k : Nat) (hk : k < L.length) (h : L.getD k 0 = y) : cntTo L y (k + 1) = cntTo L y k + 1 := by
  unfold cntTo; rw [take_snoc L k hk, List.count_append, h]; simp
theorem cntTo_miss (L : List Int) (y : Int) (k : Nat) (hk : k < L.length) (h : L.getD k 0 ≠ y) : cntTo L y (k + 1) = cntTo L y k := by
  unfold cntTo; rw [take_snoc L k hk, List.count_append, List.count_singleton, if_neg (by simpa using h)]; rfl
theorem cntTo_le (L : List Int) (y : Int) (k : Nat) : cntTo L y k ≤ k := Nat.le_trans List.count_le_length (by rw [List.length_take]; omega)
theorem cntTo_all (L : List Int) (y : Int) : cntTo L y L.length = L.count y := by unfold cntTo; rw [List.take_length]
theorem count_pos_at (L : List Int) (k : Nat) (hk : k < L.length) : 0 < L.count (L.getD k 0) := by
  rw [List.count_pos_iff, List.getD_eq_getElem?_getD, List.getElem?_eq_getElem hk]
  exact List.getElem_mem _

/-- in a sorted list: the counts of the numbers read so far -/
theorem sorted_le (S : List Int) (hS : S.Pairwise (· ≤ ·)) (i j : Nat) (hij : i ≤ j) (hj : j < S.length) : S.getD i 0 ≤ S.getD j 0 := by
  rw [List.getD_eq_getElem?_getD, List.getD_eq_getElem?_getD, List.getElem?_eq_getElem hj, List.getElem?_eq_getElem (by omega)]
  rcases Nat.lt_or_ge i j with h | h
  · exact List.pairwise_iff_getElem.1 hS i j (by omega) hj h
  · have : i = j := by omega
    subst this
    exact Int.le_refl _
theorem mem_take_at (S : List Int) (k : Nat) (x : Int) (h : x ∈ S.take k) : ∃ i, i < k ∧ i < S.length ∧ S.getD i 0 = x := by
  obtain ⟨i, hi, e⟩ := List.getElem_of_mem h
  rw [List.length_take] at hi
  rw [List.getElem_take] at e
  refine ⟨i, by omega, by omega, ?_⟩
  rw [List.getD_eq_getElem?_getD, List.getElem?_eq_getElem (by omega)]
  exact e
theorem at_mem_take (S : List Int) (k i : Nat) (hi : i < k) (hl : i < S.length) : S.getD i 0 ∈ S.take k := by
  have : S.getD i 0 = (S.take k)[i]'(by rw [List.length_take]; omega) := by
    rw [List.getElem_take, List.getD_eq_getElem?_getD, List.getElem?_eq_getElem hl]; rfl
  rw [this]
  exact List.getElem_mem _
/-- a new number begins with the count 0 -/
theorem fresh_count (S : List Int) (hS : S.Pairwise (· ≤ ·)) (k : Nat) (hk : k + 1 < S.length) (h : S.getD (k + 1) 0 ≠ S.getD k 0) : (S.take (k + 1)).count (S.getD (k + 1) 0) = 0 := by
  rw [List.count_eq_zero]
  intro hm
  obtain ⟨i, hi, hl, e⟩ := mem_take_at S (k + 1) _ hm
  have h1 := sorted_le S hS i k (by omega) (by omega)
  have h2 := sorted_le S hS k (k + 1) (by omega) hk
  omega

/-- the step of the program: P' = P and y; y is at least as great as all of P -/
theorem BestIn.up {P : List Int} {b : Int} {m : Nat} (h : BestIn P P b m) (y : Int) (hy : m < P.count y + 1) (hP : ∀ x ∈ P, x ≤ y) : BestIn (P ++ [y]) (P ++ [y]) y (P.count y + 1) := by
  have hcy : (P ++ [y]).count y = P.count y + 1 := by rw [List.count_append]; simp
  refine .inr ⟨by simp, hcy, fun x hx => ?_⟩
  by_cases e : x = y
  · subst e; exact .inr ⟨hcy, Int.le_refl _⟩
  · have hcx : (P ++ [y]).count x = P.count x := by rw [List.count_append, List.count_singleton]; simp; exact fun h => absurd h.symm e
    rw [hcx]
    rw [List.mem_append, List.mem_singleton] at hx
    rcases hx with hx | hx
    · rcases h with ⟨e, _, _⟩ | ⟨_, _, h⟩
      · rw [e] at hx; cases hx
      · have := h x hx; omega
    · exact absurd hx e
theorem BestIn.stay {P : List Int} {b : Int} {m : Nat} (h : BestIn P P b m) (y : Int) (hy : ¬ m < P.count y + 1) (hP : ∀ x ∈ P, x ≤ y) : BestIn (P ++ [y]) (P ++ [y]) b m := by
  have hcy : (P ++ [y]).count y = P.count y + 1 := by rw [List.count_append]; simp
  rcases h with ⟨_, _, hm⟩ | ⟨hb, hm, h⟩
  · omega
  · have hoth : ∀ x, x ≠ y → (P ++ [y]).count x = P.count x := fun x e => by rw [List.count_append, List.count_singleton]; simp; exact fun h => absurd h.symm e
    have hby : b ≠ y := fun e => by rw [e] at hm; omega
    refine .inr ⟨by simp [hb], by rw [hoth b hby]; exact hm, fun x hx => ?_⟩
    by_cases e : x = y
    · subst e
      rw [hcy]
      have := hP b hb
      omega
    · rw [hoth x e]
      rw [List.mem_append, List.mem_singleton] at hx
      rcases hx with hx | hx
      · exact h x hx
      · exact absurd hx e

end Go.Proofs.Ytlkgdfednejhiaa
