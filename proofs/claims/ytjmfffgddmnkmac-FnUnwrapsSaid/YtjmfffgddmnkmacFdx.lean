/- A flood over a map that is open everywhere meets all cells: what holds of its first cell and goes along with each hop holds of all. Condition: none. -/
import Derived.Test.YtjmfffgddmnkmacFda
namespace Go.Proofs.Ytjmfffgddmnkmac
open Go Go.RowKit

theorem hop_false {m a i j : Nat} {L : List Int} {s : FS} (h : s.U.getD j false = false) : (hop m L a s i).U.getD j false = false := by
  unfold hop
  split
  · show (s.U.set (plcTo m a i) false).getD j false = false
    by_cases e : plcTo m a i = j
    · by_cases hl : plcTo m a i < s.U.length
      · rw [← e, getD_set_same _ _ _ _ hl]
      · rw [List.set_eq_of_length_le (by omega)]; exact h
    · rw [getD_set_ne _ _ _ _ _ e]; exact h
  · exact h
theorem hops_false {m a j : Nat} {L : List Int} {s : FS} (h : s.U.getD j false = false) : ∀ i, (hops m L a s i).U.getD j false = false
  | 0 => h
  | i + 1 => hop_false (hops_false h i)
theorem hop_done {m a i : Nat} {L : List Int} {s : FS} (h : insTo m a i = true) : (hop m L a s i).U.getD (plcTo m a i) false = false := by
  cases hu : s.U.getD (plcTo m a i) false
  · exact hop_false hu
  · unfold hop
    rw [if_pos (by rw [h, hu]; rfl)]
    exact getD_set_same _ _ _ _ (getD_true_lt hu)
theorem hops_done {m a j : Nat} {L : List Int} {s : FS} (h : insTo m a j = true) : ∀ i, j < i → (hops m L a s i).U.getD (plcTo m a j) false = false
  | 0, hi => absurd hi (by omega)
  | i + 1, hi => by
    by_cases e : j = i
    · subst e; exact hop_done h
    · exact hop_false (hops_done h i (by omega))
theorem hop_Q {m a i j : Nat} {L : List Int} {s : FS} (h : j < s.Q.length) : (hop m L a s i).Q.getD j 0 = s.Q.getD j 0 ∧ j < (hop m L a s i).Q.length := by
  unfold hop
  split
  · show (s.Q ++ _).getD j 0 = _ ∧ j < (s.Q ++ _).length
    rw [getD_append_one, if_pos h, List.length_append]
    exact ⟨rfl, by omega⟩
  · exact ⟨rfl, h⟩
theorem hops_Q {m a j : Nat} {L : List Int} {s : FS} (h : j < s.Q.length) : ∀ i, (hops m L a s i).Q.getD j 0 = s.Q.getD j 0 ∧ j < (hops m L a s i).Q.length
  | 0 => ⟨rfl, h⟩
  | i + 1 => by
    obtain ⟨h1, h2⟩ := hops_Q h i
    obtain ⟨h3, h4⟩ := hop_Q (m := m) (a := a) (i := i) (L := L) h2
    exact ⟨h3.trans h1, h4⟩

/-- the neighbours of the first k cells of the queue are met -/
def Vis (m : Nat) (s : FS) (k : Nat) : Prop := ∀ j, j < k → j < s.Q.length → ∀ a : Nat, s.Q.getD j 0 = a → ∀ i, i < 4 → insTo m a i = true → s.U.getD (plcTo m a i) false = false
theorem flo_vis (m : Nat) (L : List Int) (s : FS) : ∀ k, Vis m (flo m L s k) k
  | 0 => fun j hj => absurd hj (by omega)
  | k + 1 => by
    have ih := flo_vis m L s k
    rw [flo_succ]
    split
    · rename_i hk
      intro j hj hjl a ha i hi hin
      by_cases e : j < k
      · obtain ⟨h1, _⟩ := hops_Q (m := m) (a := ((flo m L s k).Q.getD k 0).toNat) (L := L) (show j < (flo m L s k).Q.length by omega) 4
        exact hops_false (ih j e (by omega) a (h1.symm.trans ha) i hi hin) 4
      · obtain rfl : j = k := by omega
        obtain ⟨h1, _⟩ := hops_Q (m := m) (a := ((flo m L s j).Q.getD j 0).toNat) (L := L) hk 4
        have e2 : ((flo m L s j).Q.getD j 0).toNat = a := by rw [← h1, ha]; simp
        rw [e2]
        exact hops_done hin 4 hi
    · rename_i hk
      intro j hj hjl
      exact ih j (by omega) hjl

theorem right_of {m a : Nat} (h : a % m + 1 < m) (hy : a / m < m) : insTo m a 0 = true ∧ plcTo m a 0 = a + 1 := by
  have hd := Nat.div_add_mod a m
  have e1 : rowTo m a 0 = ((a / m : Nat) : Int) := by simp [rowTo, wayY]
  have e2 : colTo m a 0 = ((a % m + 1 : Nat) : Int) := by simp [colTo, wayX]
  generalize a / m = y at *
  generalize a % m = x at *
  generalize hp : m * y = q at *
  refine ⟨?_, ?_⟩
  · unfold insTo inG
    rw [e1, e2]
    simp only [Bool.and_eq_true, decide_eq_true_eq]
    omega
  · unfold plcTo
    rw [e1, e2, Int.toNat_natCast, Int.toNat_natCast, hp]
    omega
theorem down_of {m a : Nat} (h : a / m + 1 < m) : insTo m a 1 = true ∧ plcTo m a 1 = a + m := by
  have hm : 0 < m := Nat.lt_of_le_of_lt (Nat.zero_le _) h
  have hd := Nat.div_add_mod a m
  have hx := Nat.mod_lt a hm
  have e1 : rowTo m a 1 = ((a / m + 1 : Nat) : Int) := by simp [rowTo, wayY]
  have e2 : colTo m a 1 = ((a % m : Nat) : Int) := by simp [colTo, wayX]
  generalize a / m = y at *
  generalize a % m = x at *
  refine ⟨?_, ?_⟩
  · unfold insTo inG
    rw [e1, e2]
    simp only [Bool.and_eq_true, decide_eq_true_eq]
    omega
  · unfold plcTo
    rw [e1, e2, Int.toNat_natCast, Int.toNat_natCast, Nat.mul_succ]
    omega

/-- a set of places that holds the first one and all neighbours of its places holds all -/
theorem all_places {m N : Nat} (hN : m * m = N) (S : Nat → Prop) (h0 : S 0) (hS : ∀ a, a < N → S a → ∀ i, i < 4 → insTo m a i = true → S (plcTo m a i)) : ∀ a, a < N → S a := by
  intro a
  induction a using Nat.strongRecOn with
  | _ a ih =>
    intro ha
    have hdm := Nat.div_add_mod a m
    have hmp : 0 < m := by
      rcases Nat.eq_zero_or_pos m with e | e
      · subst e; omega
      · exact e
    have hx := Nat.mod_lt a hmp
    have hy : a / m < m := Nat.div_lt_of_lt_mul (by rw [hN]; exact ha)
    by_cases hz : a = 0
    · rw [hz]; exact h0
    · by_cases hc : a % m = 0
      · have hy0 : 1 ≤ a / m := by
          rcases Nat.eq_zero_or_pos (a / m) with e | e
          · rw [e, hc] at hdm; omega
          · exact e
        obtain ⟨y, hyy⟩ : ∃ y, a / m = y + 1 := ⟨a / m - 1, by omega⟩
        have he : a = m * y + m := by rw [← hdm, hyy, hc, Nat.mul_succ]; omega
        have hb1 : (m * y) / m = y := Nat.mul_div_cancel_left y hmp
        obtain ⟨i1, i2⟩ := down_of (m := m) (a := m * y) (by rw [hb1]; omega)
        have := hS (m * y) (by omega) (ih (m * y) (by omega) (by omega)) 1 (by omega) i1
        rw [i2, ← he] at this
        exact this
      · have hb : a - 1 = m * (a / m) + (a % m - 1) := by omega
        have hlt : a % m - 1 < m := by omega
        have hb1 : (a - 1) / m = a / m := by rw [hb, Nat.mul_add_div hmp, Nat.div_eq_of_lt hlt, Nat.add_zero]
        have hb2 : (a - 1) % m = a % m - 1 := by rw [hb, Nat.mul_add_mod, Nat.mod_eq_of_lt hlt]
        obtain ⟨i1, i2⟩ := right_of (m := m) (a := a - 1) (by rw [hb2]; omega) (by rw [hb1]; exact hy)
        have := hS (a - 1) (by omega) (ih (a - 1) (by omega) (by omega)) 0 (by omega) i1
        rw [i2, show a - 1 + 1 = a by omega] at this
        exact this

theorem mem_at {Q : List Int} {a : Nat} (h : (a : Int) ∈ Q) : ∃ j, j < Q.length ∧ Q.getD j 0 = a := by
  obtain ⟨j, hj, e⟩ := List.mem_iff_getElem.1 h
  exact ⟨j, hj, by rw [List.getD_eq_getElem?_getD, List.getElem?_eq_getElem hj]; exact e⟩
theorem at_mem {Q : List Int} {a j : Nat} (hj : j < Q.length) (h : Q.getD j 0 = a) : (a : Int) ∈ Q := by
  rw [List.getD_eq_getElem?_getD, List.getElem?_eq_getElem hj] at h
  exact List.mem_iff_getElem.2 ⟨j, hj, h⟩

/-- over a map that is open everywhere: what holds of the first cell and goes along with hops holds of all cells -/
theorem flood_all {m N : Nat} {L : List Int} {O : Nat → Bool} {G : Nat → Int → Prop} (hN : m * m = N) (hm : 1 ≤ m) (h64 : N ≤ 64) (hL : 0 ≤ L.getD 0 0 ∧ L.getD 0 0 ≤ 63) (hO : ∀ i, i < N → O i = true) (hG : Hops m N L G) (h0 : G 0 (L.getD 0 0)) :
    ∀ a, a < N → G a ((resFl m N 0 L O).getD a 0) := by
  have hp : 0 < N := by rw [← hN]; exact Nat.mul_pos hm hm
  have F : Fl N O G (flo m L (flo0 N 0 L O) 64) := (Fl.start h64 hp hL h0).flo hN hG 64
  have V := flo_vis m L (flo0 N 0 L O) 64
  have hl : (flo m L (flo0 N 0 L O) 64).Q.length ≤ 64 := by have := F.cnt; omega
  have key := all_places hN (fun a => (a : Int) ∈ (flo m L (flo0 N 0 L O) 64).Q) (by
    rcases F.left 0 hp (hO 0 hp) with h | h
    · exfalso
      have : ∀ k, (flo m L (flo0 N 0 L O) k).U.getD 0 false = false := by
        intro k
        induction k with
        | zero =>
          show ((List.map O (List.range 64)).set 0 false).getD 0 false = false
          rw [getD_set_same _ _ _ _ (by simp)]
        | succ k ih =>
          rw [flo_succ]
          split
          · exact hops_false ih 4
          · exact ih
      rw [this 64] at h
      cases h
    · exact h) (fun a ha hS i hi hin => by
      obtain ⟨j, hj, e⟩ := mem_at hS
      have hu := V j (by omega) hj a e i hi hin
      have hpl := plcTo_lt hN hin
      rcases F.left (plcTo m a i) hpl (hO _ hpl) with h | h
      · rw [hu] at h; cases h
      · exact h)
  intro a ha
  obtain ⟨j, hj, e⟩ := mem_at (key a ha)
  obtain ⟨b, hb1, hb2, hb3, hb4⟩ := F.met j hj
  have e2 : b = a := by rw [e] at hb1; omega
  rw [← e2]
  exact hb4

end Go.Proofs.Ytjmfffgddmnkmac
