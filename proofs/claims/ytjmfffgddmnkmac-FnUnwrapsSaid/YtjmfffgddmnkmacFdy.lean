/- Maps unwrapped by rows and by a flood: wrapped again they are the map; where the map has no residue and no half turn both are one; planes with small steps come back, and so do their slopes. Condition: wrapped heights. -/
import Derived.Test.YtjmfffgddmnkmacFdx
import Derived.Test.YtjmfffgddmnkmacM10
import Derived.Test.YtjmfffgddmnkmacM11
namespace Go.Proofs.Ytjmfffgddmnkmac
open Go Go.RowKit

theorem lessH_mod (x y : Int) : (lessH x y - (y - x)) % 64 = 0 := by unfold lessH; omega
theorem lessH_anti {x y : Int} (h : (y - x - 32) % 64 ≠ 0) : lessH y x = -lessH x y := by unfold lessH; omega
theorem lessH_wrap {h k : Int} (h1 : -32 ≤ k - h) (h2 : k - h ≤ 31) : lessH (wrapH h) (wrapH k) = k - h := by unfold lessH wrapH; omega

/-- a flood's map, wrapped again -/
theorem flood_wrap {m N : Nat} {L : List Int} {O : Nat → Bool} (hN : m * m = N) (hm : 1 ≤ m) (h64 : N ≤ 64) (hL : ∀ i, 0 ≤ L.getD i 0 ∧ L.getD i 0 ≤ 63) (hO : ∀ i, i < N → O i = true) (a : Nat) (ha : a < N) :
    wrapH ((resFl m N 0 L O).getD a 0) = L.getD a 0 := by
  have h1 := flood_all (G := fun a h => (h - L.getD a 0) % 64 = 0) hN hm h64 (hL 0) hO (fun a i _ _ _ x hx => by have := lessH_mod (L.getD a 0) (L.getD (plcTo m a i) 0); show (_ - _) % 64 = 0; omega) (by simp) a ha
  have h2 : ((resFl m N 0 L O).getD a 0 - L.getD a 0) % 64 = 0 := h1
  have h3 := hL a
  unfold wrapH
  omega

theorem unw_stable (m : Nat) (L : List Int) (i k : Nat) (hi : i < k) : ∀ d, (unw m L (k + d)).getD i 0 = (unw m L k).getD i 0
  | 0 => rfl
  | d + 1 => by
    show (unw m L (k + d) ++ [_]).getD i 0 = _
    rw [getD_append_one, if_pos (by rw [unw_len]; omega)]
    exact unw_stable m L i k hi d
theorem unw_at (m : Nat) (L : List Int) (k n : Nat) (hk : k < n) : (unw m L n).getD k 0 = unwStep m L (unw m L k) k := by
  obtain ⟨d, rfl⟩ : ∃ d, n = (k + 1) + d := ⟨n - (k + 1), by omega⟩
  rw [unw_stable m L k (k + 1) (by omega) d]
  show (unw m L k ++ [_]).getD k 0 = _
  rw [getD_append_one, unw_len, if_neg (by omega), if_pos rfl]
theorem unw_old (m : Nat) (L : List Int) (j k n : Nat) (hj : j < k) (hk : k ≤ n) : (unw m L k).getD j 0 = (unw m L n).getD j 0 := by
  obtain ⟨d, rfl⟩ : ∃ d, n = k + d := ⟨n - k, by omega⟩
  exact (unw_stable m L j k hj d).symm
theorem unw_left (m : Nat) (L : List Int) (k n : Nat) (hk : k < n) (h0 : k ≠ 0) (h : k % m ≠ 0) : (unw m L n).getD k 0 = (unw m L n).getD (k - 1) 0 + lessH (L.getD (k - 1) 0) (L.getD k 0) := by
  rw [unw_at m L k n hk, unwStep_left m L _ k h0 h, unw_old m L (k - 1) k n (by omega) (by omega)]
theorem unw_up (m : Nat) (L : List Int) (k n : Nat) (hm : 1 ≤ m) (hk : k < n) (h0 : k ≠ 0) (h : k % m = 0) : (unw m L n).getD k 0 = (unw m L n).getD (k - m) 0 + lessH (L.getD (k - m) 0) (L.getD k 0) := by
  rw [unw_at m L k n hk, unwStep_up m L _ k h0 h, unw_old m L (k - m) k n (by omega) (by omega)]

theorem unw_mod (m : Nat) (L : List Int) (hm : 1 ≤ m) (n : Nat) : ∀ k, k < n → ((unw m L n).getD k 0 - L.getD k 0) % 64 = 0 := by
  intro k
  induction k using Nat.strongRecOn with
  | _ k ih =>
    intro hk
    by_cases h0 : k = 0
    · subst h0
      rw [unw_at m L 0 n hk, unwStep_zero]; simp
    · by_cases h : k % m = 0
      · have h1 := ih (k - m) (by omega) (by omega)
        have h2 := lessH_mod (L.getD (k - m) 0) (L.getD k 0)
        rw [unw_up m L k n hm hk h0 h]
        omega
      · have h1 := ih (k - 1) (by omega) (by omega)
        have h2 := lessH_mod (L.getD (k - 1) 0) (L.getD k 0)
        rw [unw_left m L k n hk h0 h]
        omega
theorem ext_getD {A B : List Int} (hl : A.length = B.length) (h : ∀ i, i < A.length → A.getD i 0 = B.getD i 0) : A = B := by
  apply List.ext_getElem hl
  intro i h1 h2
  have := h i h1
  rwa [List.getD_eq_getElem?_getD, List.getD_eq_getElem?_getD, List.getElem?_eq_getElem h1, List.getElem?_eq_getElem h2] at this
theorem map_wrap_getD (A : List Int) (i : Nat) (hi : i < A.length) : (A.map wrapH).getD i 0 = wrapH (A.getD i 0) := by
  rw [List.getD_eq_getElem?_getD, List.getD_eq_getElem?_getD, List.getElem?_map, List.getElem?_eq_getElem hi]; rfl
/-- a map unwrapped by rows, wrapped again -/
theorem rows_wrap (m : Nat) (L : List Int) (hm : 1 ≤ m) (hL : ∀ i, 0 ≤ L.getD i 0 ∧ L.getD i 0 ≤ 63) : (unw m L L.length).map wrapH = L := by
  refine ext_getD (by rw [List.length_map, unw_len]) fun i hi => ?_
  rw [List.length_map, unw_len] at hi
  rw [map_wrap_getD _ _ (by rw [unw_len]; exact hi)]
  have h1 := unw_mod m L hm L.length i hi
  have h2 := hL i
  unfold wrapH
  omega
theorem flood_map {m N : Nat} {L : List Int} {O : Nat → Bool} (hN : m * m = N) (hm : 1 ≤ m) (h64 : N ≤ 64) (hl : L.length = N) (hL : ∀ i, 0 ≤ L.getD i 0 ∧ L.getD i 0 ≤ 63) (hO : ∀ i, i < N → O i = true) : (resFl m N 0 L O).map wrapH = L := by
  have hp : 0 < N := by rw [← hN]; exact Nat.mul_pos hm hm
  have hlen := resFl_len (m := m) (O := O) hN h64 hp (hL 0)
  refine ext_getD (by rw [List.length_map, hlen, hl]) fun i hi => ?_
  rw [List.length_map, hlen] at hi
  rw [map_wrap_getD _ _ (by rw [hlen]; exact hi)]
  exact flood_wrap hN hm h64 hL hO i hi

/-- no residue, and no half turn to the right or to below -/
def Clean (m N : Nat) (L : List Int) : Prop := (∀ y x, y + 1 < m → x + 1 < m → resCell m L y x = 0) ∧ (∀ i, i < N → i % m + 1 < m → (L.getD (i + 1) 0 - L.getD i 0 - 32) % 64 ≠ 0) ∧ (∀ i, i + m < N → (L.getD (i + m) 0 - L.getD i 0 - 32) % 64 ≠ 0)

theorem res4_zero {a b c d : Int} (h : res4 a b c d = 0) : lessH a b + lessH b c + lessH c d + lessH d a = 0 := by
  unfold res4 at h
  have h1 := lessH_mod a b
  have h2 := lessH_mod b c
  have h3 := lessH_mod c d
  have h4 := lessH_mod d a
  have hs : (lessH a b + lessH b c + lessH c d + lessH d a) % 64 = 0 := by omega
  clear h1 h2 h3 h4
  generalize lessH a b + lessH b c + lessH c d + lessH d a = S at *
  rcases Int.lt_or_le S 0 with hS | hS
  · rw [show S = -(-S) by omega, Int.neg_tdiv, Int.tdiv_eq_ediv_of_nonneg (by omega)] at h
    omega
  · rw [Int.tdiv_eq_ediv_of_nonneg hS] at h
    omega

theorem ins_right {m a : Nat} (h : insTo m a 0 = true) : a % m + 1 < m ∧ a / m < m := by
  unfold insTo at h
  simp only [Bool.and_eq_true] at h
  have h1 := inG_in h.1
  have h2 := inG_in h.2
  simp only [rowTo, colTo, wayY, wayX] at h1 h2
  generalize a / m = y at *
  generalize a % m = x at *
  omega
theorem ins_down {m a : Nat} (h : insTo m a 1 = true) : a / m + 1 < m := by
  unfold insTo at h
  simp only [Bool.and_eq_true] at h
  have h1 := inG_in h.1
  simp only [rowTo, wayY] at h1
  generalize a / m = y at *
  omega
/-- to the left: the cell from which this one lies to the right -/
theorem ins_left {m a i : Nat} (hi : i = 2) (h : insTo m a i = true) : ∃ b, plcTo m a i = b ∧ a = b + 1 ∧ b % m + 1 < m := by
  subst hi
  have hd := Nat.div_add_mod a m
  have hp := plcTo_int h
  unfold insTo at h
  simp only [Bool.and_eq_true] at h
  have h1 := inG_in h.1
  have h2 := inG_in h.2
  simp only [rowTo, colTo, wayY, wayX] at h1 h2 hp
  have hmp : 0 < m := by omega
  have hx := Nat.mod_lt a hmp
  generalize hy : a / m = y at *
  generalize hxx : a % m = x at *
  obtain ⟨z, rfl⟩ : ∃ z, x = z + 1 := ⟨x - 1, by omega⟩
  refine ⟨m * y + z, ?_, by omega, ?_⟩
  · have e : (m : Int) * ((y : Int) + 0) = ((m * y : Nat) : Int) := by rw [Int.add_zero, Int.natCast_mul]
    rw [e] at hp
    omega
  · rw [Nat.mul_add_mod, Nat.mod_eq_of_lt (by omega)]; exact hx
theorem ins_up {m a i : Nat} (hi : i = 3) (hay : a / m < m) (h : insTo m a i = true) : ∃ b, plcTo m a i = b ∧ a = b + m ∧ b / m + 1 < m := by
  subst hi
  have hd := Nat.div_add_mod a m
  have hp := plcTo_int h
  unfold insTo at h
  simp only [Bool.and_eq_true] at h
  have h1 := inG_in h.1
  have h2 := inG_in h.2
  simp only [rowTo, colTo, wayY, wayX] at h1 h2 hp
  have hmp : 0 < m := by omega
  have hx := Nat.mod_lt a hmp
  generalize hy : a / m = y at *
  generalize hxx : a % m = x at *
  obtain ⟨z, rfl⟩ : ∃ z, y = z + 1 := ⟨y - 1, by omega⟩
  rw [Nat.mul_succ] at hd
  refine ⟨m * z + x, ?_, by omega, ?_⟩
  · have e : (m : Int) * (((z + 1 : Nat) : Int) + -1) = ((m * z : Nat) : Int) := by rw [show ((z + 1 : Nat) : Int) + -1 = (z : Int) by omega, Int.natCast_mul]
    rw [e] at hp
    omega
  · rw [Nat.mul_add_div hmp, Nat.div_eq_of_lt hx]; omega

theorem step_right {m : Nat} {L : List Int} {n a : Nat} (ha : a + 1 < n) (h : a % m + 1 < m) : (unw m L n).getD (a + 1) 0 = (unw m L n).getD a 0 + lessH (L.getD a 0) (L.getD (a + 1) 0) := by
  have hmod : (a + 1) % m ≠ 0 := by
    have hd := Nat.div_add_mod a m
    rw [show a + 1 = m * (a / m) + (a % m + 1) by omega, Nat.mul_add_mod, Nat.mod_eq_of_lt h]
    omega
  have := unw_left m L (a + 1) n ha (by omega) hmod
  rwa [Nat.add_sub_cancel] at this
theorem step_down {m N : Nat} {L : List Int} (hN : m * m = N) (hc : Clean m N L) : ∀ x y, x < m → y + 1 < m → (unw m L N).getD (m * y + x + m) 0 = (unw m L N).getD (m * y + x) 0 + lessH (L.getD (m * y + x) 0) (L.getD (m * y + x + m) 0) := by
  intro x
  induction x with
  | zero =>
    intro y hx hy
    have hlt : m * y + m < N := by rw [← hN, ← Nat.mul_succ]; exact Nat.mul_lt_mul_of_pos_left hy hx
    have := unw_up m L (m * y + 0 + m) N (by omega) (by omega) (by omega) (by rw [Nat.add_zero, ← Nat.mul_succ]; exact Nat.mul_mod_right m _)
    rwa [Nat.add_sub_cancel] at this
  | succ x ih =>
    intro y hx hy
    have hlt : m * y + m + m ≤ N := by
      rw [← hN, ← Nat.mul_succ, ← Nat.mul_succ]; exact Nat.mul_le_mul_left m hy
    have e1 := ih y (by omega) hy
    have hm1 : (m * y + x) % m + 1 < m := by rw [Nat.mul_add_mod, Nat.mod_eq_of_lt (by omega)]; exact hx
    have hm2 : (m * y + x + m) % m + 1 < m := by rw [Nat.add_mod_right]; exact hm1
    have e2 := step_right (L := L) (n := N) (a := m * y + x) (by omega) hm1
    have e3 := step_right (L := L) (n := N) (a := m * y + x + m) (by omega) hm2
    have e4 := res4_zero (hc.1 y x hy (by omega))
    have a1 := lessH_anti (hc.2.1 (m * y + x + m) (by omega) hm2)
    have a2 := lessH_anti (hc.2.2 (m * y + x) (by omega))
    rw [show m * y + m + x + 1 = m * y + x + m + 1 by omega, show m * y + m + x = m * y + x + m by omega] at e4
    rw [show m * y + (x + 1) + m = m * y + x + m + 1 by omega, show m * y + (x + 1) = m * y + x + 1 by omega]
    omega

/-- where the map is clean, heights along rows go along with every hop -/
theorem clean_hops {m N : Nat} {L : List Int} (hN : m * m = N) (hm : 1 ≤ m) (hc : Clean m N L) : Hops m N L (fun a h => h = (unw m L N).getD a 0) := by
  intro a i ha hi hin x hx
  show x + _ = (unw m L N).getD (plcTo m a i) 0
  have hpl := plcTo_lt hN hin
  have hd := Nat.div_add_mod a m
  subst hx
  obtain rfl | rfl | rfl | rfl : i = 0 ∨ i = 1 ∨ i = 2 ∨ i = 3 := by omega
  · obtain ⟨h1, h2⟩ := ins_right hin
    obtain ⟨_, e⟩ := right_of h1 h2
    rw [e] at hpl ⊢
    exact (step_right hpl h1).symm
  · have h1 := ins_down hin
    obtain ⟨_, e⟩ := down_of h1
    have h2 := step_down hN hc (a % m) (a / m) (Nat.mod_lt _ hm) h1
    rw [hd] at h2
    rw [e]
    exact h2.symm
  · obtain ⟨b, e, rfl, h1⟩ := ins_left rfl hin
    have h2 := step_right (L := L) (n := N) ha h1
    have h3 := lessH_anti (hc.2.1 b (by omega) h1)
    rw [e]
    omega
  · obtain ⟨b, e, rfl, h1⟩ := ins_up rfl (Nat.div_lt_of_lt_mul (by rw [hN]; exact ha)) hin
    have hdb := Nat.div_add_mod b m
    have h2 := step_down hN hc (b % m) (b / m) (Nat.mod_lt _ hm) h1
    rw [hdb] at h2
    have h3 := lessH_anti (hc.2.2 b ha)
    rw [e]
    omega

/-- a clean map: a flood and rows give one map -/
theorem flood_rows {m N : Nat} {L : List Int} {O : Nat → Bool} (hN : m * m = N) (hm : 1 ≤ m) (h64 : N ≤ 64) (hL : ∀ i, 0 ≤ L.getD i 0 ∧ L.getD i 0 ≤ 63) (hO : ∀ i, i < N → O i = true) (hc : Clean m N L) : resFl m N 0 L O = unw m L N := by
  have hp : 0 < N := by rw [← hN]; exact Nat.mul_pos hm hm
  have hlen := resFl_len (m := m) (O := O) hN h64 hp (hL 0)
  refine ext_getD (by rw [hlen, unw_len]) fun i hi => ?_
  rw [hlen] at hi
  exact flood_all (G := fun a h => h = (unw m L N).getD a 0) hN hm h64 (hL 0) hO (clean_hops hN hm hc) (by rw [unw_at m L 0 N hp]; rfl) i hi

end Go.Proofs.Ytjmfffgddmnkmac
