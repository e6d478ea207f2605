/- Plain facts on float32's for a halftone: a zero's sign turns nothing in sums, differences, halves and orders; sums with 0; what is left of a sum when twice a lesser number is taken off. Condition: numbers. -/
import Derived.Test.YtjmfffgddmnkmabDoorQd
namespace Go.Proofs.YtjmfffgddmnkmabDoor
open Go Go.RowKit
open Ieee

theorem fin_of_read (x : Nat) (s : Bool) (m : Nat) (p : Int) (h : single.read x = .number s m p) : fin x = true := by
  cases hf : fin x
  · rcases inf_read x hf with ⟨t, ht⟩ | ⟨t, u, ht⟩ <;> rw [ht] at h <;> cases h
  · rfl
theorem zeq_read (a b : Nat) (ha : fin a = true) (h : zeq a b) : ∃ s t m p, single.read a = .number s m p ∧ single.read b = .number t m p ∧ (s = t ∨ m = 0) := by
  rcases h with rfl | ⟨h1, h2⟩
  · obtain ⟨s, m, p, hr, _⟩ := fin_read a ha
    exact ⟨s, s, m, p, hr, hr, .inl rfl⟩
  · obtain ⟨s, hs⟩ := eqz_read a h1
    obtain ⟨t, ht⟩ := eqz_read b h2
    exact ⟨s, t, 0, -149, hs, ht, .inr rfl⟩
theorem zeq_fin (a b : Nat) (h : zeq a b) : fin a = fin b := by
  rcases h with rfl | ⟨h1, h2⟩
  · rfl
  · obtain ⟨s, hs⟩ := eqz_read a h1
    obtain ⟨t, ht⟩ := eqz_read b h2
    rw [fin_of_read a _ _ _ hs, fin_of_read b _ _ _ ht]
theorem zeq_swap {a b : Nat} (h : zeq a b) : zeq b a := by
  rcases h with rfl | ⟨h1, h2⟩
  · exact .inl rfl
  · exact .inr ⟨h2, h1⟩
theorem zeq_trans {a b c : Nat} (h : zeq a b) (h2 : zeq b c) : zeq a c := by
  rcases h with rfl | ⟨h3, h4⟩
  · exact h2
  · rcases h2 with rfl | ⟨h5, h6⟩
    · exact .inr ⟨h3, h4⟩
    · exact .inr ⟨h3, h6⟩
theorem signed_zeq (s t : Bool) (m k : Nat) (h : s = t ∨ m = 0) : signed s m k = signed t m k := by
  rcases h with rfl | rfl
  · rfl
  · cases s <;> cases t <;> simp [signed]
theorem near_zero (s : Bool) (p : Int) : single.nearest s 0 p = single.word s 0 := by simp [Format.nearest]
theorem zero_word (s : Bool) : eqz (single.word s 0) = true := by cases s <;> decide
theorem sum_zeq (s t u v : Bool) (m n : Nat) (p q : Int) (h : s = t ∨ m = 0) (h2 : u = v ∨ n = 0) :
    ∃ r r', ((Datum.number s m p).sum (.number u n q)).map single.write = some r ∧ ((Datum.number t m p).sum (.number v n q)).map single.write = some r' ∧ zeq r r' ∧ NotNan r ∧ r < 4294967296 ∧ r' < 4294967296 := by
  simp only [Datum.sum, Option.map_some, Format.write]
  rw [signed_zeq s t m _ h, signed_zeq u v n _ h2]
  generalize signed t m (p - min p q).toNat + signed v n (q - min p q).toNat = T
  refine ⟨_, _, rfl, rfl, ?_, notnan_near _ _ _, near_lt _ _ _, near_lt _ _ _⟩
  by_cases hT : T = 0
  · subst hT
    rw [show (0 : Int).natAbs = 0 from rfl, near_zero, near_zero]
    exact .inr ⟨zero_word _, zero_word _⟩
  · rw [if_neg hT, if_neg hT]
    exact .inl rfl
theorem add_zeq2 (a a' b b' : Nat) (ha : fin a = true) (hb : fin b = true) (h : zeq a a') (h2 : zeq b b') :
    ∃ r r', single.add a b = some r ∧ single.add a' b' = some r' ∧ zeq r r' ∧ NotNan r ∧ r < 4294967296 ∧ r' < 4294967296 := by
  obtain ⟨s, t, m, p, h3, h4, h5⟩ := zeq_read a a' ha h
  obtain ⟨u, v, n, q, h6, h7, h8⟩ := zeq_read b b' hb h2
  unfold Format.add
  rw [h3, h4, h6, h7]
  exact sum_zeq s t u v m n p q h5 h8
theorem sub_zeq2 (a a' b b' : Nat) (ha : fin a = true) (hb : fin b = true) (h : zeq a a') (h2 : zeq b b') :
    ∃ r r', single.sub a b = some r ∧ single.sub a' b' = some r' ∧ zeq r r' ∧ NotNan r ∧ r < 4294967296 ∧ r' < 4294967296 := by
  obtain ⟨s, t, m, p, h3, h4, h5⟩ := zeq_read a a' ha h
  obtain ⟨u, v, n, q, h6, h7, h8⟩ := zeq_read b b' hb h2
  unfold Format.sub
  rw [h3, h4, h6, h7]
  exact sum_zeq s t (!u) (!v) m n p q h5 (by rcases h8 with rfl | h; exact .inl rfl; exact .inr h)
/-- a sum with an infinity is one -/
theorem add_inf (a b : Nat) (ha : NotNan a) (hf : fin a = false) (hb : fin b = true) : ∃ r, single.add a b = some r ∧ fin r = false ∧ NotNan r := by
  obtain ⟨u, n, q, hq, _⟩ := fin_read b hb
  rcases ha with ⟨s, m, p, hr⟩ | ⟨s, hr⟩
  · rw [fin_of_read a s m p hr] at hf; cases hf
  · unfold Format.add
    rw [hr, hq]
    exact ⟨_, rfl, by cases s <;> decide, by cases s; exact .inr ⟨false, by decide⟩; exact .inr ⟨true, by decide⟩⟩
/-- a sum with 0 -/
theorem add_zero (x : Nat) (hx : fin x = true) (hl : x < 4294967296) : ∃ r, single.add x 0 = some r ∧ zeq r x ∧ r < 4294967296 := by
  obtain ⟨s, m, p, hr, _⟩ := fin_read x hx
  obtain ⟨a1, a2, a3, a4, a5⟩ := read_norm x s m p hr
  have r0 : single.read 0 = .number false 0 (-149) := by decide
  unfold Format.add
  rw [hr, r0]
  simp only [Datum.sum, Option.map_some, Format.write]
  refine ⟨_, rfl, ?_, near_lt _ _ _⟩
  rw [show min p (-149) = -149 by omega, show signed false 0 (-149 - -149 : Int).toNat = 0 from rfl, Int.add_zero]
  rcases Nat.eq_zero_or_pos m with h0 | h0
  · subst h0
    rw [show signed s 0 (p - -149).toNat = 0 by cases s <;> simp [signed], show (0 : Int).natAbs = 0 from rfl, near_zero]
    exact .inr ⟨zero_word _, zero_eqz x s p hr⟩
  · obtain ⟨hfit, hrung⟩ := fits_read x hx s m p hr h0
    have hA : 0 < m * 2 ^ (p - -149).toNat := Nat.mul_pos h0 (Nat.two_pow_pos _)
    have hn := nearest_up hfit s (p - -149).toNat
    rw [show p - (((p - -149).toNat : Nat) : Int) = -149 by omega, hrung] at hn
    have hw : single.word s (x % 2147483648) = x := by
      have hs : single.signWeight = 2147483648 := rfl
      unfold Format.word
      rw [hs, a5, sign_bits x hl]
      by_cases h : 2147483648 ≤ x
      · rw [decide_eq_true h]; simp only [if_true]; omega
      · rw [decide_eq_false h]; simp only [Bool.false_eq_true, if_false]; omega
    rw [hw] at hn
    left
    generalize hB : m * 2 ^ (p - -149).toNat = B at *
    simp only [signed, Nat.shiftLeft_eq, hB]
    cases s
    · simp only [Bool.false_eq_true, if_false]
      rw [if_neg (by omega), decide_eq_false (by omega), show ((B : Nat) : Int).natAbs = B from rfl]
      exact hn
    · simp only [if_true]
      rw [if_neg (by omega), decide_eq_true (by omega), show (-((B : Nat) : Int)).natAbs = B by omega]
      exact hn
theorem ordZ (x x' t : Nat) (hx : fin x = true) (h : zeq x x') : ordF x t = ordF x' t := by
  obtain ⟨s, s', m, p, h1, h2, h3⟩ := zeq_read x x' hx h
  rw [ordF_read, ordF_read, h1, h2]
  cases single.read t with
  | nan u v => rfl
  | infinity u => rfl
  | number u n q =>
    simp only [Datum.order]
    rw [signed_zeq s s' m _ h3]

/-- what is kept of a number that is at most K units -/
theorem cut_top (s : Bool) (n d K : Nat) (h : n ≤ K * 2 ^ d) : Toward.even.cut s n d ≤ K := by
  unfold Toward.cut
  simp only [Nat.shiftLeft_eq, Nat.one_mul]
  by_cases hd : d ≤ n.log2 + 2
  · rw [Nat.min_eq_left hd]
    have hp : 0 < 2 ^ d := Nat.two_pow_pos d
    have hdm := Nat.div_add_mod n (2 ^ d)
    have hlt := Nat.mod_lt n hp
    have hle : n / 2 ^ d ≤ K := by
      have := Nat.div_le_div_right (c := 2 ^ d) h
      rwa [Nat.mul_div_cancel _ hp] at this
    rcases Nat.lt_or_ge (n / 2 ^ d) K with h1 | h1
    · have hb : ∀ b : Bool, b.toNat ≤ 1 := fun b => by cases b <;> decide
      exact Nat.le_trans (Nat.add_le_add_left (hb _) _) h1
    · have he : n / 2 ^ d = K := Nat.le_antisymm hle h1
      have hr : n % 2 ^ d = 0 := by
        rw [he, Nat.mul_comm] at hdm
        omega
      rw [hr, he]
      have h3 : decide (2 ^ d < 2 * 0) = false := decide_eq_false (by omega)
      have h4 : (2 ^ d == 2 * 0) = false := by simp
      rw [h3, h4]
      simp
  · rw [Nat.min_eq_right (by omega)]
    have hl := lt_two_log n
    have hp2 : 2 ^ (n.log2 + 2) = 2 * 2 ^ (n.log2 + 1) := by rw [Nat.pow_succ]; omega
    generalize 2 ^ (n.log2 + 1) = Z at *
    rw [hp2, Nat.div_eq_of_lt (by omega), Nat.mod_eq_of_lt (by omega)]
    have h3 : decide (2 * Z < 2 * n) = false := decide_eq_false (by omega)
    have h4 : (2 * Z == 2 * n) = false := by simp; omega
    rw [h3, h4]
    simp
/-- a number that is at most the greatest one, rounded -/
theorem near_fin (s : Bool) (M e : Nat) (B : Int) (hB : B = 104 - e) (h : M ≤ 16777215 * 2 ^ e) : fin (single.nearest s M B) = true := by
  rcases Nat.eq_zero_or_pos M with h0 | h0
  · subst h0
    rw [near_zero]; cases s <;> decide
  · obtain ⟨d1, d2, d3, d4⟩ := single_parts
    have hlog : M.log2 < 24 + e := (Nat.log2_lt (by omega)).2 (by
      rw [Nat.pow_add]
      have : 16777215 * 2 ^ e < 2 ^ 24 * 2 ^ e := Nat.mul_lt_mul_of_pos_right (by decide) (Nat.two_pow_pos e)
      omega)
    generalize hL : max (B + (M.log2 : Int) - 23) (-149) = L
    have hL2 : B + (M.log2 : Int) - 23 ≤ L ∧ -149 ≤ L ∧ L ≤ 104 := by omega
    have hk := kept_le s M B L hL2.1
    have hc : L = 104 → Toward.even.cut s (M <<< (B - L).toNat) (L - B).toNat ≤ 16777215 := by
      intro he
      rw [show (B - L).toNat = 0 by omega, show (L - B).toNat = e by omega, Nat.shiftLeft_zero]
      exact cut_top s M e 16777215 h
    unfold Format.nearest
    rw [if_neg (by omega)]
    simp only [d1, d2, d3, d4, hL]
    rw [fin_word]
    generalize Toward.even.cut s (M <<< (B - L).toNat) (L - B).toNat = K at *
    have hr : (L - -149).toNat * 8388608 + K < 2139095040 := by
      by_cases he : L = 104
      · have := hc he
        subst he
        rw [show ((104 : Int) - -149).toNat = 253 from rfl]
        omega
      · have h1 : (L - -149).toNat ≤ 252 := by omega
        have h2 : (L - -149).toNat * 8388608 ≤ 252 * 8388608 := Nat.mul_le_mul_right _ h1
        omega
    rw [Nat.min_eq_left (Nat.le_of_lt hr), Nat.mod_eq_of_lt (by omega)]
    exact decide_eq_true hr

theorem two_read : single.read 1073741824 = .number false 8388608 (-22) := by decide
/-- the half of a number -/
theorem half_zeq (a a' : Nat) (ha : fin a = true) (h : zeq a a') : ∃ r r', single.div a 1073741824 = some r ∧ single.div a' 1073741824 = some r' ∧ zeq r r' ∧ fin r = true ∧ r < 4294967296 ∧ r' < 4294967296 := by
  obtain ⟨s, t, m, p, h3, h4, h5⟩ := zeq_read a a' ha h
  obtain ⟨a1, a2, a3, a4, a5⟩ := read_norm a s m p h3
  obtain ⟨s2, m2, p2, g1, g2, g3, g4⟩ := fin_read a ha
  rw [h3] at g1
  injection g1 with e1 e2 e3
  subst e1 e2 e3
  unfold Format.div
  rw [h3, h4, two_read]
  simp only [Datum.quotient, show ¬ (8388608 : Nat) = 0 by decide, if_false, Option.map_some, Format.write]
  have hl23 : (8388608 : Nat).log2 = 23 := by decide
  rw [show single.fractionBits + 2 = 25 from rfl, hl23]
  have hlog : m.log2 ≤ 23 := by
    rcases Nat.eq_zero_or_pos m with h0 | h0
    · subst h0; decide
    · have : m.log2 < 24 := (Nat.log2_lt (show m ≠ 0 by omega)).2 (by omega)
      omega
  obtain ⟨c, hc⟩ : ∃ c, 25 + 23 - m.log2 = c + 23 := ⟨25 - m.log2, by omega⟩
  have hq : m <<< (25 + 23 - m.log2) = (m * 2 ^ c) * 8388608 := by rw [hc, Nat.shiftLeft_eq, Nat.pow_add, ← Nat.mul_assoc]
  rw [hq, Nat.mul_div_cancel _ (by decide), Nat.mul_mod_left, show ((0 : Nat) != 0).toNat = 0 from rfl, hc]
  refine ⟨_, _, rfl, rfl, ?_, ?_, near_lt _ _ _, near_lt _ _ _⟩
  · rcases h5 with rfl | h6
    · exact .inl rfl
    · subst h6
      rw [Nat.zero_mul, near_zero, near_zero]
      exact .inr ⟨zero_word _, zero_word _⟩
  · have hx : p - -22 - ((c + 23 : Nat) : Int) - 1 = 104 - ((104 - (p - -22 - ((c + 23 : Nat) : Int) - 1)).toNat : Nat) := by omega
    refine near_fin _ _ _ _ hx ?_
    have e : (104 - (p - -22 - ((c + 23 : Nat) : Int) - 1)).toNat = (c + 1) + (105 - p).toNat := by omega
    rw [e, Nat.pow_add 2 (c + 1), Nat.pow_succ]
    have h9 : 1 ≤ 2 ^ (105 - p).toNat := Nat.one_le_two_pow
    calc 2 * (m * 2 ^ c) + 0 = m * (2 ^ c * 2) := by rw [Nat.add_zero, Nat.mul_comm 2, Nat.mul_assoc]
      _ ≤ 16777215 * (2 ^ c * 2) := Nat.mul_le_mul_right _ (by omega)
      _ = 16777215 * ((2 ^ c * 2) * 1) := by rw [Nat.mul_one]
      _ ≤ 16777215 * (2 ^ c * 2 * 2 ^ (105 - p).toNat) := Nat.mul_le_mul_left _ (Nat.mul_le_mul_left _ h9)
end Go.Proofs.YtjmfffgddmnkmabDoor
