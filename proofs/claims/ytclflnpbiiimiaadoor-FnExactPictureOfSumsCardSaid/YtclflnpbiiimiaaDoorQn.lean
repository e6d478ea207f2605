/- What is rounded is finite where it is not greater than the greatest number. Condition: none. -/
import Derived.Test.YtclflnpbiiimiaaDoorNq
namespace Go.Proofs.YtclflnpbiiimiaaDoor
open Go Go.RowKit
open Ieee

theorem nf_zero (s : Bool) (p : Int) : single.nearest s 0 p = single.word s 0 := by simp [Format.nearest]
theorem nf_top (s : Bool) (n d K : Nat) (h : n ≤ K * 2 ^ d) : Toward.even.cut s n d ≤ K := by
  unfold Toward.cut
  simp only [Nat.shiftLeft_eq, Nat.one_mul]
  by_cases hd : d ≤ n.log2 + 2
  · rw [Nat.min_eq_left hd]
    have hp : 0 < 2 ^ d := Nat.two_pow_pos d
    have hdm := Nat.div_add_mod n (2 ^ d)
    have hlt := Nat.mod_lt n hp
    have hle : n / 2 ^ d ≤ K := by
      have := Nat.div_le_div_right (c := 2 ^ d) h
      rwa [Nat.mul_div_cancel _ hp] at this
    rcases Nat.lt_or_ge (n / 2 ^ d) K with h1 | h1
    · have hb : ∀ b : Bool, b.toNat ≤ 1 := fun b => by cases b <;> decide
      exact Nat.le_trans (Nat.add_le_add_left (hb _) _) h1
    · have he : n / 2 ^ d = K := Nat.le_antisymm hle h1
      have hr : n % 2 ^ d = 0 := by
        rw [he, Nat.mul_comm] at hdm
        omega
      rw [hr, he]
      have h3 : decide (2 ^ d < 2 * 0) = false := decide_eq_false (by omega)
      have h4 : (2 ^ d == 2 * 0) = false := by simp
      rw [h3, h4]
      simp
  · rw [Nat.min_eq_right (by omega)]
    have hl := lt_two_log n
    have hp2 : 2 ^ (n.log2 + 2) = 2 * 2 ^ (n.log2 + 1) := by rw [Nat.pow_succ]; omega
    generalize 2 ^ (n.log2 + 1) = Z at *
    rw [hp2, Nat.div_eq_of_lt (by omega), Nat.mod_eq_of_lt (by omega)]
    have h3 : decide (2 * Z < 2 * n) = false := decide_eq_false (by omega)
    have h4 : (2 * Z == 2 * n) = false := by simp; omega
    rw [h3, h4]
    simp
theorem nf_fin (s : Bool) (M e : Nat) (B : Int) (hB : B = 104 - e) (h : M ≤ 16777215 * 2 ^ e) : fin (single.nearest s M B) = true := by
  rcases Nat.eq_zero_or_pos M with h0 | h0
  · subst h0
    rw [nf_zero]; cases s <;> decide
  · obtain ⟨d1, d2, d3, d4⟩ := single_parts
    have hlog : M.log2 < 24 + e := (Nat.log2_lt (by omega)).2 (by
      rw [Nat.pow_add]
      have : 16777215 * 2 ^ e < 2 ^ 24 * 2 ^ e := Nat.mul_lt_mul_of_pos_right (by decide) (Nat.two_pow_pos e)
      omega)
    generalize hL : max (B + (M.log2 : Int) - 23) (-149) = L
    have hL2 : B + (M.log2 : Int) - 23 ≤ L ∧ -149 ≤ L ∧ L ≤ 104 := by omega
    have hk := kept_le s M B L hL2.1
    have hc : L = 104 → Toward.even.cut s (M <<< (B - L).toNat) (L - B).toNat ≤ 16777215 := by
      intro he
      rw [show (B - L).toNat = 0 by omega, show (L - B).toNat = e by omega, Nat.shiftLeft_zero]
      exact nf_top s M e 16777215 h
    unfold Format.nearest
    rw [if_neg (by omega)]
    simp only [d1, d2, d3, d4, hL]
    rw [fin_word]
    generalize Toward.even.cut s (M <<< (B - L).toNat) (L - B).toNat = K at *
    have hr : (L - -149).toNat * 8388608 + K < 2139095040 := by
      by_cases he : L = 104
      · have := hc he
        subst he
        rw [show ((104 : Int) - -149).toNat = 253 from rfl]
        omega
      · have h1 : (L - -149).toNat ≤ 252 := by omega
        have h2 : (L - -149).toNat * 8388608 ≤ 252 * 8388608 := Nat.mul_le_mul_right _ h1
        omega
    rw [Nat.min_eq_left (Nat.le_of_lt hr), Nat.mod_eq_of_lt (by omega)]
    exact decide_eq_true hr

end Go.Proofs.YtclflnpbiiimiaaDoor
