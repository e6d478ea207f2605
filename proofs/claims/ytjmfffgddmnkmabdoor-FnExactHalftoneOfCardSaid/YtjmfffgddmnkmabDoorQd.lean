/- Plain facts on absolute values of float32's, and on a difference's sum. Condition: numbers. -/
import Derived.Test.YtjmfffgddmnkmabDoorQe
import Derived.Test.YtjmfffgddmnkmabDoorEx
import Derived.Test.YtjmfffgddmnkmabDoorSSt
namespace Go.Proofs.YtjmfffgddmnkmabDoor
open Go Go.RowKit
open Ieee

theorem fits_read (x : Nat) (hx : fin x = true) (s : Bool) (m : Nat) (p : Int) (hr : single.read x = .number s m p) (hm : 0 < m) : Fits single m p ∧ rungOf single m p = x % 2147483648 := by
  obtain ⟨a1, a2, a3, a4, a5⟩ := read_norm x s m p hr
  obtain ⟨d1, d2, d3, d4⟩ := single_facts
  have hf : x % 2147483648 < 2139095040 := by simpa [fin] using hx
  refine ⟨⟨hm, by rw [d1]; exact a1, by rw [d2]; omega, ?_, ?_⟩, ?_⟩
  · rcases a3 with h | h
    · exact .inl (by rw [d2]; omega)
    · exact .inr (by rw [d1]; exact h)
  · rw [d1, d2, d3]; omega
  · unfold rungOf; rw [d1, d2]; omega
theorem narrow_exact {M : Nat} {P : Int} (h : Fits single M P) (y a : Nat) (hy : double.read y = .number false (M * 2 ^ a) (P - a)) : floatToFloatBits .f64 y .f32 = some (rungOf single M P) := by
  have hw := to_single h y a hy
  have hrr := read_rung h false
  have hd : FloatKind.f64.decode y = .number false (M * 2 ^ a) (P - a) := hy
  have he : FloatKind.f32.encode (.number false (M * 2 ^ a) (P - a)) = rungOf single M P := by rw [hy] at hw; exact hw
  have hi : (FloatKind.f32.decode (rungOf single M P)).isInfinity = false := by
    show (single.read (rungOf single M P)).isInfinity = false
    have e : single.word false (rungOf single M P) = rungOf single M P := rfl
    rw [e] at hrr
    rw [hrr]; rfl
  unfold floatToFloatBits
  rw [if_neg (by decide), hd]
  simp only [he, hi]
  rfl

theorem mag_steps (x : Nat) (h : NotNan x) : ∃ c, floatToFloatBits .f32 x .f64 = some c ∧ c < 18446744073709551616 ∧ floatToFloatBits .f64 (c % 9223372036854775808) .f32 = some (magF x) := by
  cases hf : fin x
  · rcases h with ⟨s, m, p, hr⟩ | ⟨s, hr⟩
    · rcases inf_read x hf with ⟨t, ht⟩ | ⟨t, u, ht⟩ <;> rw [ht] at hr <;> cases hr
    · have hx : x % 2147483648 = 2139095040 := by
        rw [read32] at hr
        split at hr
        · cases hr
        · split at hr
          · cases hr
          · split at hr
            · assumption
            · cases hr
      refine ⟨double.write (.infinity s), ?_, by cases s <;> decide, ?_⟩
      · unfold floatToFloatBits
        rw [if_neg (by decide)]
        have hd : FloatKind.f32.decode x = .infinity s := hr
        rw [hd]; rfl
      · unfold magF; rw [hx]; cases s <;> decide
  · obtain ⟨s, m, p, hr, hm, hp, hp'⟩ := fin_read x hf
    refine ⟨conv x, float_conv x hf, (conv_finite x hf).2, ?_⟩
    unfold conv
    rw [hr]
    simp only [Format.write]
    rcases Nat.eq_zero_or_pos m with h0 | h0
    · subst h0
      rw [conv_zero, word_mod s 0 (by omega)]
      have hx0 : x % 2147483648 = 0 := by
        obtain ⟨_, _, a3, a4, _⟩ := read_norm x s 0 p hr
        rcases a3 with e | e
        · omega
        · subst e; simpa using a4
      unfold magF; rw [hx0]; decide
    · obtain ⟨k, e, hn, hk, hk1, hk2, he1, he2, he, hl⟩ := near64 s m p h0 hm hp hp'
      obtain ⟨hfit, hrung⟩ := fits_read x hf s m p hr h0
      rw [hn, word_mod _ _ (by omega)]
      unfold magF
      rw [← hrung]
      refine narrow_exact hfit _ (52 - m.log2) ?_
      have hq : (e * 4503599627370496 + k) % 4503599627370496 = k - 4503599627370496 := by omega
      have hd : (e * 4503599627370496 + k) / 4503599627370496 = e + 1 := by omega
      rw [read64 (e * 4503599627370496 + k), Nat.mod_eq_of_lt (a := e * 4503599627370496 + k) (by omega), if_neg (by omega), if_pos (by omega), hq, hd, Nat.div_eq_of_lt (a := e * 4503599627370496 + k) (b := 9223372036854775808) (by omega)]
      rw [show ((0 : Nat) % 2 == 1) = false from rfl, show 4503599627370496 + (k - 4503599627370496) = k by omega, show e + 1 - 1 = e by omega, hk]
      congr 1
      omega

theorem xor_low (r : Nat) (h : r < 2147483648) : r ^^^ 2147483648 = 2147483648 + r := by
  have hp : (2147483648 : Nat) = 2 ^ 31 := by decide
  rw [hp] at *
  apply Nat.eq_of_testBit_eq
  intro i
  rw [Nat.testBit_xor, Nat.testBit_two_pow]
  rcases Nat.lt_trichotomy i 31 with h1 | h1 | h1
  · rw [Nat.testBit_two_pow_add_gt h1, decide_eq_false (by omega), Bool.xor_false]
  · subst h1
    rw [Nat.testBit_two_pow_add_eq, decide_eq_true rfl, Bool.xor_true]
  · have h31 : 2 ^ 31 ≤ 2 ^ i := Nat.pow_le_pow_right (by omega) (by omega)
    have h32 : 2 ^ 32 ≤ 2 ^ i := Nat.pow_le_pow_right (by omega) (by omega)
    have t1 : r.testBit i = false := Nat.testBit_lt_two_pow (Nat.lt_of_lt_of_le h h31)
    have t2 : (2 ^ 31 + r).testBit i = false := Nat.testBit_lt_two_pow (Nat.lt_of_lt_of_le (show 2 ^ 31 + r < 2 ^ 32 by omega) h32)
    rw [t1, t2, decide_eq_false (by omega)]
    rfl
theorem neg_bits (x : Nat) (hx : x < 4294967296) : Op.negFloat .f32 x = if x < 2147483648 then 2147483648 + x else x - 2147483648 := by
  have e : Op.negFloat .f32 x = x ^^^ 2147483648 := rfl
  rw [e]
  split
  · exact xor_low x (by assumption)
  · have h2 := xor_low (x - 2147483648) (by omega)
    rw [show 2147483648 + (x - 2147483648) = x by omega] at h2
    rw [← h2, Nat.xor_assoc, Nat.xor_self, Nat.xor_zero, h2]

/-- the size, as a test tells it -/
def szF (x : Nat) : Nat := if ltz x then Op.negFloat .f32 x else x
theorem sign_bits (x : Nat) (hx : x < 4294967296) : (x / 2147483648 % 2 == 1) = decide (2147483648 ≤ x) := by
  by_cases h : 2147483648 ≤ x
  · rw [decide_eq_true h, show x / 2147483648 = 1 by omega]; rfl
  · rw [decide_eq_false h, show x / 2147483648 = 0 by omega]; rfl
theorem sz_mag (x : Nat) (h : NotNan x) (hx : x < 4294967296) : szF x = magF x ∨ (magF x = 0 ∧ szF x = 2147483648) := by
  have h00 : single.read 0 = .number false 0 (-149) := by decide
  have ho : ∀ d, single.read x = d → ltz x = (d.order (.number false 0 (-149)) == some .lt) := by
    intro d hd
    unfold ltz
    show ((single.read x).order (single.read 0) == some .lt) = _
    rw [hd, h00]
  unfold szF magF
  have hng := neg_bits x hx
  have hs := sign_bits x hx
  by_cases hb : 2147483648 ≤ x
  · rw [decide_eq_true hb] at hs
    rw [if_neg (by omega)] at hng
    rw [hng]
    rcases h with ⟨s, m, p, hr⟩ | ⟨s, hr⟩
    · have e := ho _ hr
      obtain ⟨_, _, a3, a4, a5⟩ := read_norm x s m p hr
      rw [hs] at a5
      subst a5
      rcases Nat.eq_zero_or_pos m with h0 | h0
      · subst h0
        right
        have hx0 : x % 2147483648 = 0 := by
          rcases a3 with e | e
          · omega
          · subst e; simpa using a4
        have : ltz x = false := by
          rw [e]; simp [Datum.order, signed]
        rw [this]
        exact ⟨hx0, by simp only [Bool.false_eq_true, if_false]; omega⟩
      · left
        have hA : 0 < m * 2 ^ (p - min p (-149)).toNat := Nat.mul_pos h0 (Nat.two_pow_pos _)
        have : ltz x = true := by
          rw [e]
          simp only [Datum.order, signed, Nat.shiftLeft_eq, Nat.zero_mul, if_true, Bool.false_eq_true, if_false, beq_iff_eq, Option.some.injEq, Int.compare_eq_lt]
          omega
        rw [this, if_pos rfl]
        omega
    · have e := ho _ hr
      left
      have hs2 : s = true := by
        rw [read32] at hr
        split at hr
        · cases hr
        · split at hr
          · cases hr
          · split at hr
            · injection hr with e1; rw [← e1]; exact hs
            · cases hr
      subst hs2
      have : ltz x = true := by rw [e]; rfl
      rw [this, if_pos rfl]
      omega
  · rw [decide_eq_false hb] at hs
    left
    have hf : ltz x = false := by
      rcases h with ⟨s, m, p, hr⟩ | ⟨s, hr⟩
      · have e := ho _ hr
        obtain ⟨_, _, a3, a4, a5⟩ := read_norm x s m p hr
        rw [hs] at a5
        subst a5
        rw [e]
        simp only [Datum.order, signed, Nat.shiftLeft_eq, Nat.zero_mul, Bool.false_eq_true, if_false, beq_eq_false_iff_ne, ne_eq, Option.some.injEq, Int.compare_eq_lt]
        omega
      · have e := ho _ hr
        have hs2 : s = false := by
          rw [read32] at hr
          split at hr
          · cases hr
          · split at hr
            · cases hr
            · split at hr
              · injection hr with e1; rw [← e1]; exact hs
              · cases hr
        subst hs2
        rw [e]; rfl
    rw [hf]
    simp only [Bool.false_eq_true, if_false]
    omega

theorem word_lt (s : Bool) (r : Nat) (h : r ≤ 2139095040) : single.word s r < 4294967296 := by
  have hs : single.signWeight = 2147483648 := rfl
  unfold Format.word
  rw [hs]
  split <;> omega
theorem near_lt (s : Bool) (m : Nat) (p : Int) : single.nearest s m p < 4294967296 := by
  obtain ⟨r, h, hr, _⟩ := near_any s m p
  rw [h]; exact word_lt s r hr
theorem sub_lt32 (x y r : Nat) (hx : fin x = true) (hy : fin y = true) (h : single.sub x y = some r) : r < 4294967296 := by
  obtain ⟨s, m, p, hr, _⟩ := fin_read x hx
  obtain ⟨t, n, q, hq, _⟩ := fin_read y hy
  unfold Format.sub at h
  rw [hr, hq] at h
  simp only [Datum.opposite, Datum.sum, Option.map_some, Format.write, Option.some.injEq] at h
  rw [← h]
  exact near_lt _ _ _

theorem notnan_mag (y : Nat) (h : NotNan y) : NotNan (magF y) ∧ ∀ s m p, single.read (magF y) = .number s m p → s = false := by
  have e1 : magF y % 2147483648 = y % 2147483648 := by unfold magF; omega
  have e2 : magF y / 2147483648 = 0 := by unfold magF; omega
  have hr := read32 (magF y)
  have hr2 := read32 y
  rw [e1, e2] at hr
  rw [show ((0 : Nat) % 2 == 1) = false from rfl] at hr
  refine ⟨?_, fun s m p h2 => ?_⟩
  · unfold NotNan at *
    rw [hr]
    rw [hr2] at h
    split
    · exact .inl ⟨_, _, _, rfl⟩
    · split
      · exact .inl ⟨_, _, _, rfl⟩
      · split
        · exact .inr ⟨_, rfl⟩
        · rename_i h1 h2 h3
          rw [if_neg h1, if_neg h2, if_neg h3] at h
          rcases h with ⟨_, _, _, h⟩ | ⟨_, h⟩ <;> cases h
  · rw [hr] at h2
    split at h2
    · injection h2 with e1; exact e1.symm
    · split at h2
      · injection h2 with e1; exact e1.symm
      · split at h2 <;> cases h2
/-- the sum with an absolute value, and with a size -/
theorem good_add (o y : Nat) (ho : Good o) (h : NotNan y) (hy : y < 4294967296) : ∃ r, single.add o (magF y) = some r ∧ single.add o (szF y) = some r ∧ NotNan r ∧ (fin r = true → Good r) := by
  obtain ⟨s, m, p, hr, _⟩ := fin_read o ho.1
  have hs : s = false := by
    obtain ⟨_, _, _, _, a5⟩ := read_norm o s m p hr
    rw [a5, show o / 2147483648 = 0 by have := ho.2; omega]; rfl
  subst hs
  obtain ⟨n1, n2⟩ := notnan_mag y h
  have main : ∃ r, single.add o (magF y) = some r ∧ NotNan r ∧ (fin r = true → Good r) := by
    unfold Format.add
    rw [hr]
    rcases n1 with ⟨t, n, q, hq⟩ | ⟨t, hq⟩
    · have := n2 _ _ _ hq
      subst this
      rw [hq]
      simp only [Datum.sum, Option.map_some, Format.write]
      have hT : signed false m (p - min p q).toNat + signed false n (q - min p q).toNat = ((m * 2 ^ (p - min p q).toNat + n * 2 ^ (q - min p q).toNat : Nat) : Int) := by simp [signed, Nat.shiftLeft_eq]
      rw [hT]
      generalize m * 2 ^ (p - min p q).toNat + n * 2 ^ (q - min p q).toNat = T at *
      have hsg : (if (T : Int) = 0 then (false && false) else decide ((T : Int) < 0)) = false := by
        split
        · rfl
        · simp
      rw [hsg, show ((T : Int)).natAbs = T from rfl]
      obtain ⟨u, hu, hu1, _⟩ := near_any false T (min p q)
      rw [hu]
      refine ⟨_, rfl, notnan_word false u hu1, fun hf => ⟨hf, ?_⟩⟩
      show u < 2147483648
      omega
    · rw [hq]
      refine ⟨_, rfl, ?_, fun hf => ?_⟩
      · cases t
        · exact .inr ⟨false, by decide⟩
        · exact .inr ⟨true, by decide⟩
      · exfalso; cases t <;> revert hf <;> decide
  obtain ⟨r, h1, h2, h3⟩ := main
  refine ⟨r, h1, ?_, h2, h3⟩
  rcases sz_mag y h hy with e | ⟨e1, e2⟩
  · rw [e]; exact h1
  · rw [e2]
    rw [e1] at h1
    rw [← h1]
    unfold Format.add
    rw [hr]
    have r0 : single.read 0 = .number false 0 (-149) := by decide
    have r1 : single.read 2147483648 = .number true 0 (-149) := by decide
    rw [r0, r1]
    have : (Datum.number false m p).sum (.number true 0 (-149)) = (Datum.number false m p).sum (.number false 0 (-149)) := by
      simp only [Datum.sum, signed, Nat.zero_shiftLeft]
      simp
    rw [this]
end Go.Proofs.YtjmfffgddmnkmabDoor
