/- Plain facts on float32's bits: which are finite, what a float less itself is, what becomes of it as a float64. Condition: none. -/
import Derived.Laws.FloatArith
namespace Go.Proofs.Ytjmfffgddmnkmab
open Go Ieee
/-- finite -/
def fin (x : Nat) : Bool := decide (x % 2147483648 < 2139095040)

theorem read32 (x : Nat) : single.read x =
    if x % 2147483648 < 8388608 then .number (x / 2147483648 % 2 == 1) (x % 2147483648) (-149)
    else if x % 2147483648 < 2139095040 then .number (x / 2147483648 % 2 == 1) (8388608 + x % 2147483648 % 8388608) (-149 + (x % 2147483648 / 8388608 - 1 : Nat))
    else if x % 2147483648 = 2139095040 then .infinity (x / 2147483648 % 2 == 1)
    else .nan (x / 2147483648 % 2 == 1) (x % 2147483648 - 2139095040) := rfl

theorem read64 (x : Nat) : double.read x =
    if x % 9223372036854775808 < 4503599627370496 then .number (x / 9223372036854775808 % 2 == 1) (x % 9223372036854775808) (-1074)
    else if x % 9223372036854775808 < 9218868437227405312 then .number (x / 9223372036854775808 % 2 == 1) (4503599627370496 + x % 9223372036854775808 % 4503599627370496) (-1074 + (x % 9223372036854775808 / 4503599627370496 - 1 : Nat))
    else if x % 9223372036854775808 = 9218868437227405312 then .infinity (x / 9223372036854775808 % 2 == 1)
    else .nan (x / 9223372036854775808 % 2 == 1) (x % 9223372036854775808 - 9218868437227405312) := rfl

theorem fin_read (x : Nat) (h : fin x = true) : ∃ s m p, single.read x = .number s m p ∧ m < 16777216 ∧ -149 ≤ p ∧ p ≤ 104 := by
  have h' : x % 2147483648 < 2139095040 := by simpa [fin] using h
  rw [read32]
  simp only [h', if_true]
  split
  · exact ⟨_, _, _, rfl, by omega, by omega, by omega⟩
  · exact ⟨_, _, _, rfl, by omega, by omega, by omega⟩

theorem sub_fin (x : Nat) (h : fin x = true) : single.sub x x = some 0 := by
  obtain ⟨s, m, p, hr, _⟩ := fin_read x h
  unfold Format.sub
  rw [hr]
  have ht : signed s m (p - min p p).toNat + signed (!s) m (p - min p p).toNat = 0 := by
    cases s <;> simp [signed] <;> omega
  simp only [Datum.opposite, Datum.sum]
  rw [ht]
  cases s <;> rfl

theorem sub_inf (x : Nat) (h : fin x = false) : single.sub x x = none := by
  have h' : ¬ x % 2147483648 < 2139095040 := by simpa [fin] using h
  unfold Format.sub
  rw [read32, if_neg (by omega), if_neg h']
  split
  · generalize (x / 2147483648 % 2 == 1) = s
    cases s <;> rfl
  · rfl

/-- a NaN of float32, one of float64, out of the tape's answer -/
def nan32 (t : Nat) : Nat := (t % 2) * 2 ^ 31 + 0x7f800000 + 1 + (t / 2) % (2 ^ 23 - 1)
def nan64 (t : Nat) : Nat := (t % 2) * 2 ^ 63 + 0x7ff0000000000000 + 1 + (t / 2) % (2 ^ 52 - 1)

theorem nan32_mod (t : Nat) : 2139095040 < nan32 t % 2147483648 := by
  have h1 : nan32 t = (t % 2) * 2147483648 + 2139095040 + 1 + (t / 2) % 8388607 := rfl
  have h2 : (t / 2) % 8388607 < 8388607 := Nat.mod_lt _ (by omega)
  generalize (t / 2) % 8388607 = c at *
  rcases (show t % 2 = 0 ∨ t % 2 = 1 by omega) with h | h <;> rw [h] at h1 <;> omega
theorem nan64_mod (t : Nat) : 9218868437227405312 < nan64 t % 9223372036854775808 ∧ nan64 t < 18446744073709551616 := by
  have h1 : nan64 t = (t % 2) * 9223372036854775808 + 9218868437227405312 + 1 + (t / 2) % 4503599627370495 := rfl
  have h2 : (t / 2) % 4503599627370495 < 4503599627370495 := Nat.mod_lt _ (by omega)
  generalize (t / 2) % 4503599627370495 = c at *
  rcases (show t % 2 = 0 ∨ t % 2 = 1 by omega) with h | h <;> rw [h] at h1 <;> omega
theorem order_nan32 (t y : Nat) : single.order (nan32 t) y = none := by
  have h1 := nan32_mod t
  unfold Format.order
  rw [read32 (nan32 t), if_neg (by omega), if_neg (by omega), if_neg (by omega)]
  rfl
theorem order_nan64 (t y : Nat) : double.order (nan64 t % 9223372036854775808) y = none := by
  have h1 := nan64_mod t
  unfold Format.order
  rw [read64 (nan64 t % 9223372036854775808), Nat.mod_mod, if_neg (by omega), if_neg (by omega), if_neg (by omega)]
  rfl

theorem near64 (s : Bool) (m : Nat) (p : Int) (h0 : 0 < m) (hm : m < 16777216) (hp : -149 ≤ p) (hp' : p ≤ 104) :
    ∃ (kept : Nat) (e : Nat), double.nearest s m p = double.word s (e * 4503599627370496 + kept) ∧ kept = m * 2 ^ (52 - m.log2) ∧ 4503599627370496 ≤ kept ∧ kept < 9007199254740992 ∧ e ≤ 1149 ∧ 873 ≤ e ∧ (e : Int) = p + m.log2 - 52 + 1074 ∧ m.log2 ≤ 23 := by
  have hl1 : 2 ^ m.log2 ≤ m := Nat.log2_self_le (by omega)
  have hl2 : m < 2 ^ (m.log2 + 1) := Nat.lt_log2_self
  have hl : m.log2 ≤ 23 := by
    have : m.log2 < 24 := (Nat.log2_lt (by omega)).2 (by omega)
    omega
  have hk1 : 4503599627370496 ≤ m * 2 ^ (52 - m.log2) := by
    have : 2 ^ m.log2 * 2 ^ (52 - m.log2) ≤ m * 2 ^ (52 - m.log2) := Nat.mul_le_mul_right _ hl1
    rw [← Nat.pow_add, show m.log2 + (52 - m.log2) = 52 by omega] at this
    exact this
  have hk2 : m * 2 ^ (52 - m.log2) < 9007199254740992 := by
    have : m * 2 ^ (52 - m.log2) < 2 ^ (m.log2 + 1) * 2 ^ (52 - m.log2) := Nat.mul_lt_mul_of_pos_right hl2 (Nat.two_pow_pos _)
    rw [← Nat.pow_add, show m.log2 + 1 + (52 - m.log2) = 53 by omega] at this
    exact this
  refine ⟨m * 2 ^ (52 - m.log2), (p + m.log2 - 52 + 1074).toNat, ?_, rfl, hk1, hk2, by omega, by omega, by omega, hl⟩
  unfold Format.nearest
  rw [if_neg (by omega)]
  have hlp : double.leastPlace = -1074 := rfl
  have hfb : (double.fractionBits : Int) = 52 := rfl
  have hbin : double.binade = 4503599627370496 := rfl
  have hinf : double.infRung = 9218868437227405312 := rfl
  simp only [hlp, hfb, hbin, hinf]
  rw [show max (p + (m.log2 : Int) - 52) (-1074) = p + m.log2 - 52 by omega]
  rw [show (p + (m.log2 : Int) - 52 - p).toNat = 0 by omega, show (p - (p + (m.log2 : Int) - 52)).toNat = 52 - m.log2 by omega]
  rw [show p + (m.log2 : Int) - 52 - -1074 = p + m.log2 - 52 + 1074 by omega]
  have hcut : ∀ n, Toward.even.cut s n 0 = n := by
    intro n
    simp [Toward.cut, Nat.mod_one]
  rw [hcut, Nat.shiftLeft_eq]
  have he : (p + (m.log2 : Int) - 52 + 1074).toNat ≤ 1149 := by omega
  rw [Nat.min_eq_left (by omega)]

theorem word_mod (s : Bool) (r : Nat) (h : r < 9223372036854775808) : double.word s r % 9223372036854775808 = r := by
  have hs : double.signWeight = 9223372036854775808 := rfl
  unfold Format.word
  rw [hs]
  split <;> omega
theorem word_lt64 (s : Bool) (r : Nat) (h : r < 9223372036854775808) : double.word s r < 18446744073709551616 := by
  have hs : double.signWeight = 9223372036854775808 := rfl
  unfold Format.word
  rw [hs]
  split <;> omega

/-- what 'float64(x)' is of a finite float32 -/
def conv (x : Nat) : Nat := double.write (single.read x)

theorem conv_zero (s : Bool) (p : Int) : double.nearest s 0 p = double.word s 0 := by simp [Format.nearest]

theorem order_max (x : Nat) (h : fin x = true) : ∃ o, double.order (conv x % 9223372036854775808) 5183643170566569984 = some o ∧ o ≠ .gt := by
  obtain ⟨s, m, p, hr, hm, hp, hp'⟩ := fin_read x h
  unfold conv
  rw [hr]
  simp only [Format.write]
  rcases Nat.eq_zero_or_pos m with h0 | h0
  · subst h0
    rw [conv_zero, word_mod s 0 (by omega)]
    exact ⟨.lt, by decide, by decide⟩
  · obtain ⟨k, e, hn, hk, hk1, hk2, he1, he2, he, hl⟩ := near64 s m p h0 hm hp hp'
    rw [hn, word_mod _ _ (by omega)]
    have hq : (e * 4503599627370496 + k) % 4503599627370496 = k - 4503599627370496 := by omega
    have hd : (e * 4503599627370496 + k) / 4503599627370496 = e + 1 := by omega
    unfold Format.order
    rw [read64 (e * 4503599627370496 + k), Nat.mod_eq_of_lt (a := e * 4503599627370496 + k) (by omega), if_neg (by omega), if_pos (by omega), hq, hd, Nat.div_eq_of_lt (a := e * 4503599627370496 + k) (b := 9223372036854775808) (by omega)]
    rw [show ((0 : Nat) % 2 == 1) = false from rfl]
    rw [show double.read 5183643170566569984 = .number false 9007198717870080 75 from by decide]
    rw [show 4503599627370496 + (k - 4503599627370496) = k by omega, show e + 1 - 1 = e by omega]
    have hle : signed false k (-1074 + (e : Int) - min (-1074 + (e : Int)) 75).toNat ≤ signed false 9007198717870080 (75 - min (-1074 + (e : Int)) 75).toNat := by
      simp only [signed, Nat.shiftLeft_eq, Bool.false_eq_true, if_false]
      by_cases h1 : e = 1149
      · subst h1
        have hl23 : m.log2 = 23 := by omega
        rw [hl23] at hk
        have hk3 : k = m * 536870912 := hk
        rw [show (-1074 + ((1149 : Nat) : Int) - min (-1074 + ((1149 : Nat) : Int)) 75).toNat = 0 by omega, show (75 - min (-1074 + ((1149 : Nat) : Int)) 75).toNat = 0 by omega]
        omega
      · rw [show (-1074 + (e : Int) - min (-1074 + (e : Int)) 75).toNat = 0 by omega, show (75 - min (-1074 + (e : Int)) 75).toNat = (1148 - e) + 1 by omega]
        have h2 : 1 ≤ 2 ^ (1148 - e) := Nat.one_le_two_pow
        rw [Nat.pow_succ]
        generalize 2 ^ (1148 - e) = q at *
        omega
    refine ⟨_, rfl, ?_⟩
    generalize signed false k _ = a at *
    generalize signed false 9007198717870080 _ = b at *
    show compareOfLessAndEq a b ≠ .gt
    unfold compareOfLessAndEq
    split
    · decide
    · rw [if_pos (by omega)]; decide

theorem max_fin (x : Nat) (h : fin x = true) : (double.order (conv x % 9223372036854775808) 5183643170566569984 == some .lt || double.order (conv x % 9223372036854775808) 5183643170566569984 == some .eq) = true := by
  obtain ⟨o, ho, hne⟩ := order_max x h
  rw [ho]
  cases o
  · rfl
  · rfl
  · exact absurd rfl hne

/-- a float32 that is an infinity, or that is none -/
theorem inf_read (x : Nat) (h : fin x = false) : (∃ s, single.read x = .infinity s) ∨ ∃ s t, single.read x = .nan s t := by
  have h' : ¬ x % 2147483648 < 2139095040 := by simpa [fin] using h
  rw [read32, if_neg (by omega), if_neg h']
  split
  · exact .inl ⟨_, rfl⟩
  · exact .inr ⟨_, _, rfl⟩
theorem max_inf (s : Bool) : (double.order (double.write (.infinity s) % 9223372036854775808) 5183643170566569984 == some .lt || double.order (double.write (.infinity s) % 9223372036854775808) 5183643170566569984 == some .eq) = false := by
  cases s <;> decide

theorem conv_finite (x : Nat) (h : fin x = true) : (double.read (conv x)).isInfinity = false ∧ conv x < 18446744073709551616 := by
  obtain ⟨s, m, p, hr, hm, hp, hp'⟩ := fin_read x h
  unfold conv
  rw [hr]
  simp only [Format.write]
  have key : ∀ r, r < 9218868437227405312 → (double.read (double.word s r)).isInfinity = false ∧ double.word s r < 18446744073709551616 := by
    intro r hr'
    refine ⟨?_, word_lt64 s r (by omega)⟩
    rw [read64 (double.word s r), word_mod s r (by omega)]
    split
    · rfl
    · rfl
  rcases Nat.eq_zero_or_pos m with h0 | h0
  · subst h0
    rw [conv_zero]
    exact key 0 (by omega)
  · obtain ⟨k, e, hn, hk, hk1, hk2, he1, he2, he, hl⟩ := near64 s m p h0 hm hp hp'
    rw [hn]
    exact key _ (by omega)

end Go.Proofs.Ytjmfffgddmnkmab
