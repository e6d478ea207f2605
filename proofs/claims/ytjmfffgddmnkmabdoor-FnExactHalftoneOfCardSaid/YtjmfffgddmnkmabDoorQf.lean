/- Plain facts on float32's arithmetic at numbers of at least 0: how great what is rounded can be, quotients, sums with a half and their whole parts. Condition: none. -/
import Derived.Test.YtjmfffgddmnkmabDoorFin
namespace Go.Proofs.YtjmfffgddmnkmabDoor
open Go Ieee

theorem lt_two_log (m : Nat) : m < 2 ^ (m.log2 + 1) := Nat.lt_log2_self
theorem fin_read2 (x : Nat) (h : fin x = true) : ∃ s m p, single.read x = .number s m p ∧ m < 16777216 ∧ -149 ≤ p ∧ p ≤ 104 ∧ (m = 0 → p = -149) := by
  have h' : x % 2147483648 < 2139095040 := by simpa [fin] using h
  rw [read32]
  simp only [h', if_true]
  split
  · exact ⟨_, _, _, rfl, by omega, by omega, by omega, fun _ => rfl⟩
  · exact ⟨_, _, _, rfl, by omega, by omega, by omega, fun h => by omega⟩

/-- a word of a sign and a rung, read -/
theorem read_word32 (s : Bool) (r : Nat) (h : r < 2139095040) : ∃ m p, single.read (single.word s r) = .number s m p ∧ m < 16777216 ∧ -149 ≤ p ∧ p ≤ (r / 8388608 : Nat) - 149 ∧ (m = 0 ↔ r = 0) ∧ (m = 0 → p = -149) ∧ p ≤ 104 := by
  have hs : single.signWeight = 2147483648 := rfl
  have key : single.word s r % 2147483648 = r ∧ (single.word s r / 2147483648 % 2 == 1) = s := by
    unfold Format.word
    rw [hs]
    cases s
    · simp only [Bool.false_eq_true, if_false]
      exact ⟨by omega, by rw [show r / 2147483648 = 0 by omega]; rfl⟩
    · simp only [if_true]
      exact ⟨by omega, by rw [show (2147483648 + r) / 2147483648 = 1 by omega]; rfl⟩
  rw [read32, key.1, key.2]
  split
  · exact ⟨_, _, rfl, by omega, by omega, by omega, Iff.rfl, fun _ => rfl, by omega⟩
  · exact ⟨_, _, rfl, by omega, by omega, by omega, by omega, fun h => by omega, by omega⟩
theorem fin_word (s : Bool) (r : Nat) : fin (single.word s r) = decide (r % 2147483648 < 2139095040) := by
  have hs : single.signWeight = 2147483648 := rfl
  unfold fin Format.word
  rw [hs]
  cases s
  · rfl
  · simp only [if_true, Nat.add_mod_left]

theorem cut_le (s : Bool) (n d : Nat) : Toward.even.cut s n d ≤ n / 2 ^ (min d (n.log2 + 2)) + 1 := by
  unfold Toward.cut
  simp only [Nat.shiftLeft_eq, Nat.one_mul]
  generalize (decide (2 ^ min d (n.log2 + 2) < 2 * (n % 2 ^ min d (n.log2 + 2))) || 2 ^ min d (n.log2 + 2) == 2 * (n % 2 ^ min d (n.log2 + 2)) && n / 2 ^ min d (n.log2 + 2) % 2 == 1) = b
  cases b <;> simp
theorem cut_ge (s : Bool) (n d : Nat) : n / 2 ^ (min d (n.log2 + 2)) ≤ Toward.even.cut s n d := by
  unfold Toward.cut
  simp only [Nat.shiftLeft_eq, Nat.one_mul]
  exact Nat.le_add_right _ _
theorem cut_none (s : Bool) (n : Nat) : Toward.even.cut s n 0 = n := by simp [Toward.cut, Nat.mod_one]

/-- what is kept of a number has at most 24 digits -/
theorem kept_le (s : Bool) (m : Nat) (p last : Int) (hl : p + (m.log2 : Int) - 23 ≤ last) : Toward.even.cut s (m <<< (p - last).toNat) (last - p).toNat ≤ 16777216 := by
  have hm := lt_two_log m
  by_cases h : last ≤ p
  · rw [show (last - p).toNat = 0 by omega, cut_none, Nat.shiftLeft_eq]
    have h1 : m * 2 ^ (p - last).toNat < 2 ^ (m.log2 + 1) * 2 ^ (p - last).toNat := Nat.mul_lt_mul_of_pos_right hm (Nat.two_pow_pos _)
    rw [← Nat.pow_add] at h1
    have h2 : 2 ^ (m.log2 + 1 + (p - last).toNat) ≤ 2 ^ 24 := Nat.pow_le_pow_right (by omega) (by omega)
    omega
  · rw [show (p - last).toNat = 0 by omega, Nat.shiftLeft_zero]
    refine Nat.le_trans (cut_le s m _) ?_
    have h1 : m / 2 ^ (min (last - p).toNat (m.log2 + 2)) < 16777216 := by
      rw [Nat.div_lt_iff_lt_mul (Nat.two_pow_pos _)]
      have h2 : 2 ^ (m.log2 + 1) ≤ 16777216 * 2 ^ (min (last - p).toNat (m.log2 + 2)) := by
        rw [show 16777216 = 2 ^ 24 by decide, ← Nat.pow_add]
        exact Nat.pow_le_pow_right (by omega) (by omega)
      omega
    omega

/-- what is kept of a number that is none of the least is at least 1 -/
theorem kept_pos (s : Bool) (m : Nat) (p : Int) (h0 : 0 < m) (hp : -149 ≤ p) : 0 < Toward.even.cut s (m <<< (p - max (p + (m.log2 : Int) - 23) (-149)).toNat) (max (p + (m.log2 : Int) - 23) (-149) - p).toNat := by
  generalize hlast : max (p + (m.log2 : Int) - 23) (-149) = last
  by_cases h : last ≤ p
  · rw [show (last - p).toNat = 0 by omega, cut_none, Nat.shiftLeft_eq]
    exact Nat.mul_pos h0 (Nat.two_pow_pos _)
  · rw [show (p - last).toNat = 0 by omega, Nat.shiftLeft_zero]
    refine Nat.lt_of_lt_of_le ?_ (cut_ge s m _)
    have h1 := Nat.log2_self_le (show m ≠ 0 by omega)
    refine Nat.div_pos (Nat.le_trans ?_ h1) (Nat.two_pow_pos _)
    exact Nat.pow_le_pow_right (by omega) (by omega)

theorem single_parts : single.leastPlace = -149 ∧ (single.fractionBits : Int) = 23 ∧ single.binade = 8388608 ∧ single.infRung = 2139095040 := ⟨rfl, rfl, rfl, rfl⟩
theorem rung_le (a k e : Nat) (h : a + 2 ≤ e) (hk : k ≤ 16777216) : min (a * 8388608 + k) 2139095040 ≤ e * 8388608 := by
  have h1 : a * 8388608 + k ≤ e * 8388608 := by omega
  exact Nat.le_trans (Nat.min_le_left _ _) h1
theorem rung_pos (a k : Nat) (hk : 0 < k) : 0 < min (a * 8388608 + k) 2139095040 := by
  rw [Nat.lt_min]
  exact ⟨by omega, by omega⟩
/-- a number below 2 to the E + 1, rounded -/
theorem near_low (s : Bool) (m : Nat) (p E : Int) (h0 : 0 < m) (hE : p + (m.log2 : Int) ≤ E) (hE1 : -126 ≤ E) (hE2 : E ≤ 126) :
    ∃ r, single.nearest s m p = single.word s r ∧ r ≤ (E + 128).toNat * 8388608 ∧ (-149 ≤ p → 0 < r) := by
  obtain ⟨d1, d2, d3, d4⟩ := single_parts
  have hk := kept_le s m p (max (p + (m.log2 : Int) - 23) (-149)) (by omega)
  have hpos := fun hp => kept_pos s m p h0 hp
  unfold Format.nearest
  rw [if_neg (by omega)]
  simp only [d1, d2, d3, d4]
  exact ⟨_, rfl, rung_le _ _ _ (by omega) hk, fun hp => rung_pos _ _ (hpos hp)⟩
/-- whatever is rounded: a number or an infinity of its sign -/
theorem near_any (s : Bool) (m : Nat) (p : Int) : ∃ r, single.nearest s m p = single.word s r ∧ r ≤ 2139095040 ∧ (m = 0 → r = 0) ∧ (0 < m → -149 ≤ p → 0 < r) := by
  obtain ⟨d1, d2, d3, d4⟩ := single_parts
  by_cases hm : m = 0
  · unfold Format.nearest
    rw [if_pos hm]
    exact ⟨0, rfl, by omega, fun _ => rfl, fun h => by omega⟩
  · have hpos := fun hp => kept_pos s m p (by omega) hp
    unfold Format.nearest
    rw [if_neg hm]
    simp only [d1, d2, d3, d4]
    exact ⟨_, rfl, Nat.min_le_right _ _, fun h => absurd h hm, fun _ hp => rung_pos _ _ (hpos hp)⟩

/-- a number of at least 0, or the infinity that is greater than all -/
def Up (x : Nat) : Prop := (∃ s m p, single.read x = .number s m p ∧ m < 16777216 ∧ -149 ≤ p ∧ p ≤ 104 ∧ (m = 0 → p = -149) ∧ (s = true → m = 0)) ∨ single.read x = .infinity false
theorem up_word (r : Nat) (h : r ≤ 2139095040) : Up (single.word false r) := by
  by_cases h1 : r < 2139095040
  · obtain ⟨m, p, hr, h2, h3, h4, h5, h6, h7⟩ := read_word32 false r h1
    exact .inl ⟨false, m, p, hr, h2, h3, h7, h6, fun h => by cases h⟩
  · obtain rfl : r = 2139095040 := by omega
    exact .inr (by decide)
theorem up_zero (s : Bool) : Up (single.word s 0) := by
  cases s
  · exact .inl ⟨false, 0, -149, by decide, by omega, by omega, by omega, fun _ => rfl, fun h => by cases h⟩
  · exact .inl ⟨true, 0, -149, by decide, by omega, by omega, by omega, fun _ => rfl, fun _ => rfl⟩

theorem ltz_read (x : Nat) (s : Bool) (m : Nat) (p : Int) (hr : single.read x = .number s m p) (h : (FloatKind.f32.format.order x 0 == some .lt) = false) : s = true → m = 0 := by
  intro hs
  subst hs
  have h2 : ((single.read x).order (single.read 0) == some .lt) = false := h
  have h0 : single.read 0 = .number false 0 (-149) := by decide
  rw [hr, h0] at h2
  simp only [Datum.order, signed] at h2
  rcases Nat.eq_zero_or_pos m with h3 | h3
  · exact h3
  · exfalso
    have h4 : 0 < m <<< (p - min p (-149)).toNat := by rw [Nat.shiftLeft_eq]; exact Nat.mul_pos h3 (Nat.two_pow_pos _)
    generalize m <<< (p - min p (-149)).toNat = a at *
    have h5 : compare (-(a : Int)) 0 = .lt := by
      rw [Int.compare_eq_lt]; omega
    simp only [if_true, Nat.zero_shiftLeft, Bool.false_eq_true, if_false, Int.cast_ofNat_Int, h5] at h2
    exact absurd h2 (by decide)
theorem up_fin (x : Nat) (hf : fin x = true) (h : (FloatKind.f32.format.order x 0 == some .lt) = false) : Up x := by
  obtain ⟨s, m, p, hr, h1, h2, h3, h4⟩ := fin_read2 x hf
  exact .inl ⟨s, m, p, hr, h1, h2, h3, h4, ltz_read x s m p hr h⟩

/-- greater than 0 -/
def gtz (x : Nat) : Bool := FloatKind.f32.format.order x 0 == some .gt
theorem gtz_read (x : Nat) (hf : fin x = true) (h : gtz x = true) : ∃ m p, single.read x = .number false m p ∧ 0 < m ∧ m < 16777216 ∧ -149 ≤ p ∧ p ≤ 104 := by
  obtain ⟨s, m, p, hr, h1, h2, h3, h4⟩ := fin_read2 x hf
  have h2' : ((single.read x).order (single.read 0) == some .gt) = true := h
  have h0 : single.read 0 = .number false 0 (-149) := by decide
  rw [hr, h0] at h2'
  simp only [Datum.order, signed, beq_iff_eq, Option.some.injEq, Int.compare_eq_gt, Nat.zero_shiftLeft] at h2'
  generalize hg : m <<< (p - min p (-149)).toNat = a at *
  cases s
  · simp at h2'
    rcases Nat.eq_zero_or_pos m with h5 | h5
    · subst h5; rw [Nat.zero_shiftLeft] at hg; omega
    · exact ⟨m, p, hr, h5, h1, h2, h3⟩
  · simp at h2'
    omega

/-- a quotient by a number greater than 0 -/
theorem div_up (x q : Nat) (hx : Up x) (hq : fin q = true) (hq0 : gtz q = true) : ∃ r, single.div x q = some r ∧ Up r := by
  obtain ⟨n, j, hqr, hn, _, _, _⟩ := gtz_read q hq hq0
  unfold Format.div
  rw [hqr]
  rcases hx with ⟨s, m, p, hr, _, _, _, _, hs⟩ | hr
  · rw [hr]
    simp only [Datum.quotient, show ¬ n = 0 by omega, if_false, Option.map_some, Bool.xor_false, Format.write]
    refine ⟨_, rfl, ?_⟩
    by_cases hm : m = 0
    · subst hm
      simp only [Nat.zero_shiftLeft, Nat.zero_div, Nat.zero_mod]
      have : single.nearest s (2 * 0 + ((0 : Nat) != 0).toNat) (p - j - ((single.fractionBits + 2 + n.log2 - Nat.log2 0 : Nat) : Int) - 1) = single.word s 0 := by
        unfold Format.nearest; rw [if_pos (by rfl)]
      rw [this]
      exact up_zero s
    · have hs' : s = false := by cases s <;> simp_all
      subst hs'
      obtain ⟨r, h1, h2, _⟩ := near_any false (2 * (m <<< (single.fractionBits + 2 + n.log2 - m.log2) / n) + (m <<< (single.fractionBits + 2 + n.log2 - m.log2) % n != 0).toNat) (p - j - ((single.fractionBits + 2 + n.log2 - m.log2 : Nat) : Int) - 1)
      rw [h1]
      exact up_word r h2
  · rw [hr]
    exact ⟨_, rfl, .inr (by decide)⟩

theorem cut_zero_le (s : Bool) (n d : Nat) : Toward.zero.cut s n d ≤ n := by
  unfold Toward.cut
  exact Nat.div_le_self _ _
/-- the float of a step's last number -/
theorem last_read : ∀ k : Fin 256, 0 < k.val → ∃ M : Nat, ∃ P : Int, single.read (floatOfInt .f32 (k.val : Int)) = .number false M P ∧ M < 16777216 ∧ -149 ≤ P ∧ P ≤ -16 := by
  have : ∀ k : Fin 256, 0 < k.val → (match single.read (floatOfInt .f32 (k.val : Int)) with | .number s M P => !s && decide (M < 16777216) && decide (-149 ≤ P) && decide (P ≤ -16) | _ => false) = true := by decide +kernel
  intro k hk
  have h := this k hk
  split at h
  · rename_i s M P he
    simp only [Bool.and_eq_true, decide_eq_true_eq, Bool.not_eq_true'] at h
    obtain ⟨⟨⟨h1, h2⟩, h3⟩, h4⟩ := h
    exact ⟨M, P, by rw [he, h1], h2, h3, h4⟩
  · cases h

/-- a quotient below that, with a half, has a whole part -/
theorem half_whole (x c : Nat) (hx : Up x) (hc : ∃ M : Nat, ∃ P : Int, single.read c = .number false M P ∧ M < 16777216 ∧ -149 ≤ P ∧ P ≤ -16) (h : (FloatKind.f32.format.order x c == some .gt || FloatKind.f32.format.order x c == some .eq) = false) :
    ∃ y n, single.add x 1056964608 = some y ∧ floatToIntVal .f32 y .i64 = some n ∧ -16777216 ≤ n ∧ n ≤ 16777216 := by
  obtain ⟨M, P, hc1, hM, hP, hP2⟩ := hc
  have hor : FloatKind.f32.format.order x c = (single.read x).order (single.read c) := rfl
  rw [hor, hc1] at h
  rcases hx with ⟨s, m, p, hr, h1, h2, h3, h4, hs⟩ | hr
  rotate_left
  · rw [hr] at h; simp [Datum.order] at h
  rw [hr] at h
  simp only [Datum.order, Bool.or_eq_false_iff, beq_eq_false_iff_ne, ne_eq, Option.some.injEq] at h
  -- below 2 to the 8
  have hlow : m * 2 ^ (p + 149).toNat < 2 ^ 157 := by
    have h5 : signed s m (p - min p P).toNat < signed false M (P - min p P).toNat := by
      rcases Int.lt_trichotomy (signed s m (p - min p P).toNat) (signed false M (P - min p P).toNat) with h6 | h6 | h6
      · exact h6
      · exact absurd (by rw [h6, Std.LawfulEqCmp.compare_eq_iff_eq]) h.2
      · exact absurd (by rw [Int.compare_eq_gt]; exact h6) h.1
    have h7 : m * 2 ^ (p - min p P).toNat < M * 2 ^ (P - min p P).toNat := by
      simp only [signed, Nat.shiftLeft_eq, Bool.false_eq_true, if_false] at h5
      generalize hA : m * 2 ^ (p - min p P).toNat = A at *
      generalize M * 2 ^ (P - min p P).toNat = B at *
      cases s
      · simp at h5; omega
      · have := hs rfl
        subst this
        simp at hA
        subst hA
        simp at h5
        omega
    have h8 : m * 2 ^ (p - min p P).toNat * 2 ^ (min p P + 149).toNat < M * 2 ^ (P - min p P).toNat * 2 ^ (min p P + 149).toNat := Nat.mul_lt_mul_of_pos_right h7 (Nat.two_pow_pos _)
    rw [Nat.mul_assoc, Nat.mul_assoc, ← Nat.pow_add, ← Nat.pow_add, show (p - min p P).toNat + (min p P + 149).toNat = (p + 149).toNat by omega, show (P - min p P).toNat + (min p P + 149).toNat = (P + 149).toNat by omega] at h8
    have h9 : M * 2 ^ (P + 149).toNat ≤ 2 ^ 24 * 2 ^ 133 := Nat.mul_le_mul (by omega) (Nat.pow_le_pow_right (by omega) (by omega))
    rw [← Nat.pow_add] at h9
    omega
  have hp7 : p + (m.log2 : Int) ≤ 7 := by
    rcases Nat.eq_zero_or_pos m with hm | hm
    · rw [h4 hm, hm]; decide
    · have h5 := Nat.log2_self_le (show m ≠ 0 by omega)
      have h6 : 2 ^ m.log2 * 2 ^ (p + 149).toNat ≤ m * 2 ^ (p + 149).toNat := Nat.mul_le_mul_right _ h5
      rw [← Nat.pow_add] at h6
      have h7 : 2 ^ (m.log2 + (p + 149).toNat) < 2 ^ 157 := by omega
      have h8 := (Nat.pow_lt_pow_iff_right (show 1 < 2 by omega)).1 h7
      omega
  have h12 : single.read 1056964608 = .number false 8388608 (-24) := by decide
  unfold Format.add
  rw [hr, h12]
  simp only [Datum.sum, Option.map_some, Format.write]
  -- the sum's digits
  generalize hb : min p (-24) = b
  have hsum : signed s m (p - b).toNat + signed false 8388608 (-24 - b).toNat = ((m * 2 ^ (p - b).toNat + 8388608 * 2 ^ (-24 - b).toNat : Nat) : Int) := by
    simp only [signed, Nat.shiftLeft_eq, Bool.false_eq_true, if_false]
    cases s
    · simp
    · have := hs rfl
      subst this
      simp
  rw [hsum]
  have hT : m * 2 ^ (p - b).toNat + 8388608 * 2 ^ (-24 - b).toNat < 2 ^ (9 - b).toNat := by
    have h5 : m * 2 ^ (p - b).toNat < 2 ^ (m.log2 + 1) * 2 ^ (p - b).toNat := Nat.mul_lt_mul_of_pos_right (lt_two_log m) (Nat.two_pow_pos _)
    rw [← Nat.pow_add] at h5
    have h6 : 2 ^ (m.log2 + 1 + (p - b).toNat) ≤ 2 ^ (8 - b).toNat := Nat.pow_le_pow_right (by omega) (by omega)
    have h7 : 8388608 * 2 ^ (-24 - b).toNat ≤ 2 ^ (8 - b).toNat := by
      rw [show 8388608 = 2 ^ 23 by decide, ← Nat.pow_add]
      exact Nat.pow_le_pow_right (by omega) (by omega)
    rw [show (9 - b).toNat = (8 - b).toNat + 1 by omega, Nat.pow_succ]
    omega
  have hT0 : 0 < m * 2 ^ (p - b).toNat + 8388608 * 2 ^ (-24 - b).toNat := by
    have : 0 < 8388608 * 2 ^ (-24 - b).toNat := Nat.mul_pos (by omega) (Nat.two_pow_pos _)
    omega
  generalize m * 2 ^ (p - b).toNat + 8388608 * 2 ^ (-24 - b).toNat = T at *
  have hl : T.log2 < (9 - b).toNat := (Nat.log2_lt (by omega)).2 hT
  rw [if_neg (by omega), decide_eq_false (by omega), show ((T : Int)).natAbs = T from rfl]
  obtain ⟨r, hn, hr1, _⟩ := near_low false T b 8 hT0 (by omega) (by omega) (by omega)
  have hr2 : r ≤ 136 * 8388608 := hr1
  obtain ⟨m', p', hw, g1, g2, g3, _⟩ := read_word32 false r (by omega)
  have hd : r / 8388608 ≤ 136 := by omega
  have hc2 := cut_zero_le false (m' <<< p'.toNat) (-p').toNat
  rw [show p'.toNat = 0 by omega, Nat.shiftLeft_zero] at hc2
  have hti : (FloatKind.f32.decode (single.word false r)).toInt .zero = some (Toward.zero.cut false m' (-p').toNat : Int) := by
    show (single.read (single.word false r)).toInt .zero = _
    rw [hw]
    simp only [Datum.toInt, Datum.integral]
    rw [show p'.toNat = 0 by omega, Nat.shiftLeft_zero]
    simp [signed]
  generalize hZ : Toward.zero.cut false m' (-p').toNat = Z at *
  refine ⟨single.word false r, (Z : Int), by rw [hn], ?_, by omega, by omega⟩
  unfold floatToIntVal
  rw [hti]
  simp only
  rw [if_pos]
  have m1 : IntKind.min .i64 = -9223372036854775808 := by decide
  have m2 : IntKind.max .i64 = 9223372036854775807 := by decide
  rw [m1, m2]
  omega
end Go.Proofs.YtjmfffgddmnkmabDoor
