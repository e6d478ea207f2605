/- Whole numbers in float32: sums, products, exact quotients and comparisons are exact while they stay below 2 to the 24. Condition: none. -/
import Derived.Test.YtclflnpbiiimiaaDoorM17
import Derived.Test.YtclflnpbiiimiaaDoorM4
namespace Go.Proofs.YtclflnpbiiimiaaDoor
open Go Go.RowKit Ieee

theorem lt_or_geI (a b : Int) : a < b ∨ b ≤ a := by omega
/-- a sign as a number -/
def sI (s : Bool) : Int := if s then -1 else 1
theorem signed_cast (s : Bool) (m u : Nat) : signed s m u = sI s * ((m * 2 ^ u : Nat) : Int) := by
  unfold signed sI
  rw [Nat.shiftLeft_eq]
  cases s <;> simp
theorem sI_abs (s : Bool) : (sI s).natAbs = 1 := by cases s <;> rfl
theorem sI_mul (s t : Bool) : sI (s ^^ t) = sI s * sI t := by cases s <;> cases t <;> rfl

/-- the float32 x is the whole number z -/
def Wh (z : Int) (x : Nat) : Prop := ∃ (s : Bool) (m : Nat) (p : Int), single.read x = .number s m p ∧ -149 ≤ p ∧ signed s m (p + 149).toNat = z * ((2 ^ 149 : Nat) : Int)

theorem read_zero_word (s : Bool) : single.read (single.word s 0) = .number s 0 (-149) := by cases s <;> decide

theorem near_wh (s : Bool) (M : Nat) (base : Int) (K : Nat) (z : Int) (hb : 0 ≤ base + K) (h : signed s M (base + K).toNat = z * ((2 ^ K : Nat) : Int)) (hz : z.natAbs < 16777216) :
    Wh z (single.nearest s M base) := by
  rw [signed_cast] at h
  have hK : 0 < 2 ^ K := Nat.two_pow_pos K
  have he : 0 < 2 ^ (base + K).toNat := Nat.two_pow_pos _
  have hn : M * 2 ^ (base + K).toNat = z.natAbs * 2 ^ K := by
    have := congrArg Int.natAbs h
    rwa [Int.natAbs_mul, Int.natAbs_mul, sI_abs, Nat.one_mul, Int.natAbs_natCast, Int.natAbs_natCast] at this
  by_cases h0 : z = 0
  · subst h0
    have hM : M = 0 := by
      rw [Int.natAbs_zero, Nat.zero_mul] at hn
      rcases Nat.mul_eq_zero.1 hn with h | h
      · exact h
      · omega
    subst hM
    have e : single.nearest s 0 base = single.word s 0 := by simp [Format.nearest]
    rw [e]
    exact ⟨s, 0, -149, read_zero_word s, by omega, by rw [signed_cast]; simp⟩
  · have hsz : z = sI s * ((z.natAbs : Nat) : Int) := by
      obtain ⟨Y, hY⟩ : ∃ Y : Int, Y = ((M * 2 ^ (base + K).toNat : Nat) : Int) := ⟨_, rfl⟩
      have hY0 : 0 ≤ Y := by rw [hY]; exact Int.natCast_nonneg _
      rw [← hY] at h
      clear hY hn
      cases s
      · have h1 : 0 ≤ z := by
          rcases lt_or_geI z 0 with h2 | h2
          · exfalso
            have h3 : z * ((2 ^ K : Nat) : Int) < 0 := Int.mul_neg_of_neg_of_pos h2 (by omega)
            rw [← h] at h3
            simp [sI] at h3
            omega
          · exact h2
        simp [sI]
        omega
      · have h1 : z ≤ 0 := by
          rcases lt_or_geI 0 z with h2 | h2
          · exfalso
            have h3 : 0 < z * ((2 ^ K : Nat) : Int) := Int.mul_pos h2 (by omega)
            rw [← h] at h3
            simp [sI] at h3
            omega
          · exact h2
        simp [sI]
        omega
    generalize hq : z.natAbs = q at *
    have hq0 : 0 < q := by omega
    have hl : q.log2 < 24 := (Nat.log2_lt (by omega)).2 hz
    have hl2 := (Nat.log2_eq_iff (show q ≠ 0 by omega) (k := q.log2)).1 rfl
    obtain ⟨k, hk⟩ : ∃ k : Nat, k + q.log2 = 23 := ⟨23 - q.log2, by omega⟩
    have hk0 : 0 < 2 ^ k := Nat.two_pow_pos k
    obtain ⟨d1, d2, d3, d4⟩ := single_facts
    have hlo : 8388608 ≤ q * 2 ^ k := by
      have h1 : 2 ^ q.log2 * 2 ^ k ≤ q * 2 ^ k := Nat.mul_le_mul_right _ hl2.1
      rw [← Nat.pow_add, show q.log2 + k = 23 by omega] at h1
      exact h1
    have hhi : q * 2 ^ k < 16777216 := by
      have h1 : q * 2 ^ k < 2 ^ (q.log2 + 1) * 2 ^ k := Nat.mul_lt_mul_of_pos_right hl2.2 hk0
      rw [← Nat.pow_add, show q.log2 + 1 + k = 24 by omega] at h1
      exact h1
    have hF : Fits single (q * 2 ^ k) (-(k : Int)) := by
      refine ⟨by omega, by rw [d1]; omega, by rw [d2]; omega, .inl (by rw [d2]; omega), ?_⟩
      rw [d1, d2, d3]
      omega
    have hw : single.nearest s M base = single.word s (rungOf single (q * 2 ^ k) (-(k : Int))) := by
      generalize hee : (base + K).toNat = e at *
      rcases lt_or_geI (-(k : Int)) base with h1 | h1
      · obtain ⟨b, hb2⟩ : ∃ b : Nat, base = -(k : Int) + b := ⟨(base + k).toNat, by omega⟩
        rw [hb2]
        refine nearest_down hF s M b ?_
        refine Nat.eq_of_mul_eq_mul_right he ?_
        have h2 : e + k = K + b := by omega
        calc M * 2 ^ b * 2 ^ e = M * 2 ^ e * 2 ^ b := Nat.mul_right_comm _ _ _
          _ = q * 2 ^ K * 2 ^ b := by rw [hn]
          _ = q * 2 ^ k * 2 ^ e := by rw [Nat.mul_assoc, Nat.mul_assoc, ← Nat.pow_add, ← Nat.pow_add, show K + b = k + e by omega]
      · obtain ⟨a, ha⟩ : ∃ a : Nat, base = -(k : Int) - a := ⟨(-(k : Int) - base).toNat, by omega⟩
        have hM : M = q * 2 ^ k * 2 ^ a := by
          refine Nat.eq_of_mul_eq_mul_right he ?_
          rw [hn, Nat.mul_assoc, Nat.mul_assoc, ← Nat.pow_add, ← Nat.pow_add, show k + (a + e) = K by omega]
        rw [ha, hM]
        exact nearest_up hF s a
    rw [hw]
    refine ⟨s, q * 2 ^ k, -(k : Int), read_rung hF s, by omega, ?_⟩
    rw [signed_cast, Nat.mul_assoc, ← Nat.pow_add, show k + (-(k : Int) + 149).toNat = 149 by omega, Int.natCast_mul, ← Int.mul_assoc, ← hsz]

theorem wh_read {z : Int} {x : Nat} (h : Wh z x) : ∃ (s : Bool) (m : Nat) (p : Int), single.read x = .number s m p ∧ -149 ≤ p ∧ signed s m (p + 149).toNat = z * ((2 ^ 149 : Nat) : Int) := h
theorem wh_fin {z : Int} {x : Nat} (h : Wh z x) : fin x = true := by
  obtain ⟨s, m, p, hr, _⟩ := h
  cases hf : fin x
  · rcases inf_read x hf with ⟨t, ht⟩ | ⟨t, u, ht⟩ <;> rw [ht] at hr <;> cases hr
  · rfl

theorem signed_shift (s : Bool) (m : Nat) (i base : Int) (K : Nat) (h1 : base ≤ i) (h2 : 0 ≤ base + K) : signed s m (i - base).toNat * ((2 ^ (base + K).toNat : Nat) : Int) = signed s m (i + K).toNat := by
  rw [signed_cast, signed_cast, Int.mul_assoc, ← Int.natCast_mul, Nat.mul_assoc, ← Nat.pow_add, show (i - base).toNat + (base + K).toNat = (i + K).toNat by omega]
theorem signed_abs (c : Bool) (t : Int) (u : Nat) : signed (if t = 0 then c else decide (t < 0)) t.natAbs u = t * ((2 ^ u : Nat) : Int) := by
  rw [signed_cast, Int.natCast_mul, ← Int.mul_assoc]
  congr 1
  by_cases h : t = 0
  · subst h; simp
  · rw [if_neg h]
    by_cases h2 : t < 0
    · rw [decide_eq_true h2]; simp [sI]; omega
    · rw [decide_eq_false h2]; simp [sI]; omega

theorem wh_add {a b : Int} {x y : Nat} (hx : Wh a x) (hy : Wh b y) (h : (a + b).natAbs < 16777216) : single.add x y = some (addF x y) ∧ Wh (a + b) (addF x y) := by
  obtain ⟨s, m, i, hr, hi, hs⟩ := hx
  obtain ⟨t, n, j, hq, hj, ht⟩ := hy
  have key : ∃ c : Bool, single.add x y = some (single.nearest c (signed s m (i - min i j).toNat + signed t n (j - min i j).toNat).natAbs (min i j)) ∧
      c = (if signed s m (i - min i j).toNat + signed t n (j - min i j).toNat = 0 then s && t else decide (signed s m (i - min i j).toNat + signed t n (j - min i j).toNat < 0)) := by
    refine ⟨_, ?_, rfl⟩
    unfold Format.add
    rw [hr, hq]
    rfl
  obtain ⟨c, h1, h2⟩ := key
  have e : addF x y = single.nearest c (signed s m (i - min i j).toNat + signed t n (j - min i j).toNat).natAbs (min i j) := by unfold addF; rw [h1]; rfl
  refine ⟨by rw [e]; exact h1, ?_⟩
  rw [e]
  refine near_wh _ _ _ 149 _ (by omega) ?_ h
  rw [h2, signed_abs, Int.add_mul]
  rw [signed_shift s m i (min i j) 149 (by omega) (by omega), signed_shift t n j (min i j) 149 (by omega) (by omega), Int.add_mul]
  exact congr (congrArg _ hs) ht

theorem wh_mul {a b : Int} {x y : Nat} (hx : Wh a x) (hy : Wh b y) (h : (a * b).natAbs < 16777216) : single.mul x y = some (mulF x y) ∧ Wh (a * b) (mulF x y) := by
  obtain ⟨s, m, i, hr, hi, hs⟩ := hx
  obtain ⟨t, n, j, hq, hj, ht⟩ := hy
  have h1 : single.mul x y = some (single.nearest (s ^^ t) (m * n) (i + j)) := by
    unfold Format.mul
    rw [hr, hq]
    rfl
  have e : mulF x y = single.nearest (s ^^ t) (m * n) (i + j) := by unfold mulF; rw [h1]; rfl
  refine ⟨by rw [e]; exact h1, ?_⟩
  rw [e]
  obtain ⟨K, hK⟩ : ∃ K : Nat, K = 149 := ⟨_, rfl⟩
  refine near_wh _ _ _ (K + K) _ (by omega) ?_ h
  rw [signed_cast, sI_mul]
  rw [signed_cast, ← hK] at hs ht
  have h3 : (m * n * 2 ^ (i + j + ((K + K : Nat) : Int)).toNat : Nat) = (m * 2 ^ (i + 149).toNat) * (n * 2 ^ (j + 149).toNat) := by
    rw [Nat.mul_mul_mul_comm, ← Nat.pow_add, show (i + 149).toNat + (j + 149).toNat = (i + j + ((K + K : Nat) : Int)).toNat by omega]
  rw [h3, Int.natCast_mul, Nat.pow_add, Int.natCast_mul (2 ^ K)]
  calc sI s * sI t * (((m * 2 ^ (i + 149).toNat : Nat) : Int) * ((n * 2 ^ (j + 149).toNat : Nat) : Int))
      = (sI s * ((m * 2 ^ (i + 149).toNat : Nat) : Int)) * (sI t * ((n * 2 ^ (j + 149).toNat : Nat) : Int)) := by ac_rfl
    _ = (a * ((2 ^ K : Nat) : Int)) * (b * ((2 ^ K : Nat) : Int)) := by rw [hs, ht]
    _ = a * b * (((2 ^ K : Nat) : Int) * ((2 ^ K : Nat) : Int)) := by ac_rfl

theorem wh_eq {a : Int} {x y : Nat} (hx : Wh a x) (hy : Wh a y) : (FloatKind.f32.format.order x y == some .eq) = true := by
  obtain ⟨s, m, i, hr, hi, hs⟩ := hx
  obtain ⟨t, n, j, hq, hj, ht⟩ := hy
  have h0 : FloatKind.f32.format.order x y = some (compare (signed s m (i - min i j).toNat) (signed t n (j - min i j).toNat)) := by
    show single.order x y = _
    unfold Format.order
    rw [hr, hq]
    rfl
  have h1 := signed_shift s m i (min i j) 149 (by omega) (by omega)
  have h2 := signed_shift t n j (min i j) 149 (by omega) (by omega)
  have h3 : signed s m (i - min i j).toNat = signed t n (j - min i j).toNat := by
    refine Int.eq_of_mul_eq_mul_right (a := ((2 ^ (min i j + (149 : Nat)).toNat : Nat) : Int)) ?_ ?_
    · have := Nat.two_pow_pos (min i j + (149 : Nat)).toNat; omega
    · rw [h1, h2]
      exact hs.trans ht.symm
  rw [h0, h3]
  have : compare (signed t n (j - min i j).toNat) (signed t n (j - min i j).toNat) = .eq := by
    rw [Int.compare_eq_eq]
  rw [this]
  rfl

theorem wh_int (z : Int) (h : z.natAbs < 16777216) : Wh z (floatOfInt .f32 z) := by
  have e : floatOfInt .f32 z = single.nearest (decide (z < 0)) z.natAbs 0 := rfl
  rw [e]
  refine near_wh _ _ _ 0 _ (by omega) ?_ h
  have h1 := signed_abs false z 0
  by_cases h0 : z = 0
  · subst h0; rw [signed_cast]; simp
  · rw [if_neg h0] at h1
    exact h1

/-- an exact quotient -/
theorem wh_div {a b : Int} {x y : Nat} (hx : Wh (a * b) x) (hy : Wh b y) (hb : b ≠ 0) (h : a.natAbs < 16777216) : ∃ r, single.div x y = some r ∧ Wh a r := by
  obtain ⟨s, m, i, hr, hi, hs⟩ := hx
  obtain ⟨t, n, j, hq, hj, ht⟩ := hy
  rw [signed_cast] at hs ht
  have hsn : m * 2 ^ (i + 149).toNat = a.natAbs * b.natAbs * 2 ^ 149 := by
    have := congrArg Int.natAbs hs
    rwa [Int.natAbs_mul, Int.natAbs_mul, Int.natAbs_mul, sI_abs, Nat.one_mul, Int.natAbs_natCast, Int.natAbs_natCast] at this
  have htn : n * 2 ^ (j + 149).toNat = b.natAbs * 2 ^ 149 := by
    have := congrArg Int.natAbs ht
    rwa [Int.natAbs_mul, Int.natAbs_mul, sI_abs, Nat.one_mul, Int.natAbs_natCast, Int.natAbs_natCast] at this
  have hn0 : n ≠ 0 := by
    rintro rfl
    rw [Nat.zero_mul] at htn
    have : 0 < b.natAbs * 2 ^ 149 := Nat.mul_pos (by omega) (Nat.two_pow_pos _)
    omega
  obtain ⟨mo, hmo⟩ : ∃ mo : Nat, mo = single.fractionBits + 2 + n.log2 - m.log2 := ⟨_, rfl⟩
  have h0 : single.div x y = some (single.nearest (s ^^ t) (2 * ((m <<< mo) / n) + ((m <<< mo) % n != 0).toNat) (i - j - mo - 1)) := by
    unfold Format.div
    rw [hr, hq]
    simp only [Datum.quotient, if_neg hn0]
    rw [hmo]
    rfl
  refine ⟨_, h0, ?_⟩
  have hkey : m * 2 ^ (i + 149).toNat = a.natAbs * (n * 2 ^ (j + 149).toNat) := by rw [hsn, htn, Nat.mul_assoc]
  rw [Nat.shiftLeft_eq]
  by_cases ha : a = 0
  · subst ha
    have hm : m = 0 := by
      rw [Int.natAbs_zero, Nat.zero_mul] at hkey
      rcases Nat.mul_eq_zero.1 hkey with h | h
      · exact h
      · have := Nat.two_pow_pos (i + 149).toNat; omega
    subst hm
    have e : 2 * (0 * 2 ^ mo / n) + (0 * 2 ^ mo % n != 0).toNat = 0 := by simp
    rw [e]
    have e : single.nearest (s ^^ t) 0 (i - j - mo - 1) = single.word (s ^^ t) 0 := by simp [Format.nearest]
    rw [e]
    exact ⟨_, 0, -149, read_zero_word _, by omega, by rw [signed_cast]; simp⟩
  · have hm0 : m ≠ 0 := by
      rintro rfl
      rw [Nat.zero_mul] at hkey
      have : 0 < a.natAbs * (n * 2 ^ (j + 149).toNat) := Nat.mul_pos (by omega) (Nat.mul_pos (by omega) (Nat.two_pow_pos _))
      omega
    have l1 := (Nat.log2_eq_iff hm0 (k := m.log2)).1 rfl
    have l2 := (Nat.log2_eq_iff hn0 (k := n.log2)).1 rfl
    have hfb : single.fractionBits = 23 := rfl
    rw [hfb] at hmo
    have hbig : n * 16777216 < m * 2 ^ mo := by
      have h1 : 2 ^ m.log2 * 2 ^ mo ≤ m * 2 ^ mo := Nat.mul_le_mul_right _ l1.1
      rw [← Nat.pow_add] at h1
      have h2 : 2 ^ (n.log2 + 25) ≤ 2 ^ (m.log2 + mo) := Nat.pow_le_pow_right (by omega) (by omega)
      have h3 : n * 16777216 < 2 ^ (n.log2 + 1) * 16777216 := Nat.mul_lt_mul_of_pos_right l2.2 (by omega)
      have h4 : 2 ^ (n.log2 + 1) * 16777216 = 2 ^ (n.log2 + 25) := by
        rw [show (16777216 : Nat) = 2 ^ 24 by decide, ← Nat.pow_add]
      omega
    -- the place of the quotient
    have hd : ∃ d : Nat, j - i + mo = (d : Int) := by
      refine ⟨(j - i + mo).toNat, ?_⟩
      rcases lt_or_geI (j - i + mo) 0 with hneg | hge
      · exfalso
        obtain ⟨g, hg⟩ : ∃ g : Nat, (i + 149).toNat = (j + 149).toNat + mo + g := ⟨((i + 149).toNat - (j + 149).toNat - mo), by omega⟩
        rw [hg, Nat.pow_add, Nat.pow_add] at hkey
        have h5 : m * 2 ^ mo * 2 ^ g = a.natAbs * n := by
          refine Nat.eq_of_mul_eq_mul_right (Nat.two_pow_pos (j + 149).toNat) ?_
          calc m * 2 ^ mo * 2 ^ g * 2 ^ (j + 149).toNat = m * (2 ^ (j + 149).toNat * 2 ^ mo * 2 ^ g) := by ac_rfl
            _ = a.natAbs * (n * 2 ^ (j + 149).toNat) := hkey
            _ = a.natAbs * n * 2 ^ (j + 149).toNat := by ac_rfl
        have h6 : m * 2 ^ mo ≤ m * 2 ^ mo * 2 ^ g := Nat.le_mul_of_pos_right _ (Nat.two_pow_pos g)
        have h7 : a.natAbs * n ≤ 16777216 * n := Nat.mul_le_mul_right _ (by omega)
        omega
      · omega
    obtain ⟨d, hd⟩ := hd
    have hX : m * 2 ^ mo = a.natAbs * 2 ^ d * n := by
      refine Nat.eq_of_mul_eq_mul_right (Nat.two_pow_pos (i + 149).toNat) ?_
      have e1 : mo + (j + 149).toNat = d + (i + 149).toNat ∨ True := .inr trivial
      have e2 : (j + 149).toNat + mo = d + (i + 149).toNat := by omega
      calc m * 2 ^ mo * 2 ^ (i + 149).toNat = m * 2 ^ (i + 149).toNat * 2 ^ mo := by ac_rfl
        _ = a.natAbs * (n * 2 ^ (j + 149).toNat) * 2 ^ mo := by rw [hkey]
        _ = a.natAbs * n * (2 ^ (j + 149).toNat * 2 ^ mo) := by ac_rfl
        _ = a.natAbs * n * (2 ^ d * 2 ^ (i + 149).toNat) := by rw [← Nat.pow_add, e2, Nat.pow_add]
        _ = a.natAbs * 2 ^ d * n * 2 ^ (i + 149).toNat := by ac_rfl
    have hq1 : m * 2 ^ mo / n = a.natAbs * 2 ^ d := by rw [hX, Nat.mul_div_cancel _ (by omega)]
    have hq2 : m * 2 ^ mo % n = 0 := by rw [hX, Nat.mul_mod_left]
    rw [hq1, hq2]
    have e9 : 2 * (a.natAbs * 2 ^ d) + ((0 : Nat) != 0).toNat = a.natAbs * 2 ^ (d + 1) := by
      rw [Nat.pow_succ]
      have : ((0 : Nat) != 0).toNat = 0 := rfl
      rw [this, Nat.add_zero, Nat.mul_comm 2, Nat.mul_assoc]
    rw [e9, show i - j - mo - 1 = -((d + 1 : Nat) : Int) by omega]
    refine near_wh _ _ _ (d + 1) _ (by omega) ?_ h
    rw [signed_cast, show (-((d + 1 : Nat) : Int) + ((d + 1 : Nat) : Int)).toNat = 0 by omega, Nat.pow_zero, Nat.mul_one, Int.natCast_mul, ← Int.mul_assoc, sI_mul]
    congr 1
    -- the sign of the quotient
    have hc : sI s * sI t * ((a.natAbs : Nat) : Int) = a := by
      have p1 : (0 : Int) < ((m * 2 ^ (i + 149).toNat : Nat) : Int) := by
        have := Nat.mul_pos (Nat.pos_of_ne_zero hm0) (Nat.two_pow_pos (i + 149).toNat); omega
      have p2 : (0 : Int) < ((n * 2 ^ (j + 149).toNat : Nat) : Int) := by
        have := Nat.mul_pos (Nat.pos_of_ne_zero hn0) (Nat.two_pow_pos (j + 149).toNat); omega
      have p3 : (0 : Int) < ((2 ^ 149 : Nat) : Int) := by have := Nat.two_pow_pos 149; omega
      generalize ((m * 2 ^ (i + 149).toNat : Nat) : Int) = A at *
      generalize ((n * 2 ^ (j + 149).toNat : Nat) : Int) = B at *
      generalize ((2 ^ 149 : Nat) : Int) = C at *
      have sb : (0 < b ↔ t = false) := by
        cases t
        · refine ⟨fun _ => rfl, fun _ => ?_⟩
          rw [show sI false = 1 from rfl, Int.one_mul] at ht
          rcases lt_or_geI 0 b with h1 | h1
          · exact h1
          · have : b * C ≤ 0 := Int.mul_nonpos_of_nonpos_of_nonneg h1 (by omega)
            omega
        · refine ⟨fun h1 => ?_, fun h1 => by cases h1⟩
          rw [show sI true = -1 from rfl] at ht
          have : 0 < b * C := Int.mul_pos h1 p3
          omega
      have sa : (0 < a * b ↔ s = false) := by
        cases s
        · refine ⟨fun _ => rfl, fun _ => ?_⟩
          rw [show sI false = 1 from rfl, Int.one_mul] at hs
          rcases lt_or_geI 0 (a * b) with h1 | h1
          · exact h1
          · have : a * b * C ≤ 0 := Int.mul_nonpos_of_nonpos_of_nonneg h1 (by omega)
            omega
        · refine ⟨fun h1 => ?_, fun h1 => by cases h1⟩
          rw [show sI true = -1 from rfl] at hs
          have : 0 < a * b * C := Int.mul_pos h1 p3
          omega
      rcases lt_or_geI 0 b with hb1 | hb1
      · have ht2 := sb.1 hb1
        subst ht2
        rcases lt_or_geI 0 a with ha1 | ha1
        · have := sa.1 (Int.mul_pos ha1 hb1)
          subst this
          simp [sI]; omega
        · have : s = true := by
            cases s
            · have h1 := sa.2 rfl
              have : a * b ≤ 0 := Int.mul_nonpos_of_nonpos_of_nonneg ha1 (by omega)
              omega
            · rfl
          subst this
          simp [sI]; omega
      · have ht2 : t = true := by
          cases t
          · have := sb.2 rfl; omega
          · rfl
        subst ht2
        have hb2 : b < 0 := by omega
        rcases lt_or_geI 0 a with ha1 | ha1
        · have : s = true := by
            cases s
            · have h1 := sa.2 rfl
              have : a * b < 0 := Int.mul_neg_of_pos_of_neg ha1 hb2
              omega
            · rfl
          subst this
          simp [sI]; omega
        · have : s = false := sa.1 (Int.mul_pos_of_neg_of_neg (by omega) hb2)
          subst this
          simp [sI]; omega
    exact hc

/-- the sum of the first n whole numbers of F -/
def zsum (F : Nat → Int) : Nat → Int
  | 0 => 0
  | n + 1 => zsum F n + F n
theorem zsum_congr {F G : Nat → Int} : ∀ n, (∀ j, j < n → F j = G j) → zsum F n = zsum G n
  | 0, _ => rfl
  | n + 1, h => by rw [zsum, zsum, zsum_congr n (fun j hj => h j (by omega)), h n (by omega)]
theorem zsum_add (F G : Nat → Int) : ∀ n, zsum (fun j => F j + G j) n = zsum F n + zsum G n
  | 0 => rfl
  | n + 1 => by rw [zsum, zsum, zsum, zsum_add F G n]; omega
theorem zsum_mul (c : Int) (F : Nat → Int) : ∀ n, zsum (fun j => c * F j) n = c * zsum F n
  | 0 => by rw [zsum, zsum, Int.mul_zero]
  | n + 1 => by rw [zsum, zsum, zsum_mul c F n, Int.mul_add]
theorem zsum_zero : ∀ n, zsum (fun _ => 0) n = 0
  | 0 => rfl
  | n + 1 => by rw [zsum, zsum_zero n]; rfl
theorem zsum_swap (F : Nat → Nat → Int) (m : Nat) : ∀ n, zsum (fun j => zsum (fun i => F i j) m) n = zsum (fun i => zsum (fun j => F i j) n) m
  | 0 => by rw [zsum]; exact (zsum_zero m).symm
  | n + 1 => by
    rw [zsum, zsum_swap F m n, ← zsum_add]
    rfl
theorem zsum_one (F : Nat → Int) (k : Nat) : ∀ n, (∀ j, j < n → j ≠ k → F j = 0) → zsum F n = if k < n then F k else 0
  | 0, _ => by rw [zsum, if_neg (by omega)]
  | n + 1, h => by
    rw [zsum, zsum_one F k n (fun j hj => h j (by omega))]
    by_cases hk : k < n
    · rw [if_pos hk, if_pos (by omega), h n (by omega) (by omega)]; omega
    · rw [if_neg hk]
      by_cases he : k = n
      · subst he; rw [if_pos (by omega)]; omega
      · rw [if_neg (by omega), h n (by omega) (by omega)]; rfl
theorem zsum_abs (F : Nat → Int) (B : Nat) : ∀ n, (∀ j, j < n → (F j).natAbs ≤ B) → (zsum F n).natAbs ≤ n * B
  | 0, _ => by simp [zsum]
  | n + 1, h => by
    have h1 := zsum_abs F B n (fun j hj => h j (by omega))
    have h2 := h n (by omega)
    have h3 := Int.natAbs_add_le (zsum F n) (F n)
    rw [zsum, Nat.succ_mul]
    omega

/-- a sum with an early end of whole numbers is their sum -/
theorem acc_wh {f : Nat → Nat} {F : Nat → Int} (B : Nat) : ∀ n, (∀ j, j < n → Wh (F j) (f j)) → (∀ j, j < n → (F j).natAbs ≤ B) → n * B < 16777216 → ∃ s, accTo f n = some s ∧ Wh (zsum F n) s
  | 0, _, _, _ => ⟨0, rfl, by
    have := wh_int 0 (by decide)
    have e : floatOfInt .f32 0 = 0 := by decide +kernel
    rwa [e] at this⟩
  | n + 1, h, hB, hn => by
    obtain ⟨s, h1, h2⟩ := acc_wh B n (fun j hj => h j (by omega)) (fun j hj => hB j (by omega)) (by rw [Nat.succ_mul] at hn; omega)
    have h3 := zsum_abs F B (n + 1) hB
    obtain ⟨_, h5⟩ := wh_add h2 (h n (by omega)) (by rw [zsum] at h3; omega)
    exact ⟨_, acc_step h1 (wh_fin h5), h5⟩
/-- so is a list of such sums -/
theorem rows_wh {f : Nat → Nat → Nat} {F : Nat → Nat → Int} (B m : Nat) (hm : m * B < 16777216) : ∀ n, (∀ k, k < n → ∀ j, j < m → Wh (F k j) (f k j) ∧ (F k j).natAbs ≤ B) →
    ∃ R, rowsTo (fun k => accTo (f k) m) n = some R ∧ R.length = n ∧ ∀ k, k < n → Wh (zsum (F k) m) (R.getD k 0)
  | 0, _ => ⟨[], rfl, rfl, fun k hk => by omega⟩
  | n + 1, h => by
    obtain ⟨R, h1, h2, h3⟩ := rows_wh B m hm n (fun k hk => h k (by omega))
    obtain ⟨s, h4, h5⟩ := acc_wh (f := f n) (F := F n) B m (fun j hj => (h n (by omega) j hj).1) (fun j hj => (h n (by omega) j hj).2) hm
    refine ⟨R ++ [s], rows_step h1 h4, by rw [List.length_append, h2]; rfl, fun k hk => ?_⟩
    rw [List.getD_eq_getElem?_getD]
    by_cases hk2 : k < n
    · rw [List.getElem?_append_left (by omega), ← List.getD_eq_getElem?_getD]
      exact h3 k hk2
    · obtain rfl : k = n := by omega
      rw [List.getElem?_append_right (by omega), h2]
      simpa using h5

end Go.Proofs.YtclflnpbiiimiaaDoor
