/- Sums by codes of whole numbers are exact; codes of Walsh are orthogonal; sums by codes back are the numbers. Condition: small whole numbers. -/
import Derived.Test.YtclflnpbiiimiaaDoorM42
import Derived.Test.YtclflnpbiiimiaaDoorM18
namespace Go.Proofs.YtclflnpbiiimiaaDoor
open Go Go.RowKit Ieee

theorem opp_signed (t : Bool) (n u : Nat) : signed (!t) n u = -signed t n u := by
  rw [signed_cast, signed_cast]
  cases t <;> simp [sI]
theorem wh_sub {a b : Int} {x y : Nat} (hx : Wh a x) (hy : Wh b y) (h : (a - b).natAbs < 16777216) : single.sub x y = some (subF x y) ∧ Wh (a - b) (subF x y) := by
  obtain ⟨s, m, i, hr, hi, hs⟩ := hx
  obtain ⟨t, n, j, hq, hj, ht⟩ := hy
  have key : ∃ c : Bool, single.sub x y = some (single.nearest c (signed s m (i - min i j).toNat + signed (!t) n (j - min i j).toNat).natAbs (min i j)) ∧
      c = (if signed s m (i - min i j).toNat + signed (!t) n (j - min i j).toNat = 0 then s && !t else decide (signed s m (i - min i j).toNat + signed (!t) n (j - min i j).toNat < 0)) := by
    refine ⟨_, ?_, rfl⟩
    unfold Format.sub
    rw [hr, hq]
    rfl
  obtain ⟨c, h1, h2⟩ := key
  have e : subF x y = single.nearest c (signed s m (i - min i j).toNat + signed (!t) n (j - min i j).toNat).natAbs (min i j) := by unfold subF; rw [h1]; rfl
  refine ⟨by rw [e]; exact h1, ?_⟩
  rw [e]
  refine near_wh _ _ _ 149 _ (by omega) ?_ h
  rw [h2, signed_abs, Int.add_mul]
  rw [signed_shift s m i (min i j) 149 (by omega) (by omega), signed_shift (!t) n j (min i j) 149 (by omega) (by omega), opp_signed, Int.sub_mul]
  have hs' : signed s m (i + ((149 : Nat) : Int)).toNat = a * ((2 ^ 149 : Nat) : Int) := hs
  have ht' : signed t n (j + ((149 : Nat) : Int)).toNat = b * ((2 ^ 149 : Nat) : Int) := ht
  rw [hs', ht']
  exact (Int.sub_eq_add_neg).symm

/-- a round on whole numbers -/
def zr (h : Nat) (X : Nat → Int) (q : Nat) : Int := if q / h % 2 = 0 then X q + X (q + h) else X (q - h) - X q
def zrs (X : Nat → Int) : Nat → Nat → Int
  | 0 => X
  | t + 1 => zr (2 ^ t) (zrs X t)

theorem rnds_wh (L : List Nat) (X : Nat → Int) (B m : Nat) (hl : L.length = 2 ^ m) (hX : ∀ q, q < 2 ^ m → Wh (X q) (L.getD q 0) ∧ (X q).natAbs ≤ B) (hB : 2 ^ m * B < 16777216) :
    ∀ t, t ≤ m → ∀ q, q < 2 ^ m → Wh (zrs X t q) ((rnds L t).getD q 0) ∧ (zrs X t q).natAbs ≤ 2 ^ t * B
  | 0, _, q, hq => by
    rw [Nat.pow_zero, Nat.one_mul]
    exact hX q hq
  | t + 1, ht, q, hq => by
    have ih := rnds_wh L X B m hl hX hB t (by omega)
    have hle : 2 ^ (t + 1) * B ≤ 2 ^ m * B := Nat.mul_le_mul_right _ (Nat.pow_le_pow_right (by omega) ht)
    have h2 : 2 ^ (t + 1) * B = 2 ^ t * B + 2 ^ t * B := by rw [Nat.pow_succ, Nat.mul_comm (2 ^ t) 2, Nat.mul_assoc]; omega
    have hg : (rnds L (t + 1)).getD q 0 = rndAt (rnds L t) (2 ^ t) q := by
      show (rnd (rnds L t) (2 ^ t)).getD q 0 = _
      rw [rnd, List.getD_eq_getElem?_getD, List.getElem?_map, List.getElem?_range (by rw [rnds_len, hl]; exact hq)]
      rfl
    rw [hg]
    show Wh (zr (2 ^ t) (zrs X t) q) _ ∧ (zr (2 ^ t) (zrs X t) q).natAbs ≤ _
    unfold zr rndAt
    by_cases h0 : q / 2 ^ t % 2 = 0
    · rw [if_pos h0, if_pos h0]
      obtain ⟨w1, b1⟩ := ih q hq
      obtain ⟨w2, b2⟩ := ih (q + 2 ^ t) (pair_in m t q (by omega) hq h0)
      have h3 := Int.natAbs_add_le (zrs X t q) (zrs X t (q + 2 ^ t))
      exact ⟨(wh_add w1 w2 (by omega)).2, by omega⟩
    · rw [if_neg h0, if_neg h0]
      obtain ⟨w1, b1⟩ := ih (q - 2 ^ t) (Nat.lt_of_le_of_lt (Nat.sub_le _ _) hq)
      obtain ⟨w2, b2⟩ := ih q hq
      have h3 : (zrs X t (q - 2 ^ t) - zrs X t q).natAbs ≤ (zrs X t (q - 2 ^ t)).natAbs + (zrs X t q).natAbs := by omega
      exact ⟨(wh_sub w1 w2 (by omega)).2, by omega⟩

/-- 1, or -1 where the count of digits is odd -/
def zg (x : Nat) : Int := if par x then -1 else 1
theorem zg_abs (x : Nat) : (zg x).natAbs ≤ 1 := by unfold zg; split <;> decide
theorem par_top : ∀ (t m : Nat), m < 2 ^ t → par (2 ^ t + m) = !par m
  | 0, m, h => by
    obtain rfl : m = 0 := by simpa using h
    rw [par_odd (2 ^ 0 + 0) (by decide)]
  | t + 1, m, h => by
    have e : 2 ^ (t + 1) = 2 * 2 ^ t := by rw [Nat.pow_succ]; omega
    have ih := par_top t (m / 2) (by omega)
    have e2 : (2 ^ (t + 1) + m) / 2 = 2 ^ t + m / 2 := by omega
    by_cases h1 : m % 2 = 1
    · rw [par_odd (2 ^ (t + 1) + m) (by omega), e2, ih, par_odd m h1]
    · rw [par_even (2 ^ (t + 1) + m) (by omega), e2, ih, par_even m (by omega)]
theorem zg_top (t m : Nat) (h : m < 2 ^ t) : zg (2 ^ t + m) = -zg m := by
  unfold zg
  rw [par_top t m h]
  cases par m <;> rfl
theorem bits_fin : ∀ t : Fin 6, ∀ j r : Fin 32, j.val < 2 ^ t.val → r.val < 2 ^ t.val → ((2 ^ t.val + j.val) &&& r.val = j.val &&& r.val ∧ j.val &&& (2 ^ t.val + r.val) = j.val &&& r.val ∧ (2 ^ t.val + j.val) &&& (2 ^ t.val + r.val) = 2 ^ t.val + (j.val &&& r.val) ∧ j.val &&& r.val < 2 ^ t.val) := by decide +kernel
theorem bits_at (t j r : Nat) (ht : t < 6) (hj : j < 2 ^ t) (hr : r < 2 ^ t) : (2 ^ t + j) &&& r = j &&& r ∧ j &&& (2 ^ t + r) = j &&& r ∧ (2 ^ t + j) &&& (2 ^ t + r) = 2 ^ t + (j &&& r) ∧ j &&& r < 2 ^ t := by
  have h5 : 2 ^ t ≤ 2 ^ 5 := Nat.pow_le_pow_right (by omega) (by omega)
  have h32 : (2 : Nat) ^ 5 = 32 := by decide
  exact bits_fin ⟨t, ht⟩ ⟨j, by omega⟩ ⟨r, by omega⟩ hj hr
theorem zsum_split (F : Nat → Int) (a : Nat) : ∀ b, zsum F (a + b) = zsum F a + zsum (fun j => F (a + j)) b
  | 0 => by rw [Nat.add_zero, zsum, Int.add_zero]
  | b + 1 => by rw [← Nat.add_assoc, zsum, zsum, zsum_split F a b, Int.add_assoc]
theorem zsum_neg (F : Nat → Int) (n : Nat) : zsum (fun j => -F j) n = -zsum F n := by
  have := zsum_mul (-1) F n
  rw [show (-1 : Int) * zsum F n = -zsum F n by omega] at this
  rw [← this]
  exact zsum_congr n fun j _ => by omega

/-- what the rounds do, as a matrix -/
theorem zrs_mat (X : Nat → Int) : ∀ t, t ≤ 6 → ∀ b r, r < 2 ^ t → b % 2 ^ t = 0 → zrs X t (b + r) = zsum (fun j => zg (j &&& r) * X (b + j)) (2 ^ t)
  | 0, _, b, r, hr, _ => by
    obtain rfl : r = 0 := by simpa using hr
    show X (b + 0) = zsum _ 1
    rw [zsum, zsum, Nat.and_zero]
    have : zg 0 = 1 := by unfold zg; rw [par_zero]; rfl
    rw [this]
    omega
  | t + 1, ht, b, r, hr, hb => by
    have hp : 0 < 2 ^ t := Nat.two_pow_pos t
    have e : 2 ^ (t + 1) = 2 ^ t + 2 ^ t := by rw [Nat.pow_succ]; omega
    obtain ⟨c, hc⟩ : ∃ c, b = 2 ^ (t + 1) * c := ⟨b / 2 ^ (t + 1), by have := Nat.div_add_mod b (2 ^ (t + 1)); omega⟩
    have hc2 : b = 2 ^ t * (2 * c) := by rw [hc, e, Nat.mul_comm 2 c, ← Nat.mul_assoc, Nat.mul_two, Nat.add_mul]
    have hbt : b % 2 ^ t = 0 := by rw [hc2]; exact Nat.mul_mod_right _ _
    have hbt2 : (b + 2 ^ t) % 2 ^ t = 0 := by rw [Nat.add_mod_right]; exact hbt
    have ih := zrs_mat X t (by omega)
    show zr (2 ^ t) (zrs X t) (b + r) = _
    unfold zr
    rw [e, zsum_split]
    by_cases hlt : r < 2 ^ t
    · have hd : (b + r) / 2 ^ t % 2 = 0 := by rw [hc2, Nat.mul_add_div hp, Nat.div_eq_of_lt hlt]; omega
      rw [if_pos hd, ih b r hlt hbt, show b + r + 2 ^ t = (b + 2 ^ t) + r by omega, ih (b + 2 ^ t) r hlt hbt2]
      congr 1
      refine zsum_congr _ fun j hj => ?_
      rw [(bits_at t j r (by omega) hj hlt).1, Nat.add_assoc]
    · obtain ⟨r0, rfl⟩ : ∃ r0, r = 2 ^ t + r0 := ⟨r - 2 ^ t, by omega⟩
      have hr0 : r0 < 2 ^ t := by omega
      have hd : ¬ (b + (2 ^ t + r0)) / 2 ^ t % 2 = 0 := by
        rw [hc2, show 2 ^ t * (2 * c) + (2 ^ t + r0) = 2 ^ t * (2 * c + 1) + r0 by rw [Nat.mul_add, Nat.mul_one]; omega, Nat.mul_add_div hp, Nat.div_eq_of_lt hr0]
        omega
      rw [if_neg hd, show b + (2 ^ t + r0) - 2 ^ t = b + r0 by omega, ih b r0 hr0 hbt, show b + (2 ^ t + r0) = (b + 2 ^ t) + r0 by omega, ih (b + 2 ^ t) r0 hr0 hbt2, Int.sub_eq_add_neg, ← zsum_neg]
      congr 1
      · refine zsum_congr _ fun j hj => ?_
        rw [(bits_at t j r0 (by omega) hj hr0).2.1]
      · refine zsum_congr _ fun j hj => ?_
        obtain ⟨_, _, h3, h4⟩ := bits_at t j r0 (by omega) hj hr0
        rw [h3, zg_top t _ h4, Nat.add_assoc, Int.neg_mul]

/-- codes of Walsh are orthogonal -/
theorem orth : ∀ t, t ≤ 6 → ∀ i k, i < 2 ^ t → k < 2 ^ t → zsum (fun j => zg (j &&& i) * zg (j &&& k)) (2 ^ t) = if i = k then ((2 ^ t : Nat) : Int) else 0
  | 0, _, i, k, hi, hk => by
    obtain rfl : i = 0 := by simpa using hi
    obtain rfl : k = 0 := by simpa using hk
    show zsum _ 1 = _
    rw [zsum, zsum, Nat.and_zero, if_pos rfl]
    have : zg 0 = 1 := by unfold zg; rw [par_zero]; rfl
    rw [this]
    rfl
  | t + 1, ht, i, k, hi, hk => by
    have e : 2 ^ (t + 1) = 2 ^ t + 2 ^ t := by rw [Nat.pow_succ]; omega
    have ih := orth t (by omega)
    rw [e, zsum_split]
    have h0 : ∀ r, r < 2 ^ t → ∀ j, j < 2 ^ t → zg (j &&& r) = zg (j &&& r) ∧ zg ((2 ^ t + j) &&& r) = zg (j &&& r) := fun r hr j hj => ⟨rfl, by rw [(bits_at t j r (by omega) hj hr).1]⟩
    have h1 : ∀ r, r < 2 ^ t → ∀ j, j < 2 ^ t → zg (j &&& (2 ^ t + r)) = zg (j &&& r) ∧ zg ((2 ^ t + j) &&& (2 ^ t + r)) = -zg (j &&& r) := fun r hr j hj => by
      obtain ⟨_, h2, h3, h4⟩ := bits_at t j r (by omega) hj hr
      exact ⟨by rw [h2], by rw [h3, zg_top t _ h4]⟩
    have key : ∀ (i0 k0 : Nat) (s : Int) (hi0 : i0 < 2 ^ t) (hk0 : k0 < 2 ^ t), zsum (fun j => zg (j &&& i) * zg (j &&& k)) (2 ^ t) = zsum (fun j => zg (j &&& i0) * zg (j &&& k0)) (2 ^ t) →
        zsum (fun j => zg ((2 ^ t + j) &&& i) * zg ((2 ^ t + j) &&& k)) (2 ^ t) = s * zsum (fun j => zg (j &&& i0) * zg (j &&& k0)) (2 ^ t) →
        zsum (fun j => zg (j &&& i) * zg (j &&& k)) (2 ^ t) + zsum (fun j => zg ((2 ^ t + j) &&& i) * zg ((2 ^ t + j) &&& k)) (2 ^ t) = (1 + s) * (if i0 = k0 then ((2 ^ t : Nat) : Int) else 0) := fun i0 k0 s hi0 hk0 h2 h3 => by
      rw [h2, h3, ih i0 k0 hi0 hk0, Int.add_mul, Int.one_mul]
    by_cases hi2 : i < 2 ^ t
    · by_cases hk2 : k < 2 ^ t
      · rw [key i k 1 hi2 hk2 rfl (by rw [Int.one_mul]; exact zsum_congr _ fun j hj => by rw [(h0 i hi2 j hj).2, (h0 k hk2 j hj).2])]
        split <;> omega
      · obtain ⟨k0, rfl⟩ : ∃ k0, k = 2 ^ t + k0 := ⟨k - 2 ^ t, by omega⟩
        have hk0 : k0 < 2 ^ t := by omega
        rw [key i k0 (-1) hi2 hk0 (zsum_congr _ fun j hj => by rw [(h1 k0 hk0 j hj).1]) (by rw [← zsum_mul]; exact zsum_congr _ fun j hj => by rw [(h0 i hi2 j hj).2, (h1 k0 hk0 j hj).2]; rw [Int.mul_neg, Int.neg_mul, Int.one_mul])]
        rw [if_neg (show ¬ i = 2 ^ t + k0 by omega)]
        omega
    · obtain ⟨i0, rfl⟩ : ∃ i0, i = 2 ^ t + i0 := ⟨i - 2 ^ t, by omega⟩
      have hi0 : i0 < 2 ^ t := by omega
      by_cases hk2 : k < 2 ^ t
      · rw [key i0 k (-1) hi0 hk2 (zsum_congr _ fun j hj => by rw [(h1 i0 hi0 j hj).1]) (by rw [← zsum_mul]; exact zsum_congr _ fun j hj => by rw [(h0 k hk2 j hj).2, (h1 i0 hi0 j hj).2]; rw [Int.neg_mul, Int.neg_mul, Int.one_mul])]
        rw [if_neg (show ¬ 2 ^ t + i0 = k by omega)]
        omega
      · obtain ⟨k0, rfl⟩ : ∃ k0, k = 2 ^ t + k0 := ⟨k - 2 ^ t, by omega⟩
        have hk0 : k0 < 2 ^ t := by omega
        rw [key i0 k0 1 hi0 hk0 (zsum_congr _ fun j hj => by rw [(h1 i0 hi0 j hj).1, (h1 k0 hk0 j hj).1]) (by rw [Int.one_mul]; exact zsum_congr _ fun j hj => by rw [(h1 i0 hi0 j hj).2, (h1 k0 hk0 j hj).2]; rw [Int.neg_mul_neg])]
        by_cases h : i0 = k0
        · subst h
          rw [if_pos rfl, if_pos rfl]
          omega
        · rw [if_neg h, if_neg (by omega)]
          omega

/-- the sum by the code q -/
def had (X : Nat → Int) (n q : Nat) : Int := zsum (fun j => zg (j &&& q) * X j) n
theorem had_zrs (X : Nat → Int) (m q : Nat) (hm : m ≤ 6) (hq : q < 2 ^ m) : zrs X m q = had X (2 ^ m) q := by
  have := zrs_mat X m hm 0 q hq (Nat.zero_mod _)
  rw [Nat.zero_add] at this
  rw [this]
  exact zsum_congr _ fun j _ => by rw [Nat.zero_add]
theorem had_abs (X : Nat → Int) (B n q : Nat) (hX : ∀ j, j < n → (X j).natAbs ≤ B) : (had X n q).natAbs ≤ n * B :=
  zsum_abs _ B n fun j hj => by
    rw [Int.mul_comm]
    exact abs_mul_le (hX j hj) (zg_abs _)
theorem had_had (X : Nat → Int) (m q : Nat) (hm : m ≤ 6) (hq : q < 2 ^ m) : had (had X (2 ^ m)) (2 ^ m) q = X q * ((2 ^ m : Nat) : Int) := by
  unfold had
  have e1 : zsum (fun j => zg (j &&& q) * zsum (fun i => zg (i &&& j) * X i) (2 ^ m)) (2 ^ m) = zsum (fun j => zsum (fun i => X i * (zg (j &&& i) * zg (j &&& q))) (2 ^ m)) (2 ^ m) := by
    refine zsum_congr _ fun j hj => ?_
    rw [← zsum_mul]
    refine zsum_congr _ fun i hi => ?_
    rw [Nat.and_comm i j]
    ac_rfl
  rw [e1, zsum_swap (fun i j => X i * (zg (j &&& i) * zg (j &&& q))) (2 ^ m) (2 ^ m)]
  have e2 : zsum (fun i => zsum (fun j => X i * (zg (j &&& i) * zg (j &&& q))) (2 ^ m)) (2 ^ m) = zsum (fun i => X i * (if i = q then ((2 ^ m : Nat) : Int) else 0)) (2 ^ m) := by
    refine zsum_congr _ fun i hi => ?_
    rw [zsum_mul, orth m hm i q hi hq]
  rw [e2, zsum_one _ q _ (fun j hj hne => by rw [if_neg hne, Int.mul_zero]), if_pos hq, if_pos rfl]

/-- a list of whole numbers -/
def WhL (X : Nat → Int) (n : Nat) (L : List Nat) : Prop := L.length = n ∧ ∀ q, q < n → Wh (X q) (L.getD q 0)
theorem whl_fin {X : Nat → Int} {n : Nat} {L : List Nat} (h : WhL X n L) : L.all fin = true := all_of fun i hi => wh_fin (h.2 i (by rw [← h.1]; exact hi))
/-- sums by codes are exact -/
theorem sb_wh (X : Nat → Int) (m B : Nat) (L : List Nat) (hm : m ≤ 6) (h : WhL X (2 ^ m) L) (hX : ∀ q, q < 2 ^ m → (X q).natAbs ≤ B) (hB : 2 ^ m * B < 16777216) :
    sbCode L = 0 ∧ WhL (had X (2 ^ m)) (2 ^ m) (sbList L) ∧ bkList L = (sbList L).map (fun x => divS x (fl32 (2 ^ m))) := by
  have hr := rnds_wh L X B m h.1 (fun q hq => ⟨h.2 q hq, hX q hq⟩) hB
  have hlen : lenI (L.length : Int) = true := by
    rw [h.1]
    have : ∀ m : Fin 7, lenI ((2 ^ m.val : Nat) : Int) = true := by decide +kernel
    exact this ⟨m, by omega⟩
  have hlg : lg L.length = m := by
    rw [h.1]
    have : ∀ m : Fin 7, lg (2 ^ m.val) = m.val := by decide +kernel
    exact this ⟨m, by omega⟩
  have hok : okRnd L (lg L.length) = true := by
    rw [hlg]
    unfold okRnd
    rw [List.all_eq_true]
    intro s hs
    have hs2 : s < m + 1 := List.mem_range.1 hs
    exact all_of fun i hi => wh_fin (hr s (by omega) i (by rw [rnds_len, h.1] at hi; exact hi)).1
  obtain ⟨e1, e2, e3⟩ := sb_yes (whl_fin h) hlen hok
  refine ⟨e1, ⟨by rw [e2, rnds_len, h.1], fun q hq => ?_⟩, by rw [e3, e2, h.1]⟩
  rw [e2, hlg, ← had_zrs X m q hm hq]
  exact (hr m (Nat.le_refl _) q hq).1
/-- sums by codes back are the numbers -/
theorem bk_wh (X : Nat → Int) (m B : Nat) (L : List Nat) (hm : m ≤ 6) (h : WhL (had X (2 ^ m)) (2 ^ m) L) (hX : ∀ q, q < 2 ^ m → (X q).natAbs ≤ B) (hB : 2 ^ m * (2 ^ m * B) < 16777216) (hB2 : B < 16777216) :
    sbCode L = 0 ∧ WhL X (2 ^ m) (bkList L) := by
  obtain ⟨e1, e2, e3⟩ := sb_wh (had X (2 ^ m)) m (2 ^ m * B) L hm h (fun q hq => had_abs X B _ q hX) hB
  refine ⟨e1, by rw [e3, List.length_map, e2.1], fun q hq => ?_⟩
  rw [e3, List.getD_eq_getElem?_getD, List.getElem?_map, List.getElem?_eq_getElem (by rw [e2.1]; exact hq)]
  have h2 := e2.2 q hq
  rw [List.getD_eq_getElem?_getD, List.getElem?_eq_getElem (by rw [e2.1]; exact hq), had_had X m q hm hq] at h2
  have hpm : 2 ^ m ≤ 2 ^ 6 := Nat.pow_le_pow_right (by omega) hm
  have hn : Wh ((2 ^ m : Nat) : Int) (fl32 (2 ^ m)) := wh_int _ (by rw [Int.natAbs_natCast]; have : (2 : Nat) ^ 6 = 64 := (by decide); omega)
  obtain ⟨r, h3, h4⟩ := wh_div h2 hn (by have := Nat.two_pow_pos m; omega) (by have := hX q hq; omega)
  show Wh (X q) ((single.div _ _).getD 0)
  have h3' : single.div ((sbList L)[q]'(by rw [e2.1]; exact hq)) (fl32 (2 ^ m)) = some r := h3
  rw [h3']
  exact h4

end Go.Proofs.YtclflnpbiiimiaaDoor
