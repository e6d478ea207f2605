/- Plain facts on the order of float32's numbers: it is total, turns round, and where two are equal they are the same bits or both zeros; the greater and the less of two. Condition: numbers. Plain facts on float32's sums, differences and quotients of numbers: none is a NaN; what a zero's sign turns in them: nothing. Condition: numbers. Absolute values of float32's, and sums so far: numbers of no negative sign. Condition: none. -/
import Derived.Test.YtclflnpbiiimiaaDoorQf
import Derived.Test.YtclflnpbiiimiaaDoorM2
import Derived.Test.YtclflnpbiiimiaaDoorM3
namespace Go.Proofs.YtclflnpbiiimiaaDoor
open Go Ieee

def ordF (x y : Nat) : Option Ordering := FloatKind.f32.format.order x y
theorem ordF_read (x y : Nat) : ordF x y = (single.read x).order (single.read y) := rfl
theorem ord_some (x y : Nat) (hx : fin x = true) (hy : fin y = true) : ∃ o, ordF x y = some o := by
  obtain ⟨s, m, p, hr, _⟩ := fin_read x hx
  obtain ⟨t, n, q, hq, _⟩ := fin_read y hy
  rw [ordF_read, hr, hq]
  exact ⟨_, rfl⟩
theorem cmp_swap (a b : Int) : compare b a = (compare a b).swap := by
  rcases Int.lt_trichotomy a b with h | h | h
  · rw [(Int.compare_eq_lt).2 h, (Int.compare_eq_gt).2 h]; rfl
  · subst h; rw [show compare a a = .eq by rw [Std.LawfulEqCmp.compare_eq_iff_eq]]; rfl
  · rw [(Int.compare_eq_gt).2 h, (Int.compare_eq_lt).2 h]; rfl
theorem ord_swap (x y : Nat) (hx : fin x = true) (hy : fin y = true) : ordF y x = (ordF x y).map Ordering.swap := by
  obtain ⟨s, m, p, hr, _⟩ := fin_read x hx
  obtain ⟨t, n, q, hq, _⟩ := fin_read y hy
  rw [ordF_read, ordF_read, hr, hq]
  simp only [Datum.order, Option.map_some, Option.some.injEq]
  rw [Int.min_comm q p, cmp_swap]

/-- both are zeros, or they are the same -/
def zeq (a b : Nat) : Prop := a = b ∨ (eqz a = true ∧ eqz b = true)
theorem eqz_read (x : Nat) (h : eqz x = true) : ∃ s, single.read x = .number s 0 (-149) := by
  have h' : FloatKind.f32.format.order x 0 = some .eq := by simpa [eqz] using h
  have h2 : (single.read x).order (single.read 0) = some .eq := h'
  have h0 : single.read 0 = .number false 0 (-149) := by decide
  rw [h0] at h2
  cases hr : single.read x with
  | infinity s => rw [hr] at h2; cases s <;> simp [Datum.order] at h2
  | nan s t => rw [hr] at h2; simp [Datum.order] at h2
  | number s m p =>
    rw [hr] at h2
    simp only [Datum.order, Option.some.injEq, Std.LawfulEqCmp.compare_eq_iff_eq, signed, Nat.shiftLeft_eq] at h2
    have hm : m = 0 := by
      rcases Nat.eq_zero_or_pos m with h3 | h3
      · exact h3
      · exfalso
        have h4 : 0 < m * 2 ^ (p - min p (-149)).toNat := Nat.mul_pos h3 (Nat.two_pow_pos _)
        generalize m * 2 ^ (p - min p (-149)).toNat = a at *
        cases s <;> simp at h2 <;> omega
    subst hm
    refine ⟨s, ?_⟩
    rw [read32] at hr
    split at hr
    · injection hr with e1 e2 e3; rw [← e3]
    · split at hr
      · injection hr with e1 e2 e3; omega
      · split at hr <;> cases hr
theorem zero_eqz (x : Nat) (s : Bool) (p : Int) (hr : single.read x = .number s 0 p) : eqz x = true := by
  have h0 : single.read 0 = .number false 0 (-149) := by decide
  unfold eqz
  show ((single.read x).order (single.read 0) == some .eq) = true
  rw [hr, h0]
  simp only [Datum.order, signed, Nat.zero_shiftLeft]
  cases s <;> rfl
theorem ord_zero_right (l a b : Nat) (ha : eqz a = true) (hb : eqz b = true) : ordF l a = ordF l b := by
  obtain ⟨s, h1⟩ := eqz_read a ha
  obtain ⟨t, h2⟩ := eqz_read b hb
  rw [ordF_read, ordF_read, h1, h2]
  cases single.read l with
  | nan s t => rfl
  | infinity s => rfl
  | number u m p => simp only [Datum.order, signed, Nat.zero_shiftLeft]; cases s <;> cases t <;> rfl
theorem ord_zeq (l a b : Nat) (h : zeq a b) : ordF l a = ordF l b := by
  rcases h with rfl | ⟨ha, hb⟩
  · rfl
  · exact ord_zero_right l a b ha hb

/-- a normal number's digits, or the least place -/
theorem read_norm (x : Nat) (s : Bool) (m : Nat) (p : Int) (hr : single.read x = .number s m p) : -149 ≤ p ∧ m < 16777216 ∧ (8388608 ≤ m ∨ p = -149) ∧ x % 2147483648 = (p + 149).toNat * 8388608 + m ∧ s = (x / 2147483648 % 2 == 1) := by
  rw [read32] at hr
  split at hr
  · injection hr with e1 e2 e3
    exact ⟨by omega, by omega, .inr e3.symm, by omega, e1.symm⟩
  · split at hr
    · injection hr with e1 e2 e3
      exact ⟨by omega, by omega, .inl (by omega), by omega, e1.symm⟩
    · split at hr <;> cases hr
theorem mag_same (m n : Nat) (p q : Int) (hp : -149 ≤ p) (hq : -149 ≤ q) (hm : m < 16777216) (hn : n < 16777216) (h1 : 8388608 ≤ m ∨ p = -149) (h2 : 8388608 ≤ n ∨ q = -149) (hm0 : 0 < m)
    (h : m * 2 ^ (p - min p q).toNat = n * 2 ^ (q - min p q).toNat) : m = n ∧ p = q := by
  rcases Int.lt_trichotomy p q with h3 | h3 | h3
  · exfalso
    rw [show (p - min p q).toNat = 0 by omega, show (q - min p q).toNat = ((q - p).toNat - 1) + 1 by omega, Nat.pow_succ] at h
    have : 1 ≤ 2 ^ ((q - p).toNat - 1) := Nat.one_le_two_pow
    have hn8 : 8388608 ≤ n := by omega
    have h4 : 8388608 * (1 * 2) ≤ n * (2 ^ ((q - p).toNat - 1) * 2) := Nat.mul_le_mul hn8 (by omega)
    omega
  · subst h3
    refine ⟨?_, rfl⟩
    rw [show (p - min p p).toNat = 0 by omega] at h
    omega
  · exfalso
    rw [show (q - min p q).toNat = 0 by omega, show (p - min p q).toNat = ((p - q).toNat - 1) + 1 by omega, Nat.pow_succ] at h
    have : 1 ≤ 2 ^ ((p - q).toNat - 1) := Nat.one_le_two_pow
    have hm8 : 8388608 ≤ m := by omega
    have h4 : 8388608 * (1 * 2) ≤ m * (2 ^ ((p - q).toNat - 1) * 2) := Nat.mul_le_mul hm8 (by omega)
    omega
/-- two numbers that are equal -/
theorem ord_eq (x y : Nat) (hx : fin x = true) (hy : fin y = true) (lx : x < 4294967296) (ly : y < 4294967296) (h : ordF x y = some .eq) : zeq x y := by
  obtain ⟨s, m, p, hr, _⟩ := fin_read x hx
  obtain ⟨t, n, q, hq, _⟩ := fin_read y hy
  obtain ⟨a1, a2, a3, a4, a5⟩ := read_norm x s m p hr
  obtain ⟨b1, b2, b3, b4, b5⟩ := read_norm y t n q hq
  rw [ordF_read, hr, hq] at h
  simp only [Datum.order, Option.some.injEq, Std.LawfulEqCmp.compare_eq_iff_eq, signed, Nat.shiftLeft_eq] at h
  have hA : 0 < m → 0 < m * 2 ^ (p - min p q).toNat := fun h => Nat.mul_pos h (Nat.two_pow_pos _)
  have hB : 0 < n → 0 < n * 2 ^ (q - min p q).toNat := fun h => Nat.mul_pos h (Nat.two_pow_pos _)
  by_cases hm : m = 0
  · subst hm
    have hn : n = 0 := by
      rcases Nat.eq_zero_or_pos n with h3 | h3
      · exact h3
      · exfalso
        have := hB h3
        rw [Nat.zero_mul] at h
        generalize n * 2 ^ (q - min p q).toNat = b at *
        cases s <;> cases t <;> simp at h <;> omega
    subst hn
    exact .inr ⟨zero_eqz x s p hr, zero_eqz y t q hq⟩
  · have hA' := hA (by omega)
    have hst : s = t ∧ m * 2 ^ (p - min p q).toNat = n * 2 ^ (q - min p q).toNat := by
      generalize m * 2 ^ (p - min p q).toNat = a at *
      generalize n * 2 ^ (q - min p q).toNat = b at *
      cases s <;> cases t <;> simp at h <;> first | exact ⟨rfl, by omega⟩ | (exfalso; omega)
    obtain ⟨e1, e2⟩ := mag_same m n p q a1 b1 a2 b2 a3 b3 (by omega) hst.2
    subst e1 e2
    have hs := hst.1
    rw [a5, b5] at hs
    have hs2 : x / 2147483648 % 2 = y / 2147483648 % 2 := by
      have e1 : x / 2147483648 % 2 < 2 := Nat.mod_lt _ (by omega)
      have e2 : y / 2147483648 % 2 < 2 := Nat.mod_lt _ (by omega)
      generalize x / 2147483648 % 2 = u at *
      generalize y / 2147483648 % 2 = v at *
      match u, v, e1, e2 with
      | 0, 0, _, _ => rfl
      | 1, 1, _, _ => rfl
      | 0, 1, _, _ => simp at hs
      | 1, 0, _, _ => simp at hs
    left
    omega

/-- the greater one of two, as the builtin tells it; the less one -/
def mx2 (x y : Nat) : Nat := match ordF x y with
  | some .lt => y
  | some .gt => x
  | some .eq => if (single.read x).neg then y else x
  | none => 0
def mn2 (x y : Nat) : Nat := match ordF x y with
  | some .lt => x
  | some .gt => y
  | some .eq => if (single.read x).neg then x else y
  | none => 0
/-- the greater one as a test tells it; the less one -/
def up2 (t l : Nat) : Nat := if ordF l t == some .gt then l else t
def lo2 (t l : Nat) : Nat := if ordF l t == some .lt then l else t

theorem mx_up (x t l : Nat) (hx : fin x = true) (hl : fin l = true) (lx : x < 4294967296) (ll : l < 4294967296) (h : zeq x t) : zeq (mx2 x l) (up2 t l) ∧ (mx2 x l = x ∨ mx2 x l = l) ∧ (up2 t l = t ∨ up2 t l = l) := by
  obtain ⟨o, ho⟩ := ord_some x l hx hl
  have hs := ord_swap x l hx hl
  have hz := ord_zeq l x t h
  unfold mx2 up2
  rw [← hz, hs, ho]
  cases o
  · exact ⟨.inl rfl, .inr rfl, .inr rfl⟩
  · have he := ord_eq x l hx hl lx ll ho
    refine ⟨?_, ?_, .inl rfl⟩
    · show zeq (if (single.read x).neg then l else x) t
      split
      · rcases he with rfl | ⟨e1, e2⟩
        · exact h
        · rcases h with rfl | ⟨f1, f2⟩
          · exact .inr ⟨e2, e1⟩
          · exact .inr ⟨e2, f2⟩
      · exact h
    · show (if (single.read x).neg then l else x) = x ∨ (if (single.read x).neg then l else x) = l
      split
      · exact .inr rfl
      · exact .inl rfl
  · exact ⟨h, .inl rfl, .inl rfl⟩
theorem mn_lo (x t l : Nat) (hx : fin x = true) (hl : fin l = true) (lx : x < 4294967296) (ll : l < 4294967296) (h : zeq x t) : zeq (mn2 x l) (lo2 t l) ∧ (mn2 x l = x ∨ mn2 x l = l) ∧ (lo2 t l = t ∨ lo2 t l = l) := by
  obtain ⟨o, ho⟩ := ord_some x l hx hl
  have hs := ord_swap x l hx hl
  have hz := ord_zeq l x t h
  unfold mn2 lo2
  rw [← hz, hs, ho]
  cases o
  · exact ⟨h, .inl rfl, .inl rfl⟩
  · have he := ord_eq x l hx hl lx ll ho
    refine ⟨?_, ?_, .inl rfl⟩
    · show zeq (if (single.read x).neg then x else l) t
      split
      · exact h
      · rcases he with rfl | ⟨e1, e2⟩
        · exact h
        · rcases h with rfl | ⟨f1, f2⟩
          · exact .inr ⟨e2, e1⟩
          · exact .inr ⟨e2, f2⟩
    · show (if (single.read x).neg then x else l) = x ∨ (if (single.read x).neg then x else l) = l
      split
      · exact .inl rfl
      · exact .inr rfl
  · exact ⟨.inl rfl, .inr rfl, .inr rfl⟩
end Go.Proofs.YtclflnpbiiimiaaDoor

namespace Go.Proofs.YtclflnpbiiimiaaDoor
open Go Ieee

def NotNan (x : Nat) : Prop := (∃ s m p, single.read x = .number s m p) ∨ ∃ s, single.read x = .infinity s
theorem notnan_word (s : Bool) (r : Nat) (h : r ≤ 2139095040) : NotNan (single.word s r) := by
  by_cases h1 : r < 2139095040
  · obtain ⟨m, p, hr, _⟩ := read_word32 s r h1
    exact .inl ⟨_, _, _, hr⟩
  · obtain rfl : r = 2139095040 := by omega
    cases s
    · exact .inr ⟨false, by decide⟩
    · exact .inr ⟨true, by decide⟩
theorem notnan_near (s : Bool) (m : Nat) (p : Int) : NotNan (single.nearest s m p) := by
  obtain ⟨r, h, hr, _⟩ := near_any s m p
  rw [h]
  exact notnan_word s r hr
theorem notnan_fin (x : Nat) (h : fin x = true) : NotNan x := by
  obtain ⟨s, m, p, hr, _⟩ := fin_read x h
  exact .inl ⟨_, _, _, hr⟩
theorem add_num (x y : Nat) (hx : fin x = true) (hy : fin y = true) : ∃ r, single.add x y = some r ∧ NotNan r := by
  obtain ⟨s, m, p, hr, _⟩ := fin_read x hx
  obtain ⟨t, n, q, hq, _⟩ := fin_read y hy
  unfold Format.add
  rw [hr, hq]
  exact ⟨_, rfl, notnan_near _ _ _⟩
theorem sub_num (x y : Nat) (hx : fin x = true) (hy : fin y = true) : ∃ r, single.sub x y = some r ∧ NotNan r := by
  obtain ⟨s, m, p, hr, _⟩ := fin_read x hx
  obtain ⟨t, n, q, hq, _⟩ := fin_read y hy
  unfold Format.sub
  rw [hr, hq]
  exact ⟨_, rfl, notnan_near _ _ _⟩
theorem div_num (x q : Nat) (hx : NotNan x) (hq : fin q = true) (hq0 : gtz q = true) : ∃ r, single.div x q = some r ∧ NotNan r := by
  obtain ⟨n, j, hqr, hn, _, _, _⟩ := gtz_read q hq hq0
  unfold Format.div
  rw [hqr]
  rcases hx with ⟨s, m, p, hr⟩ | ⟨s, hr⟩
  · rw [hr]
    simp only [Datum.quotient, show ¬ n = 0 by omega, if_false, Option.map_some, Format.write]
    exact ⟨_, rfl, notnan_near _ _ _⟩
  · rw [hr]
    refine ⟨_, rfl, ?_⟩
    cases s
    · exact .inr ⟨false, by decide⟩
    · exact .inr ⟨true, by decide⟩

theorem gtz_word (r : Nat) (h : r < 2139095040) (h0 : 0 < r) : gtz (single.word false r) = true := by
  obtain ⟨m, p, hr, _, _, _, hm, _⟩ := read_word32 false r h
  have h00 : single.read 0 = .number false 0 (-149) := by decide
  unfold gtz
  show ((single.read (single.word false r)).order (single.read 0) == some .gt) = true
  rw [hr, h00]
  have hm0 : 0 < m := by omega
  have h1 : 0 < m * 2 ^ (p - min p (-149)).toNat := Nat.mul_pos hm0 (Nat.two_pow_pos _)
  simp only [Datum.order, signed, Nat.shiftLeft_eq, Nat.zero_mul, Bool.false_eq_true, if_false, beq_iff_eq, Option.some.injEq, Int.compare_eq_gt]
  omega

/-- a sum of one that is greater than 0 and one of at least 0 -/
theorem sum_gtz (t b r : Nat) (ht : fin t = true) (ht0 : gtz t = true) (hb : fin b = true) (hb0 : ltz b = false) (h : single.add t b = some r) (hr : fin r = true) : gtz r = true := by
  obtain ⟨m, p, h1, hm, _, hp, _⟩ := gtz_read t ht ht0
  obtain ⟨s, n, q, h2, _, hq, _, _⟩ := fin_read2 b hb
  have hs := ltz_read b s n q h2 hb0
  unfold Format.add at h
  rw [h1, h2] at h
  simp only [Datum.sum, Option.map_some, Format.write, Option.some.injEq] at h
  have hA : 0 < m * 2 ^ (p - min p q).toNat := Nat.mul_pos hm (Nat.two_pow_pos _)
  have hT : signed false m (p - min p q).toNat + signed s n (q - min p q).toNat = ((m * 2 ^ (p - min p q).toNat + n * 2 ^ (q - min p q).toNat : Nat) : Int) := by
    simp only [signed, Nat.shiftLeft_eq, Bool.false_eq_true, if_false]
    cases s
    · simp
    · have := hs rfl
      subst this
      simp
  rw [hT] at h
  generalize hTT : m * 2 ^ (p - min p q).toNat + n * 2 ^ (q - min p q).toNat = T at *
  have hT0 : 0 < T := by omega
  rw [if_neg (by omega), decide_eq_false (by omega), show ((T : Int)).natAbs = T from rfl] at h
  obtain ⟨u, hu, hu1, _, hu3⟩ := near_any false T (min p q)
  rw [hu] at h
  subst h
  rw [fin_word] at hr
  have hr' : u % 2147483648 < 2139095040 := by simpa using hr
  exact gtz_word u (by omega) (hu3 hT0 (by omega))

/-- a zero's sign turns nothing beside a number that is none -/
theorem add_zeq (t b c : Nat) (ht : fin t = true) (ht0 : eqz t = false) (h : zeq b c) : single.add t b = single.add t c ∧ single.sub t b = single.sub t c := by
  rcases h with rfl | ⟨hb, hc⟩
  · exact ⟨rfl, rfl⟩
  · obtain ⟨s, m, p, hr, _⟩ := fin_read t ht
    obtain ⟨u, h1⟩ := eqz_read b hb
    obtain ⟨v, h2⟩ := eqz_read c hc
    have hm : 0 < m := by
      rcases Nat.eq_zero_or_pos m with e | e
      · subst e; rw [zero_eqz t s p hr] at ht0; cases ht0
      · exact e
    have hA : 0 < m * 2 ^ (p - min p (-149)).toNat := Nat.mul_pos hm (Nat.two_pow_pos _)
    have key : ∀ x y : Bool, (Datum.number s m p).sum (.number x 0 (-149)) = (Datum.number s m p).sum (.number y 0 (-149)) := by
      intro x y
      have e0 : ∀ (z : Bool) (k : Nat), signed z 0 k = 0 := by
        intro z k
        cases z <;> simp [signed]
      have hne : ¬ signed s m (p - min p (-149)).toNat + 0 = 0 := by
        simp only [signed, Nat.shiftLeft_eq]
        generalize m * 2 ^ (p - min p (-149)).toNat = a at *
        cases s
        · simp; omega
        · simp; omega
      simp only [Datum.sum, e0]
      rw [if_neg hne, if_neg hne]
    unfold Format.add Format.sub
    rw [hr, h1, h2]
    exact ⟨by rw [key u v], by simp only [Datum.opposite]; rw [key (!u) (!v)]⟩

theorem conv_notnan (x : Nat) (h : NotNan x) : ∃ c, floatToFloatBits .f32 x .f64 = some c ∧ own c = true := by
  cases hf : fin x
  · rcases h with ⟨s, m, p, hr⟩ | ⟨s, hr⟩
    · rcases inf_read x hf with ⟨t, ht⟩ | ⟨t, u, ht⟩ <;> rw [ht] at hr <;> cases hr
    · refine ⟨double.write (.infinity s), ?_, by cases s <;> decide⟩
      unfold floatToFloatBits
      rw [if_neg (by decide)]
      have hd : FloatKind.f32.decode x = .infinity s := hr
      rw [hd]
      rfl
  · exact ⟨conv x, float_conv x hf, own_conv x hf⟩
end Go.Proofs.YtclflnpbiiimiaaDoor

namespace Go.Proofs.YtclflnpbiiimiaaDoor
open Go Go.RowKit
open Ieee

/-- the absolute value -/
def magF (x : Nat) : Nat := x % 2147483648
/-- a sum so far: a number of no negative sign -/
def Good (o : Nat) : Prop := fin o = true ∧ o < 2147483648
theorem good_zero : Good 0 := ⟨by decide, by omega⟩
end Go.Proofs.YtclflnpbiiimiaaDoor
