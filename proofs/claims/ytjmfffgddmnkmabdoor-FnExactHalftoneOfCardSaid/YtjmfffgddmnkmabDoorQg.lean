/- Plain facts on the order of float32's numbers: it is total, turns round, and where two are equal they are the same bits or both zeros; the greater and the less of two. Condition: numbers. -/
import Derived.Test.YtjmfffgddmnkmabDoorQf
import Derived.Test.YtjmfffgddmnkmabDoorShown
namespace Go.Proofs.YtjmfffgddmnkmabDoor
open Go Ieee

def ordF (x y : Nat) : Option Ordering := FloatKind.f32.format.order x y
theorem ordF_read (x y : Nat) : ordF x y = (single.read x).order (single.read y) := rfl
theorem ord_some (x y : Nat) (hx : fin x = true) (hy : fin y = true) : ∃ o, ordF x y = some o := by
  obtain ⟨s, m, p, hr, _⟩ := fin_read x hx
  obtain ⟨t, n, q, hq, _⟩ := fin_read y hy
  rw [ordF_read, hr, hq]
  exact ⟨_, rfl⟩
theorem cmp_swap (a b : Int) : compare b a = (compare a b).swap := by
  rcases Int.lt_trichotomy a b with h | h | h
  · rw [(Int.compare_eq_lt).2 h, (Int.compare_eq_gt).2 h]; rfl
  · subst h; rw [show compare a a = .eq by rw [Std.LawfulEqCmp.compare_eq_iff_eq]]; rfl
  · rw [(Int.compare_eq_gt).2 h, (Int.compare_eq_lt).2 h]; rfl
theorem ord_swap (x y : Nat) (hx : fin x = true) (hy : fin y = true) : ordF y x = (ordF x y).map Ordering.swap := by
  obtain ⟨s, m, p, hr, _⟩ := fin_read x hx
  obtain ⟨t, n, q, hq, _⟩ := fin_read y hy
  rw [ordF_read, ordF_read, hr, hq]
  simp only [Datum.order, Option.map_some, Option.some.injEq]
  rw [Int.min_comm q p, cmp_swap]

/-- both are zeros, or they are the same -/
def zeq (a b : Nat) : Prop := a = b ∨ (eqz a = true ∧ eqz b = true)
theorem eqz_read (x : Nat) (h : eqz x = true) : ∃ s, single.read x = .number s 0 (-149) := by
  have h' : FloatKind.f32.format.order x 0 = some .eq := by simpa [eqz] using h
  have h2 : (single.read x).order (single.read 0) = some .eq := h'
  have h0 : single.read 0 = .number false 0 (-149) := by decide
  rw [h0] at h2
  cases hr : single.read x with
  | infinity s => rw [hr] at h2; cases s <;> simp [Datum.order] at h2
  | nan s t => rw [hr] at h2; simp [Datum.order] at h2
  | number s m p =>
    rw [hr] at h2
    simp only [Datum.order, Option.some.injEq, Std.LawfulEqCmp.compare_eq_iff_eq, signed, Nat.shiftLeft_eq] at h2
    have hm : m = 0 := by
      rcases Nat.eq_zero_or_pos m with h3 | h3
      · exact h3
      · exfalso
        have h4 : 0 < m * 2 ^ (p - min p (-149)).toNat := Nat.mul_pos h3 (Nat.two_pow_pos _)
        generalize m * 2 ^ (p - min p (-149)).toNat = a at *
        cases s <;> simp at h2 <;> omega
    subst hm
    refine ⟨s, ?_⟩
    rw [read32] at hr
    split at hr
    · injection hr with e1 e2 e3; rw [← e3]
    · split at hr
      · injection hr with e1 e2 e3; omega
      · split at hr <;> cases hr
theorem zero_eqz (x : Nat) (s : Bool) (p : Int) (hr : single.read x = .number s 0 p) : eqz x = true := by
  have h0 : single.read 0 = .number false 0 (-149) := by decide
  unfold eqz
  show ((single.read x).order (single.read 0) == some .eq) = true
  rw [hr, h0]
  simp only [Datum.order, signed, Nat.zero_shiftLeft]
  cases s <;> rfl
theorem ord_zero_right (l a b : Nat) (ha : eqz a = true) (hb : eqz b = true) : ordF l a = ordF l b := by
  obtain ⟨s, h1⟩ := eqz_read a ha
  obtain ⟨t, h2⟩ := eqz_read b hb
  rw [ordF_read, ordF_read, h1, h2]
  cases single.read l with
  | nan s t => rfl
  | infinity s => rfl
  | number u m p => simp only [Datum.order, signed, Nat.zero_shiftLeft]; cases s <;> cases t <;> rfl
theorem ord_zeq (l a b : Nat) (h : zeq a b) : ordF l a = ordF l b := by
  rcases h with rfl | ⟨ha, hb⟩
  · rfl
  · exact ord_zero_right l a b ha hb

/-- a normal number's digits, or the least place -/
theorem read_norm (x : Nat) (s : Bool) (m : Nat) (p : Int) (hr : single.read x = .number s m p) : -149 ≤ p ∧ m < 16777216 ∧ (8388608 ≤ m ∨ p = -149) ∧ x % 2147483648 = (p + 149).toNat * 8388608 + m ∧ s = (x / 2147483648 % 2 == 1) := by
  rw [read32] at hr
  split at hr
  · injection hr with e1 e2 e3
    exact ⟨by omega, by omega, .inr e3.symm, by omega, e1.symm⟩
  · split at hr
    · injection hr with e1 e2 e3
      exact ⟨by omega, by omega, .inl (by omega), by omega, e1.symm⟩
    · split at hr <;> cases hr
theorem mag_same (m n : Nat) (p q : Int) (hp : -149 ≤ p) (hq : -149 ≤ q) (hm : m < 16777216) (hn : n < 16777216) (h1 : 8388608 ≤ m ∨ p = -149) (h2 : 8388608 ≤ n ∨ q = -149) (hm0 : 0 < m)
    (h : m * 2 ^ (p - min p q).toNat = n * 2 ^ (q - min p q).toNat) : m = n ∧ p = q := by
  rcases Int.lt_trichotomy p q with h3 | h3 | h3
  · exfalso
    rw [show (p - min p q).toNat = 0 by omega, show (q - min p q).toNat = ((q - p).toNat - 1) + 1 by omega, Nat.pow_succ] at h
    have : 1 ≤ 2 ^ ((q - p).toNat - 1) := Nat.one_le_two_pow
    have hn8 : 8388608 ≤ n := by omega
    have h4 : 8388608 * (1 * 2) ≤ n * (2 ^ ((q - p).toNat - 1) * 2) := Nat.mul_le_mul hn8 (by omega)
    omega
  · subst h3
    refine ⟨?_, rfl⟩
    rw [show (p - min p p).toNat = 0 by omega] at h
    omega
  · exfalso
    rw [show (q - min p q).toNat = 0 by omega, show (p - min p q).toNat = ((p - q).toNat - 1) + 1 by omega, Nat.pow_succ] at h
    have : 1 ≤ 2 ^ ((p - q).toNat - 1) := Nat.one_le_two_pow
    have hm8 : 8388608 ≤ m := by omega
    have h4 : 8388608 * (1 * 2) ≤ m * (2 ^ ((p - q).toNat - 1) * 2) := Nat.mul_le_mul hm8 (by omega)
    omega
/-- two numbers that are equal -/
theorem ord_eq (x y : Nat) (hx : fin x = true) (hy : fin y = true) (lx : x < 4294967296) (ly : y < 4294967296) (h : ordF x y = some .eq) : zeq x y := by
  obtain ⟨s, m, p, hr, _⟩ := fin_read x hx
  obtain ⟨t, n, q, hq, _⟩ := fin_read y hy
  obtain ⟨a1, a2, a3, a4, a5⟩ := read_norm x s m p hr
  obtain ⟨b1, b2, b3, b4, b5⟩ := read_norm y t n q hq
  rw [ordF_read, hr, hq] at h
  simp only [Datum.order, Option.some.injEq, Std.LawfulEqCmp.compare_eq_iff_eq, signed, Nat.shiftLeft_eq] at h
  have hA : 0 < m → 0 < m * 2 ^ (p - min p q).toNat := fun h => Nat.mul_pos h (Nat.two_pow_pos _)
  have hB : 0 < n → 0 < n * 2 ^ (q - min p q).toNat := fun h => Nat.mul_pos h (Nat.two_pow_pos _)
  by_cases hm : m = 0
  · subst hm
    have hn : n = 0 := by
      rcases Nat.eq_zero_or_pos n with h3 | h3
      · exact h3
      · exfalso
        have := hB h3
        rw [Nat.zero_mul] at h
        generalize n * 2 ^ (q - min p q).toNat = b at *
        cases s <;> cases t <;> simp at h <;> omega
    subst hn
    exact .inr ⟨zero_eqz x s p hr, zero_eqz y t q hq⟩
  · have hA' := hA (by omega)
    have hst : s = t ∧ m * 2 ^ (p - min p q).toNat = n * 2 ^ (q - min p q).toNat := by
      generalize m * 2 ^ (p - min p q).toNat = a at *
      generalize n * 2 ^ (q - min p q).toNat = b at *
      cases s <;> cases t <;> simp at h <;> first | exact ⟨rfl, by omega⟩ | (exfalso; omega)
    obtain ⟨e1, e2⟩ := mag_same m n p q a1 b1 a2 b2 a3 b3 (by omega) hst.2
    subst e1 e2
    have hs := hst.1
    rw [a5, b5] at hs
    have hs2 : x / 2147483648 % 2 = y / 2147483648 % 2 := by
      have e1 : x / 2147483648 % 2 < 2 := Nat.mod_lt _ (by omega)
      have e2 : y / 2147483648 % 2 < 2 := Nat.mod_lt _ (by omega)
      generalize x / 2147483648 % 2 = u at *
      generalize y / 2147483648 % 2 = v at *
      match u, v, e1, e2 with
      | 0, 0, _, _ => rfl
      | 1, 1, _, _ => rfl
      | 0, 1, _, _ => simp at hs
      | 1, 0, _, _ => simp at hs
    left
    omega

/-- the greater one of two, as the builtin tells it; the less one -/
def mx2 (x y : Nat) : Nat := match ordF x y with
  | some .lt => y
  | some .gt => x
  | some .eq => if (single.read x).neg then y else x
  | none => 0
def mn2 (x y : Nat) : Nat := match ordF x y with
  | some .lt => x
  | some .gt => y
  | some .eq => if (single.read x).neg then x else y
  | none => 0
/-- the greater one as a test tells it; the less one -/
def up2 (t l : Nat) : Nat := if ordF l t == some .gt then l else t
def lo2 (t l : Nat) : Nat := if ordF l t == some .lt then l else t

theorem mx_up (x t l : Nat) (hx : fin x = true) (hl : fin l = true) (lx : x < 4294967296) (ll : l < 4294967296) (h : zeq x t) : zeq (mx2 x l) (up2 t l) ∧ (mx2 x l = x ∨ mx2 x l = l) ∧ (up2 t l = t ∨ up2 t l = l) := by
  obtain ⟨o, ho⟩ := ord_some x l hx hl
  have hs := ord_swap x l hx hl
  have hz := ord_zeq l x t h
  unfold mx2 up2
  rw [← hz, hs, ho]
  cases o
  · exact ⟨.inl rfl, .inr rfl, .inr rfl⟩
  · have he := ord_eq x l hx hl lx ll ho
    refine ⟨?_, ?_, .inl rfl⟩
    · show zeq (if (single.read x).neg then l else x) t
      split
      · rcases he with rfl | ⟨e1, e2⟩
        · exact h
        · rcases h with rfl | ⟨f1, f2⟩
          · exact .inr ⟨e2, e1⟩
          · exact .inr ⟨e2, f2⟩
      · exact h
    · show (if (single.read x).neg then l else x) = x ∨ (if (single.read x).neg then l else x) = l
      split
      · exact .inr rfl
      · exact .inl rfl
  · exact ⟨h, .inl rfl, .inl rfl⟩
theorem mn_lo (x t l : Nat) (hx : fin x = true) (hl : fin l = true) (lx : x < 4294967296) (ll : l < 4294967296) (h : zeq x t) : zeq (mn2 x l) (lo2 t l) ∧ (mn2 x l = x ∨ mn2 x l = l) ∧ (lo2 t l = t ∨ lo2 t l = l) := by
  obtain ⟨o, ho⟩ := ord_some x l hx hl
  have hs := ord_swap x l hx hl
  have hz := ord_zeq l x t h
  unfold mn2 lo2
  rw [← hz, hs, ho]
  cases o
  · exact ⟨h, .inl rfl, .inl rfl⟩
  · have he := ord_eq x l hx hl lx ll ho
    refine ⟨?_, ?_, .inl rfl⟩
    · show zeq (if (single.read x).neg then x else l) t
      split
      · exact h
      · rcases he with rfl | ⟨e1, e2⟩
        · exact h
        · rcases h with rfl | ⟨f1, f2⟩
          · exact .inr ⟨e2, e1⟩
          · exact .inr ⟨e2, f2⟩
    · show (if (single.read x).neg then x else l) = x ∨ (if (single.read x).neg then x else l) = l
      split
      · exact .inl rfl
      · exact .inr rfl
  · exact ⟨.inl rfl, .inr rfl, .inr rfl⟩
end Go.Proofs.YtjmfffgddmnkmabDoor
