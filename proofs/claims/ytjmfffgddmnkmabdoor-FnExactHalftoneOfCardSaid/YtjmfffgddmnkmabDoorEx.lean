/- Exact numbers: products of whole numbers and powers of 2 in float64, and what is left of them in float32. Condition: none. -/
import Ieee.Arith
namespace Go.Proofs.YtjmfffgddmnkmabDoor
open Ieee

theorem log2_scaled (m k : Nat) (h : 0 < m) : (m * 2 ^ k).log2 = m.log2 + k := by
  have hp : 0 < 2 ^ k := Nat.two_pow_pos k
  have hne : m * 2 ^ k ≠ 0 := by have := Nat.mul_pos h hp; omega
  have h1 := (Nat.log2_eq_iff (show m ≠ 0 by omega) (k := m.log2)).1 rfl
  refine (Nat.log2_eq_iff hne).2 ⟨?_, ?_⟩
  · rw [Nat.pow_add]; exact Nat.mul_le_mul_right _ h1.1
  · rw [show m.log2 + k + 1 = (m.log2 + 1) + k by omega, Nat.pow_add]; exact Nat.mul_lt_mul_of_pos_right h1.2 hp
theorem cut_scaled (s : Bool) (m q : Nat) (h : 0 < m) : Toward.even.cut s (m * 2 ^ q) q = m := by
  have hp : 0 < 2 ^ q := Nat.two_pow_pos q
  have hl := log2_scaled m q h
  unfold Toward.cut
  rw [Nat.min_eq_left (by omega), Nat.shiftLeft_eq, Nat.one_mul]
  simp only [Nat.mul_mod_left, Nat.mul_div_cancel _ hp, Nat.mul_zero]
  have h1 : ¬ 2 ^ q < 0 := by omega
  have h2 : (2 ^ q == 0) = false := by simp
  rw [decide_eq_false h1, h2]
  rfl

/-- the number m times 2 to the p is one of the format -/
structure Fits (f : Format) (M : Nat) (P : Int) : Prop where
  pos : 0 < M
  low : f.leastPlace ≤ P
  top : M < 2 * f.binade
  norm : f.binade ≤ M ∨ P = f.leastPlace
  fin : (P - f.leastPlace).toNat * f.binade + M < f.infRung
def rungOf (f : Format) (M : Nat) (P : Int) : Nat := (P - f.leastPlace).toNat * f.binade + M

theorem log2_fits {f : Format} {M : Nat} {P : Int} (h : Fits f M P) : max (P + (M.log2 : Int) - (f.fractionBits : Int)) f.leastPlace = P := by
  have h0 := h.pos
  have hl := (Nat.log2_eq_iff (show M ≠ 0 by omega) (k := M.log2)).1 rfl
  have hlow := h.low
  have htop := h.top
  have h2 : M.log2 < f.fractionBits + 1 := (Nat.log2_lt (by omega)).2 (by rw [Nat.pow_succ]; unfold Format.binade at htop; omega)
  rcases h.norm with hn | hn
  · have h3 : f.fractionBits ≤ M.log2 := (Nat.le_log2 (by omega)).2 hn
    omega
  · omega

theorem nearest_up {f : Format} {M : Nat} {P : Int} (h : Fits f M P) (s : Bool) (a : Nat) : f.nearest s (M * 2 ^ a) (P - a) = f.word s (rungOf f M P) := by
  have hne : ¬ M * 2 ^ a = 0 := by have := Nat.mul_pos h.pos (Nat.two_pow_pos a); omega
  unfold Format.nearest
  rw [if_neg hne, log2_scaled M a h.pos, show P - (a : Int) + ((M.log2 + a : Nat) : Int) - (f.fractionBits : Int) = P + (M.log2 : Int) - (f.fractionBits : Int) by omega, log2_fits h]
  simp only []
  rw [show (P - (a : Int) - P).toNat = 0 by omega, show (P - (P - (a : Int))).toNat = a by omega, Nat.shiftLeft_zero, cut_scaled s M a h.pos, Nat.min_eq_left (Nat.le_of_lt h.fin)]
  rfl
theorem nearest_down {f : Format} {M : Nat} {P : Int} (h : Fits f M P) (s : Bool) (m b : Nat) (hM : m * 2 ^ b = M) : f.nearest s m (P + b) = f.word s (rungOf f M P) := by
  have hm : 0 < m := by
    have := h.pos
    rcases Nat.eq_zero_or_pos m with rfl | h1
    · simp at hM; omega
    · exact h1
  unfold Format.nearest
  rw [if_neg (by omega)]
  have hl : M.log2 = m.log2 + b := by rw [← hM]; exact log2_scaled m b hm
  rw [show P + (b : Int) + (m.log2 : Int) - (f.fractionBits : Int) = P + (M.log2 : Int) - (f.fractionBits : Int) by omega, log2_fits h]
  simp only []
  have hc := cut_scaled s M 0 h.pos
  rw [Nat.pow_zero, Nat.mul_one] at hc
  rw [show (P + (b : Int) - P).toNat = b by omega, show (P - (P + (b : Int))).toNat = 0 by omega, Nat.shiftLeft_eq, hM, hc, Nat.min_eq_left (Nat.le_of_lt h.fin)]
  rfl

theorem infRung_lt (f : Format) : f.infRung < f.signWeight := by
  unfold Format.infRung Format.signWeight Format.binade
  rw [Nat.pow_add]
  exact Nat.mul_lt_mul_of_pos_right (by have := Nat.two_pow_pos f.exponentBits; omega) (Nat.two_pow_pos _)
theorem read_rung {f : Format} {M : Nat} {P : Int} (h : Fits f M P) (s : Bool) : f.read (f.word s (rungOf f M P)) = .number s M P := by
  have hi := infRung_lt f
  have hf := h.fin
  have hw : f.word s (rungOf f M P) / f.signWeight % 2 = (if s then 1 else 0) ∧ f.word s (rungOf f M P) % f.signWeight = rungOf f M P := by
    unfold Format.word rungOf
    generalize (P - f.leastPlace).toNat * f.binade + M = r at *
    generalize f.signWeight = W at *
    cases s
    · simp only [Bool.false_eq_true, if_false]
      exact ⟨by rw [Nat.div_eq_of_lt (by omega)], Nat.mod_eq_of_lt (by omega)⟩
    · simp only [if_true]
      refine ⟨?_, ?_⟩
      · rw [Nat.add_comm, Nat.add_div_right _ (by omega), Nat.div_eq_of_lt (by omega)]
      · rw [Nat.add_comm, Nat.add_mod_right, Nat.mod_eq_of_lt (by omega)]
  have hb : 0 < f.binade := Nat.two_pow_pos _
  have htop := h.top
  have hlow := h.low
  unfold Format.read
  simp only [hw.1, hw.2]
  have hs : ((if s = true then 1 else 0) == 1) = s := by cases s <;> rfl
  rw [hs]
  unfold rungOf
  rcases h.norm with hn | hn
  · obtain ⟨k, hk⟩ : ∃ k : Nat, P = f.leastPlace + k := ⟨(P - f.leastPlace).toNat, by omega⟩
    have e1 : (P - f.leastPlace).toNat = k := by omega
    rw [e1]
    rw [e1] at hf
    rw [if_neg (by omega), if_pos hf]
    obtain ⟨r, hr⟩ : ∃ r, M = f.binade + r := ⟨M - f.binade, by omega⟩
    have hr2 : r < f.binade := by omega
    have e2 : k * f.binade + M = r + (k + 1) * f.binade := by rw [Nat.add_mul]; omega
    rw [e2, Nat.add_mul_mod_self_right, Nat.mod_eq_of_lt hr2, Nat.add_mul_div_right _ _ hb, Nat.div_eq_of_lt hr2]
    rw [show f.leastPlace + ((0 + (k + 1) - 1 : Nat) : Int) = P by omega, ← hr]
  · subst hn
    rw [show (f.leastPlace - f.leastPlace).toNat = 0 by omega, Nat.zero_mul, Nat.zero_add]
    by_cases h1 : M < f.binade
    · rw [if_pos h1]
    · rw [if_neg h1, if_pos (by rw [show (f.leastPlace - f.leastPlace).toNat = 0 by omega] at hf; omega)]
      rw [Nat.mod_eq_sub_mod (by omega), Nat.mod_eq_of_lt (by omega), Nat.div_eq_of_lt_le (k := 1) (by omega) (by omega)]
      rw [show f.binade + (M - f.binade) = M by omega]
      simp

/-- 2 to the j as a float64 -/
def twoW (j : Int) : Nat := ((j + 1023).toNat) * 2 ^ 52
theorem double_facts : double.leastPlace = -1074 ∧ double.binade = 2 ^ 52 ∧ double.infRung = 2047 * 2 ^ 52 ∧ double.fractionBits = 52 := ⟨by decide, by decide, by decide, rfl⟩
theorem single_facts : single.leastPlace = -149 ∧ single.binade = 2 ^ 23 ∧ single.infRung = 255 * 2 ^ 23 ∧ single.fractionBits = 23 := ⟨by decide, by decide, by decide, rfl⟩
theorem fitsD (M : Nat) (P : Int) (h1 : 2 ^ 52 ≤ M) (h2 : M < 2 ^ 53) (h3 : -1074 ≤ P) (h4 : P ≤ 900) : Fits double M P := by
  obtain ⟨d1, d2, d3, d4⟩ := double_facts
  refine ⟨by omega, by rw [d1]; exact h3, by rw [d2]; omega, .inl (by rw [d2]; exact h1), ?_⟩
  rw [d1, d2, d3]
  omega
theorem read_two (j : Int) (h1 : -1022 ≤ j) (h2 : j ≤ 900) : double.read (twoW j) = .number false (2 ^ 52) (j - 52) := by
  have h := fitsD (2 ^ 52) (j - 52) (by decide) (by decide) (by omega) (by omega)
  have hr := read_rung h false
  obtain ⟨d1, d2, d3, d4⟩ := double_facts
  have e : double.word false (rungOf double (2 ^ 52) (j - 52)) = twoW j := by
    unfold Format.word rungOf twoW
    rw [d1, d2]
    simp only [Bool.false_eq_true, if_false]
    omega
  rw [← e, hr]

/-- a whole number below 2^53 as a float64 -/
theorem nearest_whole (p : Nat) (h0 : 0 < p) (h1 : p < 2 ^ 53) : ∃ M a : Nat, 2 ^ 52 ≤ M ∧ M < 2 ^ 53 ∧ a ≤ 52 ∧ M = p * 2 ^ a ∧ double.read (double.nearest false p 0) = .number false M (-(a : Int)) := by
  have hl := (Nat.log2_eq_iff (show p ≠ 0 by omega) (k := p.log2)).1 rfl
  have hl2 : p.log2 < 53 := (Nat.log2_lt (by omega)).2 h1
  refine ⟨p * 2 ^ (52 - p.log2), 52 - p.log2, ?_, ?_, by omega, rfl, ?_⟩
  · have : 2 ^ p.log2 * 2 ^ (52 - p.log2) = 2 ^ 52 := by rw [← Nat.pow_add]; congr 1; omega
    rw [← this]; exact Nat.mul_le_mul_right _ hl.1
  · have : 2 ^ (p.log2 + 1) * 2 ^ (52 - p.log2) = 2 ^ 53 := by rw [← Nat.pow_add]; congr 1; omega
    rw [← this]; exact Nat.mul_lt_mul_of_pos_right hl.2 (Nat.two_pow_pos _)
  · have f1 : 2 ^ 52 ≤ p * 2 ^ (52 - p.log2) := by
      have : 2 ^ p.log2 * 2 ^ (52 - p.log2) = 2 ^ 52 := by rw [← Nat.pow_add]; congr 1; omega
      rw [← this]; exact Nat.mul_le_mul_right _ hl.1
    have f2 : p * 2 ^ (52 - p.log2) < 2 ^ 53 := by
      have : 2 ^ (p.log2 + 1) * 2 ^ (52 - p.log2) = 2 ^ 53 := by rw [← Nat.pow_add]; congr 1; omega
      rw [← this]; exact Nat.mul_lt_mul_of_pos_right hl.2 (Nat.two_pow_pos _)
    have h := fitsD _ (-((52 - p.log2 : Nat) : Int)) f1 f2 (by omega) (by omega)
    have hn := nearest_down h false p (52 - p.log2) rfl
    rw [show (-((52 - p.log2 : Nat) : Int)) + ((52 - p.log2 : Nat) : Int) = 0 by omega] at hn
    rw [hn, read_rung h]

/-- a whole number times a power of 2, in float64, and then in float32 -/
theorem times_two (p : Nat) (h0 : 0 < p) (h1 : p < 2 ^ 53) (j : Int) (hj : -900 ≤ j) (hj2 : j ≤ 800) : ∃ y a : Nat, double.mul (double.nearest false p 0) (twoW j) = some y ∧ double.read y = .number false (p * 2 ^ a) (j - a) := by
  obtain ⟨M, a, m1, m2, ha, hM, hr⟩ := nearest_whole p h0 h1
  have h := fitsD M (j - a) m1 m2 (by omega) (by omega)
  refine ⟨double.word false (rungOf double M (j - a)), a, ?_, ?_⟩
  · unfold Format.mul
    rw [hr, read_two j (by omega) (by omega)]
    simp only [Datum.product, Option.map_some, Format.write]
    have hn := nearest_up h false 52
    rw [show (-(a : Int)) + (j - 52) = j - a - (52 : Nat) by omega]
    rw [Bool.xor_false, hn]
  · rw [read_rung h, hM]

/-- the float32 of a place -/
theorem place_float (p : Nat) (h0 : 0 < p) (h1 : p < 255 * 2 ^ 23) : ∃ (M : Nat) (P : Int), Fits single M P ∧ rungOf single M P = p ∧ (p < 2 ^ 23 → M = p ∧ P = -149) ∧ (2 ^ 23 ≤ p → M = p % 2 ^ 23 + 2 ^ 23 ∧ P = (p / 2 ^ 23 : Nat) - 150) := by
  obtain ⟨d1, d2, d3, d4⟩ := single_facts
  by_cases h : p < 2 ^ 23
  · refine ⟨p, -149, ⟨h0, by rw [d1]; omega, by rw [d2]; omega, .inr (by rw [d1]), by rw [d1, d2, d3]; omega⟩, ?_, fun _ => ⟨rfl, rfl⟩, fun h2 => by omega⟩
    unfold rungOf; rw [d1, d2]; omega
  · refine ⟨p % 2 ^ 23 + 2 ^ 23, (p / 2 ^ 23 : Nat) - 150, ⟨by omega, by rw [d1]; omega, by rw [d2]; omega, .inl (by rw [d2]; omega), by rw [d1, d2, d3]; omega⟩, ?_, fun h2 => by omega, fun _ => ⟨rfl, rfl⟩⟩
    unfold rungOf; rw [d1, d2]; omega
theorem to_single {M : Nat} {P : Int} (h : Fits single M P) (y a : Nat) (hy : double.read y = .number false (M * 2 ^ a) (P - a)) : single.write (double.read y) = rungOf single M P := by
  rw [hy]
  show single.nearest false (M * 2 ^ a) (P - a) = _
  rw [nearest_up h false a]; rfl
end Go.Proofs.YtjmfffgddmnkmabDoor
