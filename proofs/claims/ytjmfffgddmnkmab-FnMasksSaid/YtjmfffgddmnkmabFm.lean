/- Plain facts on float32's bits: what equals 0 or 1, what 1 less it is, what it and 0 are together. Condition: none. -/
import Derived.Test.YtjmfffgddmnkmabEqC
import Derived.Test.YtjmfffgddmnkmabM14
import Derived.Laws.ComplexArith
namespace Go.Proofs.Ytjmfffgddmnkmab
open Go Go.RowKit
open Ieee

theorem read_zero (x : Nat) (h : (FloatKind.f32.format.order x 0 == some .eq) = true) : ∃ s, single.read x = .number s 0 (-149) := by
  have h' : FloatKind.f32.format.order x 0 = some .eq := by simpa using h
  have h2 : (single.read x).order (single.read 0) = some .eq := h'
  have h0 : single.read 0 = .number false 0 (-149) := by decide
  rw [h0, read32] at h2
  rw [read32]
  by_cases h3 : x % 2147483648 < 8388608
  · rw [if_pos h3] at h2 ⊢
    simp only [Datum.order, Option.some.injEq, Std.LawfulEqCmp.compare_eq_iff_eq, signed] at h2
    have : x % 2147483648 = 0 := by
      cases hs : (x / 2147483648 % 2 == 1) <;> rw [hs] at h2 <;> simp at h2 <;> omega
    rw [this]
    exact ⟨_, rfl⟩
  · exfalso
    rw [if_neg h3] at h2
    by_cases h4 : x % 2147483648 < 2139095040
    · rw [if_pos h4] at h2
      simp only [Datum.order, Option.some.injEq, Std.LawfulEqCmp.compare_eq_iff_eq, signed] at h2
      generalize (-149 + ((x % 2147483648 / 8388608 - 1 : Nat) : Int) - min (-149 + ((x % 2147483648 / 8388608 - 1 : Nat) : Int)) (-149)).toNat = q at h2
      have hp : 0 < (8388608 + x % 2147483648 % 8388608) <<< q := by
        rw [Nat.shiftLeft_eq]; exact Nat.mul_pos (by omega) (Nat.two_pow_pos _)
      generalize (8388608 + x % 2147483648 % 8388608) <<< q = r at *
      cases hs : (x / 2147483648 % 2 == 1) <;> rw [hs] at h2 <;> simp at h2 <;> omega
    · rw [if_neg h4] at h2
      by_cases h5 : x % 2147483648 = 2139095040
      · rw [if_pos h5] at h2
        cases hs : (x / 2147483648 % 2 == 1) <;> rw [hs] at h2 <;> simp [Datum.order] at h2
      · rw [if_neg h5] at h2
        simp [Datum.order] at h2

theorem read_one (x : Nat) (h : (FloatKind.f32.format.order x 1065353216 == some .eq) = true) : single.read x = .number false 8388608 (-23) := by
  have h' : FloatKind.f32.format.order x 1065353216 = some .eq := by simpa using h
  have h2 : (single.read x).order (single.read 1065353216) = some .eq := h'
  have h0 : single.read 1065353216 = .number false 8388608 (-23) := by decide
  rw [h0, read32] at h2
  rw [read32]
  by_cases h3 : x % 2147483648 < 8388608
  · exfalso
    rw [if_pos h3] at h2
    simp only [Datum.order, Option.some.injEq, Std.LawfulEqCmp.compare_eq_iff_eq, signed] at h2
    rw [show min (-149 : Int) (-23) = -149 by decide, show ((-149 : Int) - -149).toNat = 0 by decide, show ((-23 : Int) - -149).toNat = 126 by decide] at h2
    simp only [Nat.shiftLeft_eq] at h2
    cases hs : (x / 2147483648 % 2 == 1) <;> rw [hs] at h2 <;> simp at h2 <;> omega
  · rw [if_neg h3] at h2 ⊢
    by_cases h4 : x % 2147483648 < 2139095040
    · rw [if_pos h4] at h2 ⊢
      simp only [Datum.order, Option.some.injEq, Std.LawfulEqCmp.compare_eq_iff_eq, signed, Nat.shiftLeft_eq] at h2
      generalize hk : x % 2147483648 / 8388608 - 1 = k at *
      generalize hm : x % 2147483648 % 8388608 = f at *
      have hf : f < 8388608 := by omega
      have hs : (x / 2147483648 % 2 == 1) = false := by
        cases hs : (x / 2147483648 % 2 == 1)
        · rfl
        · exfalso
          rw [hs] at h2
          simp only [if_true, Bool.false_eq_true, if_false] at h2
          have h6 : 0 < 8388608 * 2 ^ ((-23 : Int) - min (-149 + (k : Int)) (-23)).toNat := Nat.mul_pos (by omega) (Nat.two_pow_pos _)
          generalize 8388608 * 2 ^ ((-23 : Int) - min (-149 + (k : Int)) (-23)).toNat = a at *
          generalize (8388608 + f) * 2 ^ (-149 + (k : Int) - min (-149 + (k : Int)) (-23)).toNat = b at *
          omega
      rw [hs] at h2 ⊢
      simp only [Bool.false_eq_true, if_false] at h2
      by_cases hlt : k < 126
      · exfalso
        rw [show min (-149 + (k : Int)) (-23) = -149 + k by omega, show (-149 + (k : Int) - (-149 + k)).toNat = 0 by omega] at h2
        obtain ⟨j, hj⟩ : ∃ j, ((-23 : Int) - (-149 + (k : Int))).toNat = j + 1 := ⟨((-23 : Int) - (-149 + (k : Int))).toNat - 1, by omega⟩
        rw [hj, Nat.pow_succ] at h2
        have h7 : 1 ≤ 2 ^ j := Nat.two_pow_pos _
        generalize 2 ^ j = a at *
        omega
      · rw [show min (-149 + (k : Int)) (-23) = -23 by omega, show ((-23 : Int) - -23).toNat = 0 by decide] at h2
        obtain ⟨j, hj⟩ : ∃ j : Nat, k = 126 + j := ⟨k - 126, by omega⟩
        rw [show (-149 + (k : Int) - -23).toNat = j by omega] at h2
        have h8 : j = 0 := by
          rcases Nat.eq_zero_or_pos j with h | h
          · exact h
          · exfalso
            obtain ⟨i, rfl⟩ : ∃ i, j = i + 1 := ⟨j - 1, by omega⟩
            rw [Nat.pow_succ] at h2
            have h7 : 1 ≤ 2 ^ i := Nat.two_pow_pos _
            have h9 : 8388608 + f ≤ (8388608 + f) * 2 ^ i := Nat.le_mul_of_pos_right _ h7
            rw [← Nat.mul_assoc] at h2
            generalize (8388608 + f) * 2 ^ i = a at *
            omega
        subst h8
        have hf0 : f = 0 := by omega
        rw [hf0, hj]
        rfl
    · exfalso
      rw [if_neg h4] at h2
      by_cases h5 : x % 2147483648 = 2139095040
      · rw [if_pos h5] at h2
        cases hs : (x / 2147483648 % 2 == 1) <;> rw [hs] at h2 <;> simp [Datum.order] at h2
      · rw [if_neg h5] at h2
        simp [Datum.order] at h2

theorem sub_one_zero (x : Nat) (h : (FloatKind.f32.format.order x 0 == some .eq) = true) : single.sub 1065353216 x = some 1065353216 := by
  obtain ⟨s, hr⟩ := read_zero x h
  unfold Format.sub
  rw [hr]
  cases s <;> decide
theorem sub_zero_zero (x : Nat) (h : (FloatKind.f32.format.order x 0 == some .eq) = true) : single.sub 0 x = some 0 := by
  obtain ⟨s, hr⟩ := read_zero x h
  unfold Format.sub
  rw [hr]
  cases s <;> decide
theorem sub_one_one (x : Nat) (h : (FloatKind.f32.format.order x 1065353216 == some .eq) = true) : single.sub 1065353216 x = some 0 := by
  have hr := read_one x h
  unfold Format.sub
  rw [hr]
  decide

theorem word_read (x : Nat) (h : fin x = true) : single.read (single.word (x / 2147483648 % 2 == 1) (x % 2147483648)) = single.read x ∧ fin (single.word (x / 2147483648 % 2 == 1) (x % 2147483648)) = true := by
  have h' : x % 2147483648 < 2139095040 := by simpa [fin] using h
  have hs : single.signWeight = 2147483648 := rfl
  have key : single.word (x / 2147483648 % 2 == 1) (x % 2147483648) % 2147483648 = x % 2147483648 ∧ single.word (x / 2147483648 % 2 == 1) (x % 2147483648) / 2147483648 % 2 = x / 2147483648 % 2 := by
    unfold Format.word
    rw [hs]
    by_cases h1 : x / 2147483648 % 2 = 1
    · rw [if_pos (by simp [h1])]; omega
    · rw [if_neg (by simp [h1])]; omega
  refine ⟨?_, ?_⟩
  · rw [read32, read32, key.1, key.2]
  · unfold fin; rw [key.1]; simpa using h'

theorem cut_exact (s : Bool) (m q : Nat) (h : q ≤ (m * 2 ^ q).log2 + 2) : Toward.even.cut s (m * 2 ^ q) q = m := by
  have hp : 0 < 2 ^ q := Nat.two_pow_pos q
  unfold Toward.cut
  rw [Nat.min_eq_left h, Nat.shiftLeft_eq, Nat.one_mul]
  simp only [Nat.mul_mod_left, Nat.mul_div_cancel _ hp, Nat.mul_zero]
  have h1 : ¬ 2 ^ q < 0 := by omega
  have h2 : (2 ^ q == 0) = false := by simp
  rw [decide_eq_false h1, h2]
  rfl

theorem nearest_exact (x : Nat) (h : fin x = true) (s : Bool) (m : Nat) (p : Int) (hr : single.read x = .number s m p) (h0 : 0 < m) :
    single.nearest s (m * 2 ^ (p + 149).toNat) (-149) = single.word (x / 2147483648 % 2 == 1) (x % 2147483648) := by
  have h' : x % 2147483648 < 2139095040 := by simpa [fin] using h
  have hlp : single.leastPlace = -149 := rfl
  have hfb : (single.fractionBits : Int) = 23 := rfl
  have hbin : single.binade = 8388608 := rfl
  have hinf : single.infRung = 2139095040 := rfl
  rw [read32] at hr
  by_cases h3 : x % 2147483648 < 8388608
  · rw [if_pos h3] at hr
    injection hr with e1 e2 e3
    subst e1 e2 e3
    rw [show ((-149 : Int) + 149).toNat = 0 by decide, Nat.pow_zero, Nat.mul_one]
    have hl : (x % 2147483648).log2 ≤ 22 := by
      have : (x % 2147483648).log2 < 23 := (Nat.log2_lt (by omega)).2 (by omega)
      omega
    unfold Format.nearest
    rw [if_neg (by omega)]
    simp only [hlp, hfb, hbin, hinf]
    rw [show max ((-149 : Int) + ((x % 2147483648).log2 : Int) - 23) (-149) = -149 by omega, show ((-149 : Int) - -149).toNat = 0 by decide]
    have hc := cut_exact (x / 2147483648 % 2 == 1) (x % 2147483648) 0 (by omega)
    rw [Nat.pow_zero, Nat.mul_one] at hc
    rw [Nat.shiftLeft_zero, hc, Nat.zero_mul, Nat.zero_add, Nat.min_eq_left (by omega)]
  · rw [if_neg h3, if_pos h'] at hr
    injection hr with e1 e2 e3
    subst e1 e2 e3
    generalize hk : x % 2147483648 / 8388608 - 1 = k at *
    generalize hm : x % 2147483648 % 8388608 = f at *
    have hf : f < 8388608 := by omega
    rw [show (-149 + (k : Int) + 149).toNat = k by omega]
    have hl : ((8388608 + f) * 2 ^ k).log2 = 23 + k := by
      have hp : 0 < 2 ^ k := Nat.two_pow_pos k
      have a1 : 2 ^ (23 + k) ≤ (8388608 + f) * 2 ^ k := by rw [Nat.pow_add]; exact Nat.mul_le_mul_right _ (by omega)
      have a2 : (8388608 + f) * 2 ^ k < 2 ^ (23 + k + 1) := by
        rw [show 23 + k + 1 = 24 + k by omega, Nat.pow_add]; exact Nat.mul_lt_mul_of_pos_right (by omega) hp
      have hne : (8388608 + f) * 2 ^ k ≠ 0 := by
        have := Nat.mul_pos (show 0 < 8388608 + f by omega) hp
        omega
      have b1 := (Nat.le_log2 hne).2 a1
      have b2 := (Nat.log2_lt hne).2 a2
      omega
    have hne : ¬ (8388608 + f) * 2 ^ k = 0 := by
      have := Nat.mul_pos (show 0 < 8388608 + f by omega) (Nat.two_pow_pos k)
      omega
    have hc := cut_exact (x / 2147483648 % 2 == 1) (8388608 + f) k (by rw [hl]; omega)
    unfold Format.nearest
    rw [if_neg hne]
    simp only [hlp, hfb, hbin, hinf]
    rw [hl, show max ((-149 : Int) + ((23 + k : Nat) : Int) - 23) (-149) = -149 + k by omega, show ((-149 : Int) - (-149 + (k : Int))).toNat = 0 by omega, show ((-149 : Int) + (k : Int) - -149).toNat = k by omega, Nat.shiftLeft_zero, hc]
    rw [show k * 8388608 + (8388608 + f) = x % 2147483648 by omega, Nat.min_eq_left (by omega)]

theorem sum_zero (s : Bool) (m : Nat) (p : Int) (hp : -149 ≤ p) : (Datum.number s m p).sum (.number false 0 (-149)) = some (.number (if m = 0 then false else s) (m * 2 ^ (p + 149).toNat) (-149)) ∧ (Datum.number false 0 (-149)).sum (.number s m p) = some (.number (if m = 0 then false else s) (m * 2 ^ (p + 149).toNat) (-149)) := by
  have e1 : min p (-149) = -149 := by omega
  have e2 : min (-149) p = -149 := by omega
  have e3 : (p - -149).toNat = (p + 149).toNat := by omega
  have e4 : ((-149 : Int) - -149).toNat = 0 := by decide
  have hp2 : 0 < 2 ^ (p + 149).toNat := Nat.two_pow_pos _
  generalize (p + 149).toNat = q at *
  simp only [Datum.sum, e1, e2, e3, e4, signed, Nat.shiftLeft_eq]
  by_cases hm : m = 0
  · subst hm
    cases s <;> simp
  · have h0 : 0 < m * 2 ^ q := Nat.mul_pos (by omega) hp2
    rw [if_neg hm]
    generalize m * 2 ^ q = a at *
    cases s
    · simp
    · simp; omega

theorem add_zero32 (x : Nat) (h : fin x = true) : ∃ y, single.add x 0 = some y ∧ single.add 0 x = some y ∧ Op.floatEq .f32 y x = true ∧ fin y = true := by
  obtain ⟨s, m, p, hr, hm, hp, hp'⟩ := fin_read x h
  have h0 : single.read 0 = .number false 0 (-149) := by decide
  obtain ⟨z1, z2⟩ := sum_zero s m p hp
  by_cases hm0 : m = 0
  · subst hm0
    refine ⟨0, ?_, ?_, ?_, by decide⟩
    · unfold Format.add; rw [hr, h0, z1]; simp [Format.write, Format.nearest, Format.word]
    · unfold Format.add; rw [hr, h0, z2]; simp [Format.write, Format.nearest, Format.word]
    · unfold Op.floatEq
      have : FloatKind.f32.format.order 0 x = some .eq := by
        show (single.read 0).order (single.read x) = _
        rw [hr, h0]
        simp only [Datum.order, Option.some.injEq, Std.LawfulEqCmp.compare_eq_iff_eq, signed]
        cases s <;> simp
      rw [this]; rfl
  · have hn := nearest_exact x h s m p hr (by omega)
    obtain ⟨w1, w2⟩ := word_read x h
    refine ⟨single.word (x / 2147483648 % 2 == 1) (x % 2147483648), ?_, ?_, ?_, w2⟩
    · unfold Format.add; rw [hr, h0, z1, if_neg hm0]; simp only [Option.map_some, Format.write]; rw [hn]
    · unfold Format.add; rw [hr, h0, z2, if_neg hm0]; simp only [Option.map_some, Format.write]; rw [hn]
    · have hself := self32 x h
      unfold Op.floatEq at hself ⊢
      have e : FloatKind.f32.format.order (single.word (x / 2147483648 % 2 == 1) (x % 2147483648)) x = FloatKind.f32.format.order x x := by
        show (single.read _).order (single.read x) = (single.read x).order (single.read x)
        rw [w1]
      rw [e]; exact hself
end Go.Proofs.Ytjmfffgddmnkmab
