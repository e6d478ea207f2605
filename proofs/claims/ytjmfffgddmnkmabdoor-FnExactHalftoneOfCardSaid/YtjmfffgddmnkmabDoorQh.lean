/- Plain facts on float32's sums, differences and quotients of numbers: none is a NaN; what a zero's sign turns in them: nothing. Condition: numbers. -/
import Derived.Test.YtjmfffgddmnkmabDoorQg
import Derived.Test.YtjmfffgddmnkmabDoorEqW
namespace Go.Proofs.YtjmfffgddmnkmabDoor
open Go Ieee

def NotNan (x : Nat) : Prop := (∃ s m p, single.read x = .number s m p) ∨ ∃ s, single.read x = .infinity s
theorem notnan_word (s : Bool) (r : Nat) (h : r ≤ 2139095040) : NotNan (single.word s r) := by
  by_cases h1 : r < 2139095040
  · obtain ⟨m, p, hr, _⟩ := read_word32 s r h1
    exact .inl ⟨_, _, _, hr⟩
  · obtain rfl : r = 2139095040 := by omega
    cases s
    · exact .inr ⟨false, by decide⟩
    · exact .inr ⟨true, by decide⟩
theorem notnan_near (s : Bool) (m : Nat) (p : Int) : NotNan (single.nearest s m p) := by
  obtain ⟨r, h, hr, _⟩ := near_any s m p
  rw [h]
  exact notnan_word s r hr
theorem notnan_fin (x : Nat) (h : fin x = true) : NotNan x := by
  obtain ⟨s, m, p, hr, _⟩ := fin_read x h
  exact .inl ⟨_, _, _, hr⟩
theorem add_num (x y : Nat) (hx : fin x = true) (hy : fin y = true) : ∃ r, single.add x y = some r ∧ NotNan r := by
  obtain ⟨s, m, p, hr, _⟩ := fin_read x hx
  obtain ⟨t, n, q, hq, _⟩ := fin_read y hy
  unfold Format.add
  rw [hr, hq]
  exact ⟨_, rfl, notnan_near _ _ _⟩
theorem sub_num (x y : Nat) (hx : fin x = true) (hy : fin y = true) : ∃ r, single.sub x y = some r ∧ NotNan r := by
  obtain ⟨s, m, p, hr, _⟩ := fin_read x hx
  obtain ⟨t, n, q, hq, _⟩ := fin_read y hy
  unfold Format.sub
  rw [hr, hq]
  exact ⟨_, rfl, notnan_near _ _ _⟩
theorem div_num (x q : Nat) (hx : NotNan x) (hq : fin q = true) (hq0 : gtz q = true) : ∃ r, single.div x q = some r ∧ NotNan r := by
  obtain ⟨n, j, hqr, hn, _, _, _⟩ := gtz_read q hq hq0
  unfold Format.div
  rw [hqr]
  rcases hx with ⟨s, m, p, hr⟩ | ⟨s, hr⟩
  · rw [hr]
    simp only [Datum.quotient, show ¬ n = 0 by omega, if_false, Option.map_some, Format.write]
    exact ⟨_, rfl, notnan_near _ _ _⟩
  · rw [hr]
    refine ⟨_, rfl, ?_⟩
    cases s
    · exact .inr ⟨false, by decide⟩
    · exact .inr ⟨true, by decide⟩

theorem gtz_word (r : Nat) (h : r < 2139095040) (h0 : 0 < r) : gtz (single.word false r) = true := by
  obtain ⟨m, p, hr, _, _, _, hm, _⟩ := read_word32 false r h
  have h00 : single.read 0 = .number false 0 (-149) := by decide
  unfold gtz
  show ((single.read (single.word false r)).order (single.read 0) == some .gt) = true
  rw [hr, h00]
  have hm0 : 0 < m := by omega
  have h1 : 0 < m * 2 ^ (p - min p (-149)).toNat := Nat.mul_pos hm0 (Nat.two_pow_pos _)
  simp only [Datum.order, signed, Nat.shiftLeft_eq, Nat.zero_mul, Bool.false_eq_true, if_false, beq_iff_eq, Option.some.injEq, Int.compare_eq_gt]
  omega

/-- a sum of one that is greater than 0 and one of at least 0 -/
theorem sum_gtz (t b r : Nat) (ht : fin t = true) (ht0 : gtz t = true) (hb : fin b = true) (hb0 : ltz b = false) (h : single.add t b = some r) (hr : fin r = true) : gtz r = true := by
  obtain ⟨m, p, h1, hm, _, hp, _⟩ := gtz_read t ht ht0
  obtain ⟨s, n, q, h2, _, hq, _, _⟩ := fin_read2 b hb
  have hs := ltz_read b s n q h2 hb0
  unfold Format.add at h
  rw [h1, h2] at h
  simp only [Datum.sum, Option.map_some, Format.write, Option.some.injEq] at h
  have hA : 0 < m * 2 ^ (p - min p q).toNat := Nat.mul_pos hm (Nat.two_pow_pos _)
  have hT : signed false m (p - min p q).toNat + signed s n (q - min p q).toNat = ((m * 2 ^ (p - min p q).toNat + n * 2 ^ (q - min p q).toNat : Nat) : Int) := by
    simp only [signed, Nat.shiftLeft_eq, Bool.false_eq_true, if_false]
    cases s
    · simp
    · have := hs rfl
      subst this
      simp
  rw [hT] at h
  generalize hTT : m * 2 ^ (p - min p q).toNat + n * 2 ^ (q - min p q).toNat = T at *
  have hT0 : 0 < T := by omega
  rw [if_neg (by omega), decide_eq_false (by omega), show ((T : Int)).natAbs = T from rfl] at h
  obtain ⟨u, hu, hu1, _, hu3⟩ := near_any false T (min p q)
  rw [hu] at h
  subst h
  rw [fin_word] at hr
  have hr' : u % 2147483648 < 2139095040 := by simpa using hr
  exact gtz_word u (by omega) (hu3 hT0 (by omega))

/-- a zero's sign turns nothing beside a number that is none -/
theorem add_zeq (t b c : Nat) (ht : fin t = true) (ht0 : eqz t = false) (h : zeq b c) : single.add t b = single.add t c ∧ single.sub t b = single.sub t c := by
  rcases h with rfl | ⟨hb, hc⟩
  · exact ⟨rfl, rfl⟩
  · obtain ⟨s, m, p, hr, _⟩ := fin_read t ht
    obtain ⟨u, h1⟩ := eqz_read b hb
    obtain ⟨v, h2⟩ := eqz_read c hc
    have hm : 0 < m := by
      rcases Nat.eq_zero_or_pos m with e | e
      · subst e; rw [zero_eqz t s p hr] at ht0; cases ht0
      · exact e
    have hA : 0 < m * 2 ^ (p - min p (-149)).toNat := Nat.mul_pos hm (Nat.two_pow_pos _)
    have key : ∀ x y : Bool, (Datum.number s m p).sum (.number x 0 (-149)) = (Datum.number s m p).sum (.number y 0 (-149)) := by
      intro x y
      have e0 : ∀ (z : Bool) (k : Nat), signed z 0 k = 0 := by
        intro z k
        cases z <;> simp [signed]
      have hne : ¬ signed s m (p - min p (-149)).toNat + 0 = 0 := by
        simp only [signed, Nat.shiftLeft_eq]
        generalize m * 2 ^ (p - min p (-149)).toNat = a at *
        cases s
        · simp; omega
        · simp; omega
      simp only [Datum.sum, e0]
      rw [if_neg hne, if_neg hne]
    unfold Format.add Format.sub
    rw [hr, h1, h2]
    exact ⟨by rw [key u v], by simp only [Datum.opposite]; rw [key (!u) (!v)]⟩

theorem conv_notnan (x : Nat) (h : NotNan x) : ∃ c, floatToFloatBits .f32 x .f64 = some c ∧ own c = true := by
  cases hf : fin x
  · rcases h with ⟨s, m, p, hr⟩ | ⟨s, hr⟩
    · rcases inf_read x hf with ⟨t, ht⟩ | ⟨t, u, ht⟩ <;> rw [ht] at hr <;> cases hr
    · refine ⟨double.write (.infinity s), ?_, by cases s <;> decide⟩
      unfold floatToFloatBits
      rw [if_neg (by decide)]
      have hd : FloatKind.f32.decode x = .infinity s := hr
      rw [hd]
      rfl
  · exact ⟨conv x, float_conv x hf, own_conv x hf⟩
end Go.Proofs.YtjmfffgddmnkmabDoor
