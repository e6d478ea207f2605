/- Quotients by small numbers of at least 2: finite where the number is; and the closure of the program's decoded lists. Condition: at most 64 places, numbers that are finite. -/
import Derived.Test.YtajbnoofchcaoaaQn
import Derived.Test.YtajbnoofchcaoaaKl
import Derived.Test.YtajbnoofchcaoaaRh
namespace Go.Proofs.Ytajbnoofchcaoaa
open Go Go.RowKit Ieee

theorem div_small (x y n i : Nat) (hx : fin x = true) (hr : single.read y = .number false n (-(i : Int))) (h1 : 8388608 ≤ n) (h2 : n < 16777216) (hi : i ≤ 22) (hy : 2 * 2 ^ i ≤ n) : ∃ r, single.div x y = some r ∧ fin r = true := by
  obtain ⟨s, m, p, hq, hm, hp1, hp2⟩ := fin_read x hx
  have ln : n.log2 = 23 := by
    have a : n.log2 < 24 := (Nat.log2_lt (by omega)).2 (by omega)
    have b : 23 ≤ n.log2 := by rw [Nat.le_log2 (by omega)]; omega
    omega
  have lm : m.log2 ≤ 23 := by
    rcases Nat.eq_zero_or_pos m with e | e
    · subst e; decide
    · have := (Nat.log2_lt (n := m) (k := 24) (by omega)).2 (by omega)
      omega
  unfold Format.div
  rw [hq, hr]
  have hdig : single.fractionBits + 2 = 25 := rfl
  simp only [Datum.quotient, show ¬ n = 0 by omega, if_false, Option.map_some, Format.write, hdig, Option.some.injEq, exists_eq_left', ln]
  generalize m.log2 = l at *
  obtain ⟨k, hk⟩ : ∃ k, k + i + l = 48 := ⟨48 - l - i, by omega⟩
  rw [show 25 + 23 - l = k + i by omega]
  have hD : 2 * (m <<< (k + i) / n) ≤ m * 2 ^ k := by
    rw [Nat.shiftLeft_eq, Nat.pow_add, ← Nat.mul_assoc]
    have a : m * 2 ^ k * 2 ^ i / n ≤ m * 2 ^ k * 2 ^ i / (2 * 2 ^ i) := Nat.div_le_div_left hy (by have := Nat.two_pow_pos i; omega)
    rw [Nat.mul_div_mul_right _ _ (Nat.two_pow_pos i)] at a
    omega
  have hb : ∀ b : Bool, b.toNat ≤ 1 := fun b => by cases b <;> simp
  have hb' := hb (m <<< (k + i) % n != 0)
  generalize 2 * (m <<< (k + i) / n) = Q at *
  generalize (m <<< (k + i) % n != 0).toNat = c at *
  refine nf_fin _ _ (104 - (p - -(i : Int) - ((k + i : Nat) : Int) - 1)).toNat _ (by omega) ?_
  have h3 : m * 2 ^ k ≤ 16777215 * 2 ^ k := Nat.mul_le_mul_right _ (by omega)
  have h4 : 2 ^ (k + 1) ≤ 2 ^ (104 - (p - -(i : Int) - ((k + i : Nat) : Int) - 1)).toNat := Nat.pow_le_pow_right (by omega) (by omega)
  have h5 : 2 ^ (k + 1) = 2 * 2 ^ k := by rw [Nat.pow_succ]; omega
  have h6 := Nat.two_pow_pos k
  generalize 2 ^ (104 - (p - -(i : Int) - ((k + i : Nat) : Int) - 1)).toNat = E at *
  generalize 2 ^ (k + 1) = E2 at *
  generalize 2 ^ k = E1 at *
  generalize m * E1 = Z at *
  have : 16777215 * E2 ≤ 16777215 * E := Nat.mul_le_mul_left _ h4
  omega

theorem half_read {n : Nat} (h : prI (n : Int) = true) : ∃ m i : Nat, single.read (half n) = .number false m (-(i : Int)) ∧ 8388608 ≤ m ∧ m < 16777216 ∧ i ≤ 22 ∧ 2 * 2 ^ i ≤ m := by
  rcases prI_yes h with e | e | e | e | e | e
  · obtain rfl : n = 3 := by omega
    exact ⟨8388608, 22, by decide +kernel, by decide, by decide, by decide, by decide⟩
  · obtain rfl : n = 7 := by omega
    exact ⟨8388608, 21, by decide +kernel, by decide, by decide, by decide, by decide⟩
  · obtain rfl : n = 11 := by omega
    exact ⟨12582912, 21, by decide +kernel, by decide, by decide, by decide, by decide⟩
  · obtain rfl : n = 19 := by omega
    exact ⟨10485760, 20, by decide +kernel, by decide, by decide, by decide, by decide⟩
  · obtain rfl : n = 23 := by omega
    exact ⟨12582912, 20, by decide +kernel, by decide, by decide, by decide, by decide⟩
  · obtain rfl : n = 31 := by omega
    exact ⟨8388608, 19, by decide +kernel, by decide, by decide, by decide, by decide⟩
theorem half_fin (x n : Nat) (hx : fin x = true) (h : prI (n : Int) = true) : fin (divS x (half n)) = true := by
  obtain ⟨m, i, h1, h2, h3, h4, h5⟩ := half_read h
  obtain ⟨r, e, hf⟩ := div_small x (half n) m i hx h1 h2 h3 h4 h5
  unfold divS
  rw [e]
  exact hf

theorem div_bad (x q : Nat) (hx : fin x = false) (hq : fin q = true) (hq0 : gtz q = true) : (∃ r, single.div x q = some r ∧ fin r = false) ∨ single.div x q = none := by
  obtain ⟨n, j, hqr, hn, _, _, _⟩ := gtz_read q hq hq0
  unfold Format.div
  rw [hqr]
  rcases inf_read x hx with ⟨s, e⟩ | ⟨s, t, e⟩
  · rw [e]; exact .inl ⟨_, rfl, inf_fin _⟩
  · rw [e]; exact .inr rfl
theorem run_div_none (x y : Nat) (h : single.div x y = none) (w : World) : (binOp .quo 43 (.float .f32 x) (.float .f32 y)).run Try.prog w = .ok (.float .f32 (nan32 (w.tape w.drawn (.nanBits .f32 x y)))) w.drew := by
  have h' : FloatKind.f32.format.div x y = none := h
  have e : (binOp .quo 43 (.float .f32 x) (.float .f32 y)).run Try.prog w = ((choose (.nanBits .f32 x y)).run Try.prog w).andThen fun y w' => .ok (.float .f32 y) w' := by
    simp [binOp, Op.floatArith, h']
  rw [e, run_choose_drew]
  rfl
/-- half of a sum, whatever it is, in a world at hand -/
theorem half_at (o : Option Nat) (x n : Nat) (hx : SR o x) (h : prI (n : Int) = true) (u : World) : ∃ r d, (binOp .quo 43 (.float .f32 x) (.float .f32 (half n))).run Try.prog u = .ok (.float .f32 r) (u.drewN d) ∧ SR (o.map (fun s => divS s (half n))) r := by
  rcases hx with ⟨rfl, hf⟩ | ⟨rfl, hf⟩
  · exact ⟨_, 0, run_float_arith (P := Try.prog) u .quo 43 .f32 x _ _ (div_half x n hf h), .inl ⟨rfl, half_fin x n hf h⟩⟩
  · rcases div_bad x (half n) hf (half_any h).1 (half_any h).2 with ⟨r, e, hr⟩ | e
    · exact ⟨_, 0, run_float_arith (P := Try.prog) u .quo 43 .f32 x _ r e, .inr ⟨rfl, hr⟩⟩
    · exact ⟨_, 1, run_div_none x _ e u, .inr ⟨rfl, nan_fin _⟩⟩

end Go.Proofs.Ytajbnoofchcaoaa
