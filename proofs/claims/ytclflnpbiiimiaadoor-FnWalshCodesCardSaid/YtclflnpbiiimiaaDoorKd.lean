/- Sums by codes: the rounds, number for number, and what becomes of one that is not finite. Condition: none. -/
import Derived.Test.YtclflnpbiiimiaaDoorM13
import Derived.Test.YtclflnpbiiimiaaDoorM1
namespace Go.Proofs.YtclflnpbiiimiaaDoor
open Go Go.RowKit Ieee

theorem nan_fin (t : Nat) : fin (nan32 t) = false := by
  unfold fin
  have := nan32_mod t
  simp; omega
theorem inf_fin (s : Bool) : fin (single.write (.infinity s)) = false := by cases s <;> decide
theorem opp_read (d : Datum) : (∃ s, d = .infinity s) ∨ (∃ s t, d = .nan s t) → (∃ s, d.opposite = .infinity s) ∨ (∃ s t, d.opposite = .nan s t) := by
  rintro (⟨s, rfl⟩ | ⟨s, t, rfl⟩)
  · exact .inl ⟨_, rfl⟩
  · exact .inr ⟨_, _, rfl⟩
/-- a sum with one that is not finite -/
theorem sum_bad (a b : Datum) (h : ((∃ s, a = .infinity s) ∨ ∃ s t, a = .nan s t) ∨ ((∃ s, b = .infinity s) ∨ ∃ s t, b = .nan s t)) : (∃ s, a.sum b = some (.infinity s)) ∨ a.sum b = none := by
  rcases h with (⟨s, rfl⟩ | ⟨s, t, rfl⟩) | (⟨s, rfl⟩ | ⟨s, t, rfl⟩)
  · cases b with
    | number u m p => exact .inl ⟨_, rfl⟩
    | infinity u =>
      cases s <;> cases u
      · exact .inl ⟨_, rfl⟩
      · exact .inr rfl
      · exact .inr rfl
      · exact .inl ⟨_, rfl⟩
    | nan u v => exact .inr rfl
  · cases b <;> exact .inr rfl
  · cases a with
    | number u m p => exact .inl ⟨_, rfl⟩
    | infinity u =>
      cases s <;> cases u
      · exact .inl ⟨_, rfl⟩
      · exact .inr rfl
      · exact .inr rfl
      · exact .inl ⟨_, rfl⟩
    | nan u v => exact .inr rfl
  · cases a <;> exact .inr rfl
theorem add_bad (x y : Nat) (h : fin x = false ∨ fin y = false) : (∃ r, single.add x y = some r ∧ fin r = false) ∨ single.add x y = none := by
  unfold Format.add
  rcases sum_bad (single.read x) (single.read y) (h.imp (inf_read x) (inf_read y)) with ⟨s, e⟩ | e
  · rw [e]; exact .inl ⟨_, rfl, inf_fin s⟩
  · rw [e]; exact .inr rfl
theorem sub_bad (x y : Nat) (h : fin x = false ∨ fin y = false) : (∃ r, single.sub x y = some r ∧ fin r = false) ∨ single.sub x y = none := by
  unfold Format.sub
  rcases sum_bad (single.read x) (single.read y).opposite (h.imp (inf_read x) (fun h => opp_read _ (inf_read y h))) with ⟨s, e⟩ | e
  · rw [e]; exact .inl ⟨_, rfl, inf_fin s⟩
  · rw [e]; exact .inr rfl

theorem run_add_none (x y : Nat) (h : single.add x y = none) (w : World) : (binOp .add 38 (.float .f32 x) (.float .f32 y)).run Tryd.prog w = .ok (.float .f32 (nan32 (w.tape w.drawn (.nanBits .f32 x y)))) w.drew := by
  have h' : FloatKind.f32.format.add x y = none := h
  have e : (binOp .add 38 (.float .f32 x) (.float .f32 y)).run Tryd.prog w = ((choose (.nanBits .f32 x y)).run Tryd.prog w).andThen fun y w' => .ok (.float .f32 y) w' := by
    simp [binOp, Op.floatArith, h']
  rw [e, run_choose_drew]
  rfl
theorem run_sub_none (x y : Nat) (h : single.sub x y = none) (w : World) : (binOp .sub 38 (.float .f32 x) (.float .f32 y)).run Tryd.prog w = .ok (.float .f32 (nan32 (w.tape w.drawn (.nanBits .f32 x y)))) w.drew := by
  have h' : FloatKind.f32.format.sub x y = none := h
  have e : (binOp .sub 38 (.float .f32 x) (.float .f32 y)).run Tryd.prog w = ((choose (.nanBits .f32 x y)).run Tryd.prog w).andThen fun y w' => .ok (.float .f32 y) w' := by
    simp [binOp, Op.floatArith, h']
  rw [e, run_choose_drew]
  rfl

def addF (x y : Nat) : Nat := (single.add x y).getD 0
def subF (x y : Nat) : Nat := (single.sub x y).getD 0
theorem addF_fin (x y : Nat) (hx : fin x = true) (hy : fin y = true) : single.add x y = some (addF x y) := by
  obtain ⟨r, h, _⟩ := add_num x y hx hy
  unfold addF
  rw [h]
  rfl
theorem subF_fin (x y : Nat) (hx : fin x = true) (hy : fin y = true) : single.sub x y = some (subF x y) := by
  obtain ⟨r, h, _⟩ := sub_num x y hx hy
  unfold subF
  rw [h]
  rfl
/-- a sum, whatever the numbers are: where both are finite the sum, else one that is not finite, drawn or not -/
theorem add_run (x y : Nat) : (fin x = true ∧ fin y = true ∧ ∀ w, (binOp .add 38 (.float .f32 x) (.float .f32 y)).run Tryd.prog w = .ok (.float .f32 (addF x y)) w) ∨
    ((fin x = false ∨ fin y = false) ∧ ((∃ r, fin r = false ∧ ∀ w, (binOp .add 38 (.float .f32 x) (.float .f32 y)).run Tryd.prog w = .ok (.float .f32 r) w) ∨
      ∀ w, (binOp .add 38 (.float .f32 x) (.float .f32 y)).run Tryd.prog w = .ok (.float .f32 (nan32 (w.tape w.drawn (.nanBits .f32 x y)))) w.drew)) := by
  cases hx : fin x
  · rcases add_bad x y (.inl hx) with ⟨r, h, hr⟩ | h
    · exact .inr ⟨.inl rfl, .inl ⟨r, hr, fun w => run_float_arith (P := Tryd.prog) w .add 38 .f32 x y r h⟩⟩
    · exact .inr ⟨.inl rfl, .inr (run_add_none x y h)⟩
  · cases hy : fin y
    · rcases add_bad x y (.inr hy) with ⟨r, h, hr⟩ | h
      · exact .inr ⟨.inr rfl, .inl ⟨r, hr, fun w => run_float_arith (P := Tryd.prog) w .add 38 .f32 x y r h⟩⟩
      · exact .inr ⟨.inr rfl, .inr (run_add_none x y h)⟩
    · exact .inl ⟨rfl, rfl, fun w => run_float_arith (P := Tryd.prog) w .add 38 .f32 x y _ (addF_fin x y hx hy)⟩
theorem sub_run (x y : Nat) : (fin x = true ∧ fin y = true ∧ ∀ w, (binOp .sub 38 (.float .f32 x) (.float .f32 y)).run Tryd.prog w = .ok (.float .f32 (subF x y)) w) ∨
    ((fin x = false ∨ fin y = false) ∧ ((∃ r, fin r = false ∧ ∀ w, (binOp .sub 38 (.float .f32 x) (.float .f32 y)).run Tryd.prog w = .ok (.float .f32 r) w) ∨
      ∀ w, (binOp .sub 38 (.float .f32 x) (.float .f32 y)).run Tryd.prog w = .ok (.float .f32 (nan32 (w.tape w.drawn (.nanBits .f32 x y)))) w.drew)) := by
  cases hx : fin x
  · rcases sub_bad x y (.inl hx) with ⟨r, h, hr⟩ | h
    · exact .inr ⟨.inl rfl, .inl ⟨r, hr, fun w => run_float_arith (P := Tryd.prog) w .sub 38 .f32 x y r h⟩⟩
    · exact .inr ⟨.inl rfl, .inr (run_sub_none x y h)⟩
  · cases hy : fin y
    · rcases sub_bad x y (.inr hy) with ⟨r, h, hr⟩ | h
      · exact .inr ⟨.inr rfl, .inl ⟨r, hr, fun w => run_float_arith (P := Tryd.prog) w .sub 38 .f32 x y r h⟩⟩
      · exact .inr ⟨.inr rfl, .inr (run_sub_none x y h)⟩
    · exact .inl ⟨rfl, rfl, fun w => run_float_arith (P := Tryd.prog) w .sub 38 .f32 x y _ (subF_fin x y hx hy)⟩

/-- what stands at q behind a round of the distance h -/
def rndAt (L : List Nat) (h q : Nat) : Nat := if q / h % 2 = 0 then addF (L.getD q 0) (L.getD (q + h) 0) else subF (L.getD (q - h) 0) (L.getD q 0)
def rnd (L : List Nat) (h : Nat) : List Nat := (List.range L.length).map (rndAt L h)
/-- is q done where the places up to i are gone through -/
def done (h i q : Nat) : Bool := if q / h % 2 = 0 then decide (q < i) else decide (q < i + h)
def mix (L : List Nat) (h i : Nat) : List Nat := (List.range L.length).map (fun q => if done h i q = true then rndAt L h q else L.getD q 0)
theorem rnd_len (L : List Nat) (h : Nat) : (rnd L h).length = L.length := by simp [rnd]
theorem mix_len (L : List Nat) (h i : Nat) : (mix L h i).length = L.length := by simp [mix]
theorem mix_get (L : List Nat) (h i q : Nat) (hq : q < L.length) : (mix L h i)[q]? = some (if done h i q = true then rndAt L h q else L.getD q 0) := by
  simp [mix, hq]
theorem div_add (q h : Nat) (hh : 0 < h) : (q + h) / h = q / h + 1 := Nat.add_div_right q hh
theorem odd_ge (h q : Nat) (hq : q / h % 2 ≠ 0) : h ≤ q := by
  rcases Nat.lt_or_ge q h with hl | hl
  · rw [Nat.div_eq_of_lt hl] at hq; omega
  · exact hl
theorem mix_zero (L : List Nat) (h : Nat) : mix L h 0 = L := by
  apply List.ext_getElem?
  intro q
  by_cases hq : q < L.length
  · rw [mix_get L h 0 q hq, if_neg, List.getD_eq_getElem?_getD, List.getElem?_eq_getElem hq]
    · rfl
    · unfold done
      by_cases ho : q / h % 2 = 0
      · rw [if_pos ho]; simp
      · rw [if_neg ho]
        have := odd_ge h q ho
        simp; omega
  · rw [List.getElem?_eq_none (by rw [mix_len]; omega), List.getElem?_eq_none (by omega)]
theorem mix_all (L : List Nat) (h : Nat) : mix L h L.length = rnd L h := by
  apply List.ext_getElem?
  intro q
  by_cases hq : q < L.length
  · rw [mix_get L h _ q hq, if_pos]
    · simp [rnd, hq]
    · unfold done
      by_cases ho : q / h % 2 = 0
      · rw [if_pos ho]; simp [hq]
      · rw [if_neg ho]; simp; omega
  · rw [List.getElem?_eq_none (by rw [mix_len]; omega), List.getElem?_eq_none (by rw [rnd_len]; omega)]
theorem mix_skip (L : List Nat) (h i : Nat) (hh : 0 < h) (hi : i / h % 2 ≠ 0) : mix L h (i + 1) = mix L h i := by
  apply List.ext_getElem?
  intro q
  by_cases hq : q < L.length
  · rw [mix_get L h _ q hq, mix_get L h _ q hq]
    have : done h (i + 1) q = done h i q := by
      unfold done
      by_cases ho : q / h % 2 = 0
      · rw [if_pos ho, if_pos ho]
        have : q ≠ i := fun e => hi (by rw [← e]; exact ho)
        by_cases hl : q < i
        · simp; omega
        · simp; omega
      · rw [if_neg ho, if_neg ho]
        have : q ≠ i + h := fun e => by
          rw [e, div_add i h hh] at ho
          omega
        by_cases hl : q < i + h
        · simp; omega
        · simp; omega
    rw [this]
  · rw [List.getElem?_eq_none (by rw [mix_len]; omega), List.getElem?_eq_none (by rw [mix_len]; omega)]
theorem mix_step (L : List Nat) (h i : Nat) (hh : 0 < h) (hi : i / h % 2 = 0) (hih : i + h < L.length) :
    ((mix L h i).set i (addF (L.getD i 0) (L.getD (i + h) 0))).set (i + h) (subF (L.getD i 0) (L.getD (i + h) 0)) = mix L h (i + 1) := by
  apply List.ext_getElem?
  intro q
  rw [List.getElem?_set, List.length_set, mix_len, List.getElem?_set, mix_len]
  have hodd : (i + h) / h % 2 ≠ 0 := by rw [div_add i h hh]; omega
  by_cases hq : q < L.length
  · rw [mix_get L h _ q hq, mix_get L h _ q hq]
    by_cases e1 : i + h = q
    · subst e1
      rw [if_pos rfl, if_pos hih]
      unfold done rndAt
      rw [if_neg hodd, if_neg hodd, if_pos (by simp), Nat.add_sub_cancel]
    · rw [if_neg e1]
      by_cases e2 : i = q
      · subst e2
        rw [if_pos rfl, if_pos (by omega)]
        unfold done rndAt
        rw [if_pos hi, if_pos hi, if_pos (by simp)]
      · rw [if_neg e2]
        have : done h (i + 1) q = done h i q := by
          unfold done
          by_cases ho : q / h % 2 = 0
          · rw [if_pos ho, if_pos ho]
            by_cases hl : q < i
            · simp; omega
            · simp; omega
          · rw [if_neg ho, if_neg ho]
            by_cases hl : q < i + h
            · simp; omega
            · simp; omega
        rw [this]
  · rw [if_neg (by omega), if_neg (by omega), List.getElem?_eq_none (by rw [mix_len]; omega), List.getElem?_eq_none (by rw [mix_len]; omega)]
theorem mix_old (L : List Nat) (h i : Nat) (hh : 0 < h) (hi : i / h % 2 = 0) (hih : i + h < L.length) : (mix L h i).getD i 0 = L.getD i 0 ∧ (mix L h i).getD (i + h) 0 = L.getD (i + h) 0 := by
  have hodd : (i + h) / h % 2 ≠ 0 := by rw [div_add i h hh]; omega
  constructor
  · rw [List.getD_eq_getElem?_getD, mix_get L h i i (by omega), if_neg]
    · rfl
    · unfold done; rw [if_pos hi]; simp
  · rw [List.getD_eq_getElem?_getD, mix_get L h i (i + h) hih, if_neg]
    · rfl
    · unfold done; rw [if_neg hodd]; simp

/-- the rounds up to the distance 2 ^ t -/
def rnds (L : List Nat) : Nat → List Nat
  | 0 => L
  | t + 1 => rnd (rnds L t) (2 ^ t)
theorem rnds_len (L : List Nat) : ∀ t, (rnds L t).length = L.length
  | 0 => rfl
  | t + 1 => by rw [rnds, rnd_len, rnds_len L t]
/-- all rounds up to t finite -/
def okRnd (L : List Nat) (t : Nat) : Bool := (List.range (t + 1)).all (fun s => (rnds L s).all fin)
theorem okRnd_succ (L : List Nat) (t : Nat) : okRnd L (t + 1) = (okRnd L t && (rnds L (t + 1)).all fin) := by
  unfold okRnd
  rw [List.range_succ, List.all_append]
  simp
theorem okRnd_zero (L : List Nat) : okRnd L 0 = L.all fin := by simp [okRnd, rnds]
theorem okRnd_last {L : List Nat} {t : Nat} (h : okRnd L t = true) : (rnds L t).all fin = true := by
  unfold okRnd at h
  rw [List.all_eq_true] at h
  exact h t (by simp)

/-- how many rounds a list of n numbers wants -/
def lg (n : Nat) : Nat := if n = 1 then 0 else if n = 2 then 1 else if n = 4 then 2 else if n = 8 then 3 else if n = 16 then 4 else if n = 32 then 5 else 6
theorem lg_pow {n : Nat} (h : lenI n = true) : n = 2 ^ lg n ∧ lg n ≤ 6 := by
  rcases lenI_yes h with e | e | e | e | e | e | e
  · obtain rfl : n = 1 := by omega
    decide
  · obtain rfl : n = 2 := by omega
    decide
  · obtain rfl : n = 4 := by omega
    decide
  · obtain rfl : n = 8 := by omega
    decide
  · obtain rfl : n = 16 := by omega
    decide
  · obtain rfl : n = 32 := by omega
    decide
  · obtain rfl : n = 64 := by omega
    decide
/-- a place whose digit is 0 has its partner in the list -/
theorem pair_in (m t i : Nat) (ht : t < m) (hi : i < 2 ^ m) (h0 : i / 2 ^ t % 2 = 0) : i + 2 ^ t < 2 ^ m := by
  have hp : 0 < 2 ^ t := Nat.pow_pos (by omega)
  have e : 2 ^ m = 2 ^ t * (2 * 2 ^ (m - t - 1)) := by
    rw [show 2 * 2 ^ (m - t - 1) = 2 ^ (m - t) by rw [← Nat.pow_succ', show (m - t - 1).succ = m - t by omega], ← Nat.pow_add, show t + (m - t) = m by omega]
  generalize 2 ^ (m - t - 1) = k at *
  have h1 : i / 2 ^ t < 2 * k := by
    rw [Nat.div_lt_iff_lt_mul hp, Nat.mul_comm, ← e]
    exact hi
  have h2 : i / 2 ^ t + 1 < 2 * k := by omega
  have h3 := Nat.div_add_mod i (2 ^ t)
  have h4 := Nat.mod_lt i hp
  have h5 : 2 ^ t * (i / 2 ^ t + 2) ≤ 2 ^ t * (2 * k) := Nat.mul_le_mul_left _ (by omega)
  rw [Nat.mul_add] at h5
  omega

/-- a list with one that is not finite -/
theorem bad_set {M : List Nat} {i j a b : Nat} (hij : i ≠ j) (hi : i < M.length) (hj : j < M.length) (h : M.all fin = false) (hab : (fin (M.getD i 0) = true ∧ fin (M.getD j 0) = true) ∨ fin a = false) :
    ((M.set i a).set j b).all fin = false := by
  rcases hab with ⟨h1, h2⟩ | ha
  · rw [List.all_eq_false] at h ⊢
    obtain ⟨x, hx, hf⟩ := h
    obtain ⟨q, hq, rfl⟩ := List.getElem_of_mem hx
    have hqi : q ≠ i := fun e => by
      subst e
      rw [List.getD_eq_getElem?_getD, List.getElem?_eq_getElem hq] at h1
      exact hf h1
    have hqj : q ≠ j := fun e => by
      subst e
      rw [List.getD_eq_getElem?_getD, List.getElem?_eq_getElem hq] at h2
      exact hf h2
    refine ⟨M[q], ?_, hf⟩
    have : ((M.set i a).set j b)[q]? = some M[q] := by
      rw [List.getElem?_set, if_neg (Ne.symm hqj), List.getElem?_set, if_neg (Ne.symm hqi), List.getElem?_eq_getElem hq]
    exact List.mem_of_getElem? this
  · rw [List.all_eq_false]
    refine ⟨a, ?_, by rw [ha]; simp⟩
    have : ((M.set i a).set j b)[i]? = some a := by
      rw [List.getElem?_set, if_neg (Ne.symm hij), List.getElem?_set, if_pos rfl, if_pos hi]
    exact List.mem_of_getElem? this

end Go.Proofs.YtclflnpbiiimiaaDoor
