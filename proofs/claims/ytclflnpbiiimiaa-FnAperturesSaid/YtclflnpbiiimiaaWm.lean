/- Shadows of lists of small whole numbers are decoded exactly; correlations with the first number alone are the lists; codes of Legendre are balanced. Condition: small whole numbers. -/
import Derived.Test.YtclflnpbiiimiaaWn
import Derived.Test.YtclflnpbiiimiaaKl
import Derived.Test.YtclflnpbiiimiaaKm
namespace Go.Proofs.Ytclflnpbiiimiaa
open Go Go.RowKit Ieee

theorem rows_of {F : Nat → Option Nat} (P : Nat → Nat → Prop) : ∀ n, (∀ k, k < n → ∃ s, F k = some s ∧ P k s) → ∃ R, rowsTo F n = some R ∧ R.length = n ∧ ∀ k, k < n → P k (R.getD k 0)
  | 0, _ => ⟨[], rfl, rfl, fun k hk => by omega⟩
  | n + 1, h => by
    obtain ⟨R, h1, h2, h3⟩ := rows_of P n (fun k hk => h k (by omega))
    obtain ⟨s, h4, h5⟩ := h n (by omega)
    refine ⟨R ++ [s], rows_step h1 h4, by rw [List.length_append, h2]; rfl, fun k hk => ?_⟩
    rw [List.getD_eq_getElem?_getD]
    by_cases hk2 : k < n
    · rw [List.getElem?_append_left (by omega), ← List.getD_eq_getElem?_getD]
      exact h3 k hk2
    · obtain rfl : k = n := by omega
      rw [List.getElem?_append_right (by omega), h2]
      simpa using h5
theorem all_of {L : List Nat} {P : Nat → Bool} (h : ∀ i, i < L.length → P (L.getD i 0) = true) : L.all P = true := by
  rw [List.all_eq_true]
  intro x hx
  obtain ⟨i, hi, rfl⟩ := List.mem_iff_getElem.1 hx
  have := h i hi
  rwa [List.getD_eq_getElem?_getD, List.getElem?_eq_getElem hi] at this

/-- the squares' remainders, as digits -/
def tbQ (p : Nat) : Nat := if p = 3 then 3 else if p = 7 then 23 else if p = 11 then 571 else if p = 19 then 199411 else if p = 23 then 340831 else 303908791
def tb (p j : Nat) : Bool := (tbQ p).testBit j
def mI (b : Bool) : Int := if b then 1 else 0
def cI (b : Bool) : Int := if b then 1 else -1
def gchk (p : Nat) : Bool := (List.range p).all fun i => (List.range p).all fun k => zsum (fun j => mI (tb p ((j + p - i) % p)) * cI (tb p ((j + p - k) % p))) p == (if i = k then (((p + 1) / 2 : Nat) : Int) else 0)
def lchk (p : Nat) : Bool := (List.range p).all fun j => leg p j == (if tb p j then plusOne else minusOne)
theorem gchk3 : gchk 3 = true := by decide +kernel
theorem gchk7 : gchk 7 = true := by decide +kernel
theorem gchk11 : gchk 11 = true := by decide +kernel
theorem gchk19 : gchk 19 = true := by decide +kernel
theorem gchk23 : gchk 23 = true := by decide +kernel
theorem gchk31 : gchk 31 = true := by decide +kernel
theorem lchk3 : lchk 3 = true := by decide +kernel
theorem lchk7 : lchk 7 = true := by decide +kernel
theorem lchk11 : lchk 11 = true := by decide +kernel
theorem lchk19 : lchk 19 = true := by decide +kernel
theorem lchk23 : lchk 23 = true := by decide +kernel
theorem lchk31 : lchk 31 = true := by decide +kernel
theorem pr_cases {n : Nat} (h : prI (n : Int) = true) : n = 3 ∨ n = 7 ∨ n = 11 ∨ n = 19 ∨ n = 23 ∨ n = 31 := by
  rcases prI_yes h with e | e | e | e | e | e <;> omega
theorem gchk_any {n : Nat} (h : prI (n : Int) = true) : gchk n = true ∧ lchk n = true := by
  rcases pr_cases h with rfl | rfl | rfl | rfl | rfl | rfl
  · exact ⟨gchk3, lchk3⟩
  · exact ⟨gchk7, lchk7⟩
  · exact ⟨gchk11, lchk11⟩
  · exact ⟨gchk19, lchk19⟩
  · exact ⟨gchk23, lchk23⟩
  · exact ⟨gchk31, lchk31⟩
theorem leg_tb {n : Nat} (h : prI (n : Int) = true) (j : Nat) (hj : j < n) : leg n j = if tb n j then plusOne else minusOne := by
  have h1 := (gchk_any h).2
  unfold lchk at h1
  rw [List.all_eq_true] at h1
  simpa using h1 j (List.mem_range.2 hj)
theorem gram {n : Nat} (h : prI (n : Int) = true) (i k : Nat) (hi : i < n) (hk : k < n) : zsum (fun j => mI (tb n ((j + n - i) % n)) * cI (tb n ((j + n - k) % n))) n = if i = k then (((n + 1) / 2 : Nat) : Int) else 0 := by
  have h1 := (gchk_any h).1
  unfold gchk at h1
  rw [List.all_eq_true] at h1
  have h2 := h1 i (List.mem_range.2 hi)
  rw [List.all_eq_true] at h2
  have h3 := h2 k (List.mem_range.2 hk)
  rwa [beq_iff_eq] at h3

theorem wh_zero : Wh 0 0 := by
  have := wh_int 0 (by decide)
  have e : floatOfInt .f32 0 = 0 := by decide +kernel
  rwa [e] at this
theorem wh_one : Wh 1 plusOne := by
  have := wh_int 1 (by decide)
  have e : floatOfInt .f32 1 = plusOne := by decide +kernel
  rwa [e] at this
theorem wh_minus : Wh (-1) minusOne := by
  have := wh_int (-1) (by decide)
  have e : floatOfInt .f32 (-1) = minusOne := by decide +kernel
  rwa [e] at this
theorem wh_leg {n : Nat} (h : prI (n : Int) = true) (j : Nat) (hj : j < n) : Wh (cI (tb n j)) (leg n j) ∧ Wh (mI (tb n j)) (mk (leg n j)) := by
  rw [leg_tb h j hj]
  cases tb n j
  · refine ⟨wh_minus, ?_⟩
    have : mk (if false = true then plusOne else minusOne) = 0 := by decide
    rw [this]
    exact wh_zero
  · refine ⟨wh_one, ?_⟩
    have : mk (if true = true then plusOne else minusOne) = plusOne := by decide
    rw [this]
    exact wh_one
theorem mI_abs (b : Bool) : (mI b).natAbs ≤ 1 := by cases b <;> decide
theorem cI_abs (b : Bool) : (cI b).natAbs ≤ 1 := by cases b <;> decide
theorem abs_mul_le {a b : Int} {m : Nat} (ha : a.natAbs ≤ m) (hb : b.natAbs ≤ 1) : (a * b).natAbs ≤ m := by
  rw [Int.natAbs_mul]
  calc a.natAbs * b.natAbs ≤ m * 1 := Nat.mul_le_mul ha hb
    _ = m := Nat.mul_one m

/-- shadows of small whole numbers are decoded exactly -/
theorem dec_sha (A : List Nat) (Z : Nat → Int) (hp : prI (A.length : Int) = true) (hZ : ∀ i, i < A.length → Wh (Z i) (A.getD i 0) ∧ (Z i).natAbs ≤ 10) :
    ∃ T R, sha A = some T ∧ T.length = A.length ∧ (∀ i, i < T.length → fin (T.getD i 0) = true) ∧ dec T = some R ∧ R.length = A.length ∧ ∀ i, i < A.length → Wh (Z i) (R.getD i 0) := by
  obtain ⟨n, hn⟩ : ∃ n, n = A.length := ⟨_, rfl⟩
  have hS : ∃ T, sha A = some T ∧ T.length = n ∧ ∀ k, k < n → Wh (zsum (fun j => Z j * mI (tb n ((k + n - j) % n))) n) (T.getD k 0) := by
    unfold sha
    rw [← hn] at hp hZ ⊢
    obtain ⟨h3, h31⟩ := pr_len hp
    refine rows_wh (f := shF A) (F := fun k j => Z j * mI (tb n ((k + n - j) % n))) 10 n (by omega) n fun k hk j hj => ?_
    have hq : (k + n - j) % n < n := Nat.mod_lt _ (by omega)
    have hb := abs_mul_le (hZ j hj).2 (mI_abs (tb n ((k + n - j) % n)))
    refine ⟨?_, hb⟩
    unfold shF
    rw [← hn]
    exact (wh_mul (hZ j hj).1 (wh_leg hp _ hq).2 (by omega)).2
  obtain ⟨T, hT, hTl, hTw⟩ := hS
  have hD : ∃ R, dec T = some R ∧ R.length = n ∧ ∀ k, k < n → Wh (Z k) (R.getD k 0) := by
    unfold dec
    rw [hTl]
    rw [← hn] at hp hZ
    obtain ⟨h3, h31⟩ := pr_len hp
    refine rows_of (fun k s => Wh (Z k) s) n fun k hk => ?_
    have hTb : ∀ j, j < n → (zsum (fun i => Z i * mI (tb n ((j + n - i) % n))) n).natAbs ≤ n * 10 := fun j hj => zsum_abs _ 10 n fun i hi => abs_mul_le (hZ i hi).2 (mI_abs _)
    obtain ⟨s, h1, h2⟩ := acc_wh (f := dcF T k) (F := fun j => zsum (fun i => Z i * mI (tb n ((j + n - i) % n))) n * cI (tb n ((j + n - k) % n))) 310 n (fun j hj => by
      have hq : (j + n - k) % n < n := Nat.mod_lt _ (by omega)
      have hb := abs_mul_le (Nat.le_trans (hTb j hj) (show n * 10 ≤ 310 by omega)) (cI_abs (tb n ((j + n - k) % n)))
      unfold dcF
      rw [hTl]
      exact (wh_mul (hTw j hj) (wh_leg hp _ hq).1 (by omega)).2) (fun j hj => abs_mul_le (Nat.le_trans (hTb j hj) (show n * 10 ≤ 310 by omega)) (cI_abs _)) (by omega)
    have hsum : zsum (fun j => zsum (fun i => Z i * mI (tb n ((j + n - i) % n))) n * cI (tb n ((j + n - k) % n))) n = Z k * (((n + 1) / 2 : Nat) : Int) := by
      have e1 : zsum (fun j => zsum (fun i => Z i * mI (tb n ((j + n - i) % n))) n * cI (tb n ((j + n - k) % n))) n = zsum (fun j => zsum (fun i => Z i * (mI (tb n ((j + n - i) % n)) * cI (tb n ((j + n - k) % n)))) n) n := by
        refine zsum_congr n fun j hj => ?_
        rw [Int.mul_comm, ← zsum_mul]
        exact zsum_congr n fun i hi => by rw [Int.mul_comm (cI _), Int.mul_assoc]
      rw [e1, zsum_swap (fun i j => Z i * (mI (tb n ((j + n - i) % n)) * cI (tb n ((j + n - k) % n)))) n n]
      have e2 : zsum (fun i => zsum (fun j => Z i * (mI (tb n ((j + n - i) % n)) * cI (tb n ((j + n - k) % n)))) n) n = zsum (fun i => Z i * (if i = k then (((n + 1) / 2 : Nat) : Int) else 0)) n := by
        refine zsum_congr n fun i hi => ?_
        rw [zsum_mul, gram hp i k hi hk]
      rw [e2, zsum_one _ k n (fun j hj hne => by rw [if_neg hne, Int.mul_zero]), if_pos hk, if_pos rfl]
    rw [hsum] at h2
    have hhalf : Wh ((((n + 1) / 2 : Nat)) : Int) (half n) := wh_int _ (by omega)
    obtain ⟨r, h3, h4⟩ := wh_div h2 hhalf (by omega) (by have := (hZ k hk).2; omega)
    refine ⟨_, by rw [h1]; rfl, ?_⟩
    show Wh (Z k) ((single.div s (half n)).getD 0)
    rw [h3]
    exact h4
  obtain ⟨R, hR, hRl, hRw⟩ := hD
  exact ⟨T, R, hT, by omega, fun i hi => wh_fin (hTw i (by omega)), hR, by omega, fun i hi => hRw i (by omega)⟩

/-- a correlation with the first number alone is the list -/
theorem cor_first (F A : List Nat) (Z : Nat → Int) (h0 : 0 < A.length) (h64 : A.length ≤ 64) (hl : F.length = A.length) (hF : ∀ j, j < A.length → Wh (if j = 0 then 1 else 0) (F.getD j 0))
    (hZ : ∀ i, i < A.length → Wh (Z i) (A.getD i 0) ∧ (Z i).natAbs ≤ 10) : ∃ R, cor F A = some R ∧ R.length = A.length ∧ ∀ i, i < A.length → Wh (Z i) (R.getD i 0) := by
  unfold cor
  rw [hl]
  refine rows_of (fun k s => Wh (Z k) s) A.length fun k hk => ?_
  have hb : ∀ j, ((if j = 0 then (1 : Int) else 0) * Z ((j + k) % A.length)).natAbs ≤ 10 := fun j => by
    have h2 := (hZ ((j + k) % A.length) (Nat.mod_lt _ h0)).2
    split <;> simp <;> omega
  obtain ⟨s, h1, h2⟩ := acc_wh (f := corF F A k) (F := fun j => (if j = 0 then (1 : Int) else 0) * Z ((j + k) % A.length)) 10 A.length (fun j hj => by
    have hq : (j + k) % A.length < A.length := Nat.mod_lt _ h0
    have := hb j
    unfold corF
    exact (wh_mul (hF j hj) (hZ _ hq).1 (by omega)).2) (fun j _ => hb j) (by omega)
  refine ⟨s, h1, ?_⟩
  rw [zsum_one _ 0 A.length (fun j hj hne => by rw [if_neg hne, Int.zero_mul]), if_pos h0, if_pos rfl, Int.one_mul, Nat.zero_add, Nat.mod_eq_of_lt hk] at h2
  exact h2

theorem ib3 : ibAns (legs 3) = true ∧ ibCode (legs 3) = 0 := by decide +kernel
theorem ib7 : ibAns (legs 7) = true ∧ ibCode (legs 7) = 0 := by decide +kernel
theorem ib11 : ibAns (legs 11) = true ∧ ibCode (legs 11) = 0 := by decide +kernel
theorem ib19 : ibAns (legs 19) = true ∧ ibCode (legs 19) = 0 := by decide +kernel
theorem ib23 : ibAns (legs 23) = true ∧ ibCode (legs 23) = 0 := by decide +kernel
theorem ib31 : ibAns (legs 31) = true ∧ ibCode (legs 31) = 0 := by decide +kernel
/-- codes of Legendre are balanced -/
theorem ib_legs {n : Nat} (h : prI (n : Int) = true) : ibAns (legs n) = true ∧ ibCode (legs n) = 0 := by
  rcases pr_cases h with rfl | rfl | rfl | rfl | rfl | rfl
  · exact ib3
  · exact ib7
  · exact ib11
  · exact ib19
  · exact ib23
  · exact ib31

end Go.Proofs.Ytclflnpbiiimiaa
