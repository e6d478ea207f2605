/- Lists of ones and minus ones: their correlations are finite; numbers that are equal one after the other. Condition: numbers. -/
import Derived.Test.YtclflnpbiiimiaaKm
import Derived.Test.YtclflnpbiiimiaaRz
import Derived.Test.YtclflnpbiiimiaaM10
namespace Go.Proofs.Ytclflnpbiiimiaa
open Go Go.RowKit Ieee

def md (x : Nat) : Nat := x % 4294967296
theorem md_lt (x : Nat) : md x < 4294967296 := Nat.mod_lt _ (by omega)
theorem read_md (x : Nat) : single.read (md x) = single.read x := by
  have h1 : md x % 2147483648 = x % 2147483648 := by unfold md; omega
  have h2 : md x / 2147483648 % 2 = x / 2147483648 % 2 := by unfold md; omega
  rw [read32, read32, h1, h2]
theorem fin_md (x : Nat) : fin (md x) = fin x := by
  have h1 : md x % 2147483648 = x % 2147483648 := by unfold md; omega
  unfold fin
  rw [h1]
theorem ord_md (x y : Nat) : ordF (md x) (md y) = ordF x y := by rw [ordF_read, ordF_read, read_md, read_md]
theorem ord_self (x : Nat) (hx : fin x = true) : ordF x x = some .eq := by
  have h := same_notnan x (notnan_fin x hx)
  have : (ordF x x != some .eq) = false := h
  simpa using this
theorem eqq_to (x y : Nat) (hx : fin x = true) (hy : fin y = true) (h : (FloatKind.f32.format.order x y == some .eq) = true) : zeq (md x) (md y) := by
  have h0 : FloatKind.f32.format.order x y = some .eq := by simpa using h
  have h' : ordF x y = some .eq := h0
  rw [← ord_md] at h'
  exact ord_eq _ _ (by rw [fin_md]; exact hx) (by rw [fin_md]; exact hy) (md_lt x) (md_lt y) h'
theorem eqq_of (x y : Nat) (hx : fin x = true) (h : zeq (md x) (md y)) : (FloatKind.f32.format.order x y == some .eq) = true := by
  have h1 : ordF (md x) (md y) = some .eq := by
    rw [← ord_zeq (md x) _ _ h]
    exact ord_self _ (by rw [fin_md]; exact hx)
  rw [ord_md] at h1
  show (ordF x y == some .eq) = true
  rw [h1]
  rfl
theorem zeq_symm {a b : Nat} (h : zeq a b) : zeq b a := by
  rcases h with h | ⟨h1, h2⟩
  · exact .inl h.symm
  · exact .inr ⟨h2, h1⟩
theorem zeq_trans {a b c : Nat} (h : zeq a b) (k : zeq b c) : zeq a c := by
  rcases h with rfl | ⟨h1, h2⟩
  · exact k
  · rcases k with rfl | ⟨_, k2⟩
    · exact .inr ⟨h1, h2⟩
    · exact .inr ⟨h1, k2⟩

theorem same_rel (R : List Nat) (m : Nat) (hm : 2 ≤ m) (hf : ∀ q, q < m + 1 → fin (R.getD q 0) = true) : sameC R m = sameTo R (m + 1) := by
  rw [Bool.eq_iff_iff]
  unfold sameC sameTo eqR
  simp only [List.all_eq_true, List.mem_range, Bool.or_eq_true, decide_eq_true_eq]
  constructor
  · intro h k hk
    by_cases h2 : k < 2
    · exact .inl h2
    · right
      refine eqq_of _ _ (hf k hk) ?_
      have : ∀ d, d + 1 < m + 1 → zeq (md (R.getD (d + 1) 0)) (md (R.getD 1 0)) := by
        intro d
        induction d with
        | zero => intro _; exact .inl rfl
        | succ d ih =>
          intro hd
          have h3 := h (d + 1) (by omega)
          rcases h3 with h3 | h3
          · omega
          · exact zeq_trans (eqq_to _ _ (hf _ (by omega)) (hf _ (by omega)) h3) (ih (by omega))
      have h4 := this (k - 1) (by omega)
      rwa [show k - 1 + 1 = k by omega] at h4
  · intro h q hq
    by_cases h2 : q < 1
    · exact .inl h2
    · right
      refine eqq_of _ _ (hf _ (by omega)) ?_
      have key : ∀ k, 1 ≤ k → k < m + 1 → zeq (md (R.getD k 0)) (md (R.getD 1 0)) := fun k h1 hk => by
        rcases h k hk with h3 | h3
        · obtain rfl : k = 1 := by omega
          exact .inl rfl
        · exact eqq_to _ _ (hf _ hk) (hf _ (by omega)) h3
      exact zeq_trans (key (q + 1) (by omega) (by omega)) (zeq_symm (key q (by omega) (by omega)))

theorem pm_read (x : Nat) (hx : fin x = true) (h : pmOne x = true) : single.read x = single.read plusOne ∨ single.read x = single.read minusOne := by
  unfold pmOne at h
  rw [Bool.or_eq_true] at h
  rcases h with h | h
  · rcases eqq_to x plusOne hx (by decide) h with e | ⟨_, e⟩
    · left; rw [← read_md x, e, read_md]
    · exact absurd e (by decide)
  · rcases eqq_to x minusOne hx (by decide) h with e | ⟨_, e⟩
    · right; rw [← read_md x, e, read_md]
    · exact absurd e (by decide)
theorem mulF_read {x y a b : Nat} (h1 : single.read x = single.read a) (h2 : single.read y = single.read b) : mulF x y = mulF a b := by
  unfold mulF Format.mul
  rw [h1, h2]
theorem pm_mul (x y : Nat) (hx : fin x = true) (hy : fin y = true) (px : pmOne x = true) (py : pmOne y = true) : mulF x y = plusOne ∨ mulF x y = minusOne := by
  rcases pm_read x hx px with h1 | h1 <;> rcases pm_read y hy py with h2 | h2 <;> rw [mulF_read h1 h2]
  · left; decide +kernel
  · right; decide +kernel
  · right; decide +kernel
  · left; decide +kernel

/-- the whole numbers from -64 to 64 -/
def fli (i : Nat) : Nat := floatOfInt .f32 ((i : Int) - 64)
theorem fli_step : ∀ i : Fin 129, fin (fli i.val) = true ∧ (i.val < 128 → addF (fli i.val) plusOne = fli (i.val + 1)) ∧ (0 < i.val → addF (fli i.val) minusOne = fli (i.val - 1)) := by decide +kernel
theorem acc_pm {f : Nat → Nat} (h : ∀ j, f j = plusOne ∨ f j = minusOne) : ∀ n, n ≤ 64 → ∃ s, s ≤ 64 + n ∧ 64 ≤ s + n ∧ accTo f n = some (fli s)
  | 0, _ => ⟨64, by omega, by omega, rfl⟩
  | n + 1, hn => by
    obtain ⟨s, h1, h2, h3⟩ := acc_pm h n (by omega)
    obtain ⟨f1, f2, f3⟩ := fli_step ⟨s, by omega⟩
    rcases h n with e | e
    · have e1 := f2 (show s < 128 by omega)
      have g := (fli_step ⟨s + 1, by omega⟩).1
      refine ⟨s + 1, by omega, by omega, ?_⟩
      rw [acc_step h3 (by rw [e]; exact e1 ▸ g), e]
      exact congrArg some e1
    · have e1 := f3 (show 0 < s by omega)
      have g := (fli_step ⟨s - 1, by omega⟩).1
      refine ⟨s - 1, by omega, by omega, ?_⟩
      rw [acc_step h3 (by rw [e]; exact e1 ▸ g), e]
      exact congrArg some e1
theorem acc_congrp {f g : Nat → Nat} : ∀ n, (∀ j, j < n → f j = g j) → accTo f n = accTo g n
  | 0, _ => rfl
  | n + 1, h => by rw [accTo, accTo, acc_congrp n (fun j hj => h j (by omega)), h n (by omega)]
theorem rows_each {F : Nat → Option Nat} : ∀ n, (∀ k, k < n → ∃ s, F k = some s) → ∃ R, rowsTo F n = some R
  | 0, _ => ⟨[], rfl⟩
  | n + 1, h => by
    obtain ⟨R, hR⟩ := rows_each n (fun k hk => h k (by omega))
    obtain ⟨s, hs⟩ := h n (by omega)
    exact ⟨_, rows_step hR hs⟩
theorem cor_pm (A : List Nat) (hf : A.all fin = true) (hp : A.all pmOne = true) (h0 : 1 ≤ A.length) (h1 : A.length ≤ 64) : ∃ R, cor A A = some R := by
  unfold cor
  refine rows_each _ (fun k _ => ?_)
  have key : ∀ i, i < A.length → fin (A.getD i 0) = true ∧ pmOne (A.getD i 0) = true := fun i hi => ⟨all_at hf i hi, all_at hp i hi⟩
  have : accTo (corF A A k) A.length = accTo (fun j => if j < A.length then corF A A k j else plusOne) A.length := acc_congrp A.length (fun j hj => by simp [hj])
  rw [this]
  obtain ⟨s, _, _, h⟩ := acc_pm (f := fun j => if j < A.length then corF A A k j else plusOne) (fun j => by
    by_cases hj : j < A.length
    · rw [if_pos hj]
      have hm : (j + k) % A.length < A.length := Nat.mod_lt _ (by omega)
      exact pm_mul _ _ (key j hj).1 (key _ hm).1 (key j hj).2 (key _ hm).2
    · rw [if_neg hj]; exact .inl rfl) A.length h1
  exact ⟨_, h⟩

theorem row_fin {f : Nat → Nat → Nat} {m : Nat} : ∀ {n : Nat} {R : List Nat}, rowsTo (fun k => accTo (f k) m) n = some R → ∀ q, q < R.length → fin (R.getD q 0) = true
  | 0, R, h, q, hq => by rw [rowsTo] at h; cases h; simp at hq
  | n + 1, R, h, q, hq => by
    rw [rowsTo] at h
    cases h1 : rowsTo (fun k => accTo (f k) m) n with
    | none => rw [h1, Option.bind_none] at h; cases h
    | some R1 =>
      rw [h1, Option.bind_some] at h
      cases h2 : accTo (f n) m with
      | none => rw [h2, Option.bind_none] at h; cases h
      | some s =>
        rw [h2, Option.bind_some] at h
        cases h
        rw [List.length_append] at hq
        rw [List.getD_eq_getElem?_getD, List.getElem?_append]
        split
        · rename_i h3
          rw [← List.getD_eq_getElem?_getD]
          exact row_fin h1 q h3
        · have : q - R1.length = 0 := by simp at hq; omega
          rw [this]
          exact acc_fin h2

end Go.Proofs.Ytclflnpbiiimiaa
