/- Codes of Walsh and of Legendre, sums by codes, correlations: what they are, number for number. Condition: none. The model's codes of Walsh and of Legendre. Condition: none. -/
import Derived.Test.YtclflnpbiiimiaaM12
import Derived.Test.YtclflnpbiiimiaaM3
namespace Go.Proofs.Ytclflnpbiiimiaa
open Go Go.RowKit Ieee

def plusOne : Nat := 1065353216
def minusOne : Nat := 3212836864
/-- 1, or -1 where the count of digits is odd -/
def sg (b : Bool) : Nat := if b then minusOne else plusOne
theorem sg_neg (b : Bool) : Op.negFloat .f32 (sg b) = sg (!b) := by cases b <;> rfl
theorem sg_fin (b : Bool) : fin (sg b) = true := by cases b <;> decide

/-- is the count of the digits that are 1 odd -/
def par (n : Nat) : Bool := if h : n = 0 then false else xor (n % 2 == 1) (par (n / 2))
termination_by n
decreasing_by omega
theorem par_zero : par 0 = false := by unfold par; rfl
theorem par_pos (n : Nat) (h : 0 < n) : par n = xor (n % 2 == 1) (par (n / 2)) := by
  rw [par, dif_neg (by omega)]
theorem par_odd (n : Nat) (h : n % 2 = 1) : par n = !par (n / 2) := by
  rw [par_pos n (by omega), h]
  cases par (n / 2) <;> rfl
theorem par_even (n : Nat) (h : n % 2 = 0) : par n = par (n / 2) := by
  rcases Nat.eq_zero_or_pos n with rfl | h0
  · rfl
  · rw [par_pos n h0, h]
    cases par (n / 2) <;> rfl

/-- the number j of the code of Walsh k -/
def wal (k j : Nat) : Nat := sg (par (k &&& j))
def walsh (n k : Nat) : List Nat := (List.range n).map (wal k)
theorem walsh_len (n k : Nat) : (walsh n k).length = n := by simp [walsh]
theorem walsh_succ (n k : Nat) : walsh (n + 1) k = walsh n k ++ [wal k n] := by simp [walsh, List.range_succ]
theorem and_fin : ∀ k j : Fin 64, bits .and .i64 (k.val : Int) (j.val : Int) = ((k.val &&& j.val : Nat) : Int) ∧ k.val &&& j.val < 64 := by decide +kernel
theorem and_any (k j : Nat) (hk : k < 64) (hj : j < 64) : bits .and .i64 (k : Int) (j : Int) = ((k &&& j : Nat) : Int) ∧ k &&& j < 64 := and_fin ⟨k, hk⟩ ⟨j, hj⟩

/-- a length of a code of Walsh -/
def lenI (n : Int) : Bool := n == 1 || n == 2 || n == 4 || n == 8 || n == 16 || n == 32 || n == 64
theorem lenI_yes {n : Int} (h : lenI n = true) : n = 1 ∨ n = 2 ∨ n = 4 ∨ n = 8 ∨ n = 16 ∨ n = 32 ∨ n = 64 := by
  unfold lenI at h
  simp only [Bool.or_eq_true, beq_iff_eq] at h
  omega
/-- the powers of two -/
def pw2 (r : Nat) : Int := ((2 ^ r : Nat) : Int)
theorem pw2_fin : ∀ r : Fin 7, pw2 r.val ≤ 64 ∧ IntKind.i64.wrap (2 * pw2 r.val) = pw2 (r.val + 1) ∧ lenI (pw2 r.val) = true := by decide +kernel
theorem lenI_none {n : Int} (h : ∀ s, s < 7 → n ≠ pw2 s) : lenI n = false := by
  cases hl : lenI n
  · rfl
  · rcases lenI_yes hl with e | e | e | e | e | e | e
    · exact absurd e (h 0 (by omega))
    · exact absurd e (h 1 (by omega))
    · exact absurd e (h 2 (by omega))
    · exact absurd e (h 3 (by omega))
    · exact absurd e (h 4 (by omega))
    · exact absurd e (h 5 (by omega))
    · exact absurd e (h 6 (by omega))
def wcOk (n k : Int) : Bool := lenI n && decide (0 ≤ k) && decide (k ≤ n - 1)
def wcList (n k : Int) : List Nat := if wcOk n k = true then walsh n.toNat k.toNat else []
def wcCode (n k : Int) : Int := if wcOk n k = true then 0 else 2

/-- the number j of the code of Legendre of p, with the remainders of the squares up to q alone -/
def legTo (p j q : Nat) : Nat := if (List.range q).any (fun k => k * k % p == j) then plusOne else minusOne
theorem legTo_zero (p j : Nat) : legTo p j 0 = minusOne := rfl
theorem legTo_yes (p j q : Nat) (h : q * q % p = j) : legTo p j (q + 1) = plusOne := by
  unfold legTo
  rw [List.range_succ, List.any_append]
  simp [h]
theorem legTo_no (p j q : Nat) (h : q * q % p ≠ j) : legTo p j (q + 1) = legTo p j q := by
  unfold legTo
  rw [List.range_succ, List.any_append]
  simp [h]
theorem legTo_two (p j q : Nat) : legTo p j q = plusOne ∨ legTo p j q = minusOne := by
  unfold legTo
  split
  · exact .inl rfl
  · exact .inr rfl
def leg (p j : Nat) : Nat := legTo p j p
def legs (p : Nat) : List Nat := (List.range p).map (leg p)
theorem legs_len (p : Nat) : (legs p).length = p := by simp [legs]
theorem legs_get (p j : Nat) (h : j < p) : (legs p).getD j 0 = leg p j := by simp [legs, List.getD_eq_getElem?_getD, h]
def legsTo (p n : Nat) : List Nat := (List.range n).map (leg p)
theorem legsTo_succ (p n : Nat) : legsTo p (n + 1) = legsTo p n ++ [leg p n] := by simp [legsTo, List.range_succ]
theorem legsTo_len (p n : Nat) : (legsTo p n).length = n := by simp [legsTo]
def prI (p : Int) : Bool := p == 3 || p == 7 || p == 11 || p == 19 || p == 23 || p == 31
theorem prI_yes {n : Int} (h : prI n = true) : n = 3 ∨ n = 7 ∨ n = 11 ∨ n = 19 ∨ n = 23 ∨ n = 31 := by
  unfold prI at h
  simp only [Bool.or_eq_true, beq_iff_eq] at h
  omega
def lcList (p : Int) : List Nat := if prI p = true then legs p.toNat else []
def lcCode (p : Int) : Int := if prI p = true then 0 else 2

/-- what is asked of program and model: a list and a code out of a number, or two -/
def List2F (f : FuncId) (n k : Int) (R : List Nat) (c : Int) : Prop :=
  ∀ w, Calls Try.prog f #[.int .i64 n, .int .i64 k] w fun e w' => ∃ r, e = .returned (.tuple #[r, .int .i64 c]) ∧ OwnF w.heap.size r R w' ∧ Below w.heap.size w w'
def List1F (f : FuncId) (n : Int) (R : List Nat) (c : Int) : Prop :=
  ∀ w, Calls Try.prog f #[.int .i64 n] w fun e w' => ∃ r, e = .returned (.tuple #[r, .int .i64 c]) ∧ OwnF w.heap.size r R w' ∧ Below w.heap.size w w'

end Go.Proofs.Ytclflnpbiiimiaa

namespace Go.Proofs.Ytclflnpbiiimiaa
open Go Go.RowKit

theorem l01In_of (k a b : Int) (w : World) : Calls Try.prog 46 #[.int .i64 k, .int .i64 a, .int .i64 b] w fun e w' => e = .returned (.bool (decide (a ≤ k) && decide (k ≤ b))) ∧ w = w' := by
  by_cases h1 : a ≤ k
  · have e1 : decide (a ≤ k) = true := by simpa using h1
    go_enter Try.func46, Try.ntmps46
    go_wp2
    go_ret
    exact ⟨by rw [e1, Bool.true_and]; rfl, rfl⟩
  · have e1 : decide (a ≤ k) = false := by simpa using h1
    go_enter Try.func46, Try.ntmps46
    go_wp2
    go_ret
    exact ⟨rfl, rfl⟩

theorem run_sg_neg (c : Bool) (w : World) : (Op.unary .neg (.float .f32 (sg c))).run Try.prog w = .ok (.float .f32 (sg (!c))) w := by cases c <;> rfl

set_option maxRecDepth 100000 in
set_option maxHeartbeats 1600000 in
theorem l10Walsh_any (n k : Nat) (hn : n ≤ 64) (hk : k < 64) (w : World) : Calls Try.prog 48 #[.int .i64 n, .int .i64 k] w fun e w' => ∃ v, e = .returned v ∧ OwnF w.heap.size v (walsh n k) w' ∧ Below w.heap.size w w' := by
  have HK := Lib.hid hk
  clear hk
  go_enter Try.func48, Try.ntmps48
  go_wp2
  go_loopw [6, 5] (fun i v wr => ∃ j : Nat, j ≤ n ∧ i = .int .i64 j ∧ Hid (OwnF w.heap.size v (walsh j k) wr) ∧ Hid (Below w.heap.size w wr)) (fun i _ _ => n - (intOf i).toNat)
  case atStart => exact ⟨0, by omega, rfl, Lib.hid (OwnF.empty _ _ (Nat.le_refl _)), Lib.hid ((Below.refl _ _).alloc (Nat.le_refl _) _)⟩
  case round =>
    obtain ⟨j, hj, rfl, O, B⟩ := hrel
    obtain ⟨ad, cp, e0, _⟩ := O.out.came
    subst e0
    rw [walsh_len] at O ⊢
    by_cases hlt : j < n
    · have hdk : decide ((j : Int) < (n : Int)) = true := by simp; omega
      obtain ⟨hand, hab⟩ := and_any k j HK.out (by omega)
      have HW := Lib.hid (walsh_succ j k)
      have HWL : Hid (wal k j = sg (par (k &&& j))) := Lib.hid rfl
      have HLN : Hid ((walsh j k).length ≤ 1048576) := Lib.hid (by rw [walsh_len]; omega)
      generalize k &&& j = b0 at *
      have HAB := Lib.hid hab
      clear hab
      go_wp2_with fail
      go_loopw [8, 7] (fun i v wv => ∃ b : Nat, b < 64 ∧ i = .int .i64 b ∧ v = .float .f32 (sg (xor (par b0) (par b))) ∧ wv = wr) (fun i _ _ => (intOf i).toNat)
      case atStart => exact ⟨b0, HAB.out, rfl, by cases par b0 <;> rfl, rfl⟩
      case round =>
        obtain ⟨b, hb, rfl, rfl, hw0⟩ := hrel
        clear hand
        obtain rfl := hw0.symm
        by_cases hb0 : 0 < b
        · have hd : decide ((b : Int) > 0) = true := by simp; omega
          have q1 : (b : Int).tdiv 2 = ((b / 2 : Nat) : Int) := by rw [Int.tdiv_eq_ediv_of_nonneg (by omega)]; omega
          have q2 : (b : Int) / 2 = ((b / 2 : Nat) : Int) := by omega
          have q3 : IntKind.i64.wrap ((b / 2 : Nat) : Int) = ((b / 2 : Nat) : Int) := IntWalk.i64_in _ (by omega)
          have hb2 : b / 2 < b := by omega
          by_cases ho : b % 2 = 1
          · have r1 : (((b : Int).tmod 2) == 1) = true := by rw [Int.tmod_eq_emod_of_nonneg (by omega)]; simp; omega
            have r2 : (((b : Int) % 2) == 1) = true := by simp; omega
            have hng := run_sg_neg (xor (par b0) (par b))
            have HPB : Hid ((!xor (par b0) (par b)) = xor (par b0) (par (b / 2))) := Lib.hid (by rw [par_odd b ho]; cases par b0 <;> cases par (b / 2) <;> rfl)
            generalize xor (par b0) (par b) = c at *
            generalize b / 2 = b2 at *
            go_wp2_with fail
            exact ⟨⟨b2, by omega, by rfl, by rw [← HPB.out], by trivial⟩, by simp [intOf]; omega⟩
          · have r1 : (((b : Int).tmod 2) == 1) = false := by rw [Int.tmod_eq_emod_of_nonneg (by omega)]; simp; omega
            have r2 : (((b : Int) % 2) == 1) = false := by simp; omega
            have HPB : Hid (xor (par b0) (par b) = xor (par b0) (par (b / 2))) := Lib.hid (by rw [par_even b (by omega)])
            generalize xor (par b0) (par b) = c at *
            generalize b / 2 = b2 at *
            go_wp2_with fail
            exact ⟨⟨b2, by omega, by rfl, by rw [← HPB.out], by trivial⟩, by simp [intOf]; omega⟩
        · obtain rfl : b = 0 := by omega
          have hd : decide (((0 : Nat) : Int) > 0) = false := by simp
          rw [par_zero, Bool.xor_false, ← HWL.out]
          clear hd
          go_wp2_with (at_builtin; refine wpList_pushF rfl (.tmp 27) (.tmp 29) rfl w.heap.size _ _ (wal k j) rfl rfl O.out HLN.out B.out.size ?_)
          intro v' w2 O2 B2
          have O3 := Lib.hid (O2.one HW.out.symm)
          have B3 := Lib.hid (B.out.trans B2)
          clear O2 B2
          go_wp2
          exact ⟨⟨j + 1, by omega, by go_num, O3, B3⟩, by simp [intOf]; omega⟩
    · obtain rfl : j = n := by omega
      go_wp2
      go_ret
      exact ⟨_, rfl, O.out, B.out⟩

end Go.Proofs.Ytclflnpbiiimiaa
