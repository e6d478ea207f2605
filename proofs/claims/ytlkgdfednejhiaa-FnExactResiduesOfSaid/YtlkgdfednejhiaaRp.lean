/- Residues as a list of whole numbers, and the program's way along a path. Condition: wrapped heights. -/
import Derived.Test.YtlkgdfednejhiaaHrr
import Derived.Test.YtlkgdfednejhiaaHv
import Derived.Test.YtlkgdfednejhiaaUw
import Derived.Deep.RegionHeld3
import Derived.Deep.DrawnRows
namespace Go.Proofs.Ytlkgdfednejhiaa
open Go Go.RowKit

/-- the residue of four heights around -/
def res4 (a b c d : Int) : Int := (lessH a b + lessH b c + lessH c d + lessH d a).tdiv 64
/-- the residue of the rows y, y + 1 and the columns x, x + 1 -/
def resCell (m : Nat) (L : List Int) (y x : Nat) : Int :=
  res4 (L.getD (m * y + x) 0) (L.getD (m * y + x + 1) 0) (L.getD (m * y + m + x + 1) 0) (L.getD (m * y + m + x) 0)
/-- the first k residues, M in a row -/
def resPre (m M : Nat) (L : List Int) (k : Nat) : List Int := (List.range k).map (fun i => resCell m L (i / M) (i % M))
theorem resPre_len (m M : Nat) (L : List Int) (k : Nat) : (resPre m M L k).length = k := by simp [resPre]
theorem resPre_succ (m M : Nat) (L : List Int) (y x : Nat) (hx : x < M) : resPre m M L (M * y + x) ++ [resCell m L y x] = resPre m M L (M * y + (x + 1)) := by
  have h1 : (M * y + x) / M = y := by rw [Nat.mul_add_div (by omega), Nat.div_eq_of_lt hx]; omega
  have h2 : (M * y + x) % M = x := by rw [Nat.mul_add_mod, Nat.mod_eq_of_lt hx]
  rw [← Nat.add_assoc]
  unfold resPre
  rw [List.range_succ, List.map_append, List.map_cons, List.map_nil, h1, h2]

/-- the answer that is asked for -/
def resRs (n : Int) (L : List Int) : List Int := if codeW n L = 0 then resPre n.toNat (n.toNat - 1) L ((n.toNat - 1) * (n.toNat - 1)) else []
theorem resRs_len (n : Int) (L : List Int) : (resRs n L).length ≤ 1048576 := by
  unfold resRs
  split
  · rename_i h
    rw [resPre_len]
    obtain ⟨m, rfl, _, h1, _⟩ := isMap_nat (codeW_zero h).1
    rw [show (m : Int).toNat = m from by simp]
    exact Nat.le_trans (Nat.mul_le_mul (show m - 1 ≤ 8 by omega) (show m - 1 ≤ 8 by omega)) (by decide)
  · exact Nat.zero_le _

set_option maxRecDepth 100000 in
set_option maxHeartbeats 400000 in
theorem rowOf_ints (b o n y N cap : Nat) (hn : 1 ≤ n ∧ n ≤ 8) (hy : y < n) (hN : n * n = N) (hcap : N ≤ cap) (w : World) : Calls Try.prog 48 #[.slice (some ⟨b, o, none⟩) N cap, .int .i64 n, .int .i64 y] w fun e w' => e = .returned (.slice (some ⟨b, o + n * y, none⟩) n n) ∧ w = w' := by
  obtain ⟨p, hp⟩ : ∃ p, n * y = p := ⟨_, rfl⟩
  have hq : n * (y + 1) = p + n := by rw [Nat.mul_succ, hp]
  have hNN : p + n ≤ N := by
    rw [← hq, ← hN]
    exact Nat.mul_le_mul_left _ hy
  have h64 : N ≤ 64 := by rw [← hN]; exact Nat.le_trans (Nat.mul_le_mul hn.2 hn.2) (by decide)
  have hw1 : IntKind.i64.wrap ((n : Int) * (y : Int)) = (p : Int) := by rw [← Int.natCast_mul, hp]; exact IntWalk.i64_in _ (by omega)
  have hw2 : IntKind.i64.wrap ((n : Int) * ((y : Int) + 1)) = ((p + n : Nat) : Int) := by
    rw [show (n : Int) * ((y : Int) + 1) = ((n * (y + 1) : Nat) : Int) by rw [Int.natCast_mul]; rfl, hq]; exact IntWalk.i64_in _ (by omega)
  have hw3 : IntKind.i64.wrap ((y : Int) + 1) = (y : Int) + 1 := IntWalk.i64_in _ (by omega)
  obtain ⟨q, hqq⟩ : ∃ q, p + n = q := ⟨_, rfl⟩
  rw [hqq] at hw2
  have hsub : q - p = n := by omega
  have hne : ¬ q = p := by omega
  have hpq : (p : Int) ≤ (q : Int) := by omega
  have hqN : (q : Int) ≤ (N : Int) := by omega
  have hqc : (q : Int) ≤ (cap : Int) := by omega
  have hp0 : (0 : Int) ≤ (p : Int) := by omega
  clear hq hn hy hqq hN
  rw [hp]
  clear hp
  go_enter Try.func48, Try.ntmps48
  go_wp2
  go_ret
  exact ⟨by first | rfl | (simp; omega) | (rw [hsub]), rfl⟩

/-- the wrapped differences along the first k + 1 numbers -/
def along (f : Nat → Int) : Nat → Int
  | 0 => 0
  | k + 1 => along f k + lessH (f k) (f (k + 1))
theorem along_bound (f : Nat → Int) : ∀ k : Nat, -(32 * (k : Int)) ≤ along f k ∧ along f k ≤ 32 * (k : Int)
  | 0 => by simp [along]
  | k + 1 => by
    have h1 := along_bound f k
    have h2 := lessH_range (f k) (f (k + 1))
    rw [along]
    push_cast
    omega

set_option maxRecDepth 100000 in
set_option maxHeartbeats 800000 in
theorem residueAlong_any (P : Nat) (f : Nat → Int) (w : World) (hc : ∀ i, i < 5 → w.cell? ⟨P, i, none⟩ = some (.int .i64 (f i))) (hf : ∀ i, i < 5 → 0 ≤ f i ∧ f i ≤ 63) :
    Calls Try.prog 49 #[.slice (some ⟨P, 0, none⟩) 5 5] w fun e w' => e = .returned (.int .i64 ((along f 4).tdiv 64)) ∧ w = w' := by
  have HC := Lib.hid hc
  have HF := Lib.hid hf
  have HB := Lib.hid (along_bound f)
  clear hc hf
  go_enter Try.func49, Try.ntmps49
  go_wp2
  go_loopw [3, 9] (fun s i wr => ∃ k : Nat, k ≤ 4 ∧ i = .int .i64 k ∧ s = .int .i64 (along f k) ∧ wr = w) (fun _ i _ => 4 - (intOf i).toNat)
  case atStart => exact ⟨0, by omega, rfl, rfl, rfl⟩
  case round =>
    obtain ⟨k, hk, rfl, rfl, rfl⟩ := hrel
    by_cases hlt : k < 4
    · have hdk : decide ((k : Int) < 4) = true := by simp; omega
      have c1 := HC.out k (by omega)
      have c2 := HC.out (k + 1) (by omega)
      rw [Nat.add_comm] at c2
      have h1 := HF.out k (by omega)
      have h2 := HF.out (k + 1) (by omega)
      have hb := HB.out k
      have HL := Lib.hid (fun w => wrappedDiff_any (f k) (f (k + 1)) (by omega) (by omega) w)
      have hl := lessH_range (f k) (f (k + 1))
      have HS : Hid (along f (k + 1) = along f k + lessH (f k) (f (k + 1))) := Lib.hid rfl
      generalize along f k = s at *
      generalize lessH (f k) (f (k + 1)) = d at *
      rw [Nat.add_comm 1 k] at c2
      generalize f k = x at *
      generalize f (k + 1) = y at *
      have c3 : wr.cell? ⟨P, 1 + k, none⟩ = some (.int .i64 y) := by rw [Nat.add_comm]; exact c2
      go_wp2_with fail
      refine (HL.out _).mono ?_
      rintro e w1 ⟨rfl, rfl⟩
      go_wp2
      exact ⟨⟨k + 1, by omega, by go_num, by rw [HS.out], by trivial⟩, by simp [intOf]; omega⟩
    · obtain rfl : k = 4 := by omega
      have hb := HB.out 4
      generalize hs : along f 4 = s at *
      have HSS := Lib.hid hs
      clear hs
      go_wp2
      go_ret
      exact ⟨by rw [HSS.out]; rfl, by trivial⟩

/-- a path of five numbers -/
def five (a b c d : Int) : Nat → Int | 0 => a | 1 => b | 2 => c | 3 => d | _ => a
theorem along_five (a b c d : Int) : (along (five a b c d) 4).tdiv 64 = res4 a b c d := by
  simp [along, five, res4]

theorem residueAlong_four (P : Nat) (a b c d : Int) (w : World) (ha : 0 ≤ a ∧ a ≤ 63) (hb : 0 ≤ b ∧ b ≤ 63) (hc : 0 ≤ c ∧ c ≤ 63) (hd : 0 ≤ d ∧ d ≤ 63)
    (h : w.heap[P]? = some (.cells #[.int .i64 a, .int .i64 b, .int .i64 c, .int .i64 d, .int .i64 a] 2)) :
    Calls Try.prog 49 #[.slice (some ⟨P, 0, none⟩) 5 5] w fun e w' => e = .returned (.int .i64 (res4 a b c d)) ∧ w = w' := by
  rw [← along_five]
  refine residueAlong_any P (five a b c d) w (fun i hi => ?_) (fun i hi => ?_)
  · rw [cell_of_row _ _ _ _ _ _ h]
    match i, hi with
    | 0, _ => rfl
    | 1, _ => rfl
    | 2, _ => rfl
    | 3, _ => rfl
    | 4, _ => rfl
  · match i, hi with
    | 0, _ => exact ha
    | 1, _ => exact hb
    | 2, _ => exact hc
    | 3, _ => exact hd
    | 4, _ => exact ha

end Go.Proofs.Ytlkgdfednejhiaa
