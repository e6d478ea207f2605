/- Plain facts on a halftone's numbers: twice a number, what is left when it is taken off, the sums and the halves of all cells, with and without the zeros that are added. Condition: numbers. -/
import Derived.Test.YtjmfffgddmnkmabDoorQk
namespace Go.Proofs.YtjmfffgddmnkmabDoor
open Go Go.RowKit
open Ieee

theorem scale (m : Nat) (p b : Int) (h1 : -149 ≤ b) (h2 : b ≤ p) : m * 2 ^ (p - b).toNat * 2 ^ (b + 149).toNat = m * 2 ^ (p + 149).toNat := by
  rw [Nat.mul_assoc, ← Nat.pow_add]
  congr 2
  omega
theorem scale_le (m n : Nat) (p q b : Int) (h1 : -149 ≤ b) (h2 : b ≤ p) (h3 : b ≤ q) : n * 2 ^ (q - b).toNat ≤ m * 2 ^ (p - b).toNat ↔ n * 2 ^ (q + 149).toNat ≤ m * 2 ^ (p + 149).toNat := by
  rw [← scale m p b h1 h2, ← scale n q b h1 h3]
  exact (Nat.mul_le_mul_right_iff (Nat.two_pow_pos _)).symm
/-- twice a number that is greater than 0 -/
theorem twice (t : Nat) (ht : fin t = true) (h0 : gtz t = true) : ∃ d n q, single.mul 1073741824 t = some d ∧ single.read t = .number false n q ∧ d < 4294967296 ∧ 0 < n ∧ n < 16777216 ∧ -149 ≤ q ∧ q ≤ 104 ∧
    ((∃ n' q', single.read d = .number false n' q' ∧ -149 ≤ q' ∧ n' * 2 ^ (q' + 149).toNat = 2 * (n * 2 ^ (q + 149).toNat)) ∨ single.read d = .infinity false) := by
  obtain ⟨n, q, hr, hn, hn2, hq, hq2⟩ := gtz_read t ht h0
  obtain ⟨_, _, a3, _, _⟩ := read_norm t false n q hr
  obtain ⟨d1, d2, d3, d4⟩ := single_facts
  have hm : single.mul 1073741824 t = some (single.nearest false (8388608 * n) (-22 + q)) := by
    unfold Format.mul
    rw [two_read, hr]
    rfl
  refine ⟨_, n, q, hm, hr, near_lt _ _ _, hn, hn2, hq, hq2, ?_⟩
  by_cases hb : 8388608 ≤ n
  · by_cases hq3 : q ≤ 103
    · have hfit : Fits single n (q + 1) := by
        refine ⟨hn, by rw [d1]; omega, by rw [d2]; omega, .inl (by rw [d2]; omega), ?_⟩
        rw [d1, d2, d3]; omega
      have hu := nearest_up hfit false 23
      rw [show n * 2 ^ 23 = 8388608 * n by omega, show q + 1 - ((23 : Nat) : Int) = -22 + q by omega] at hu
      rw [hu, read_rung hfit false]
      refine .inl ⟨n, q + 1, rfl, by omega, ?_⟩
      rw [show (q + 1 + 149).toNat = (q + 149).toNat + 1 by omega, Nat.pow_succ]
      generalize 2 ^ (q + 149).toNat = Z
      rw [← Nat.mul_assoc, Nat.mul_comm]
    · have hq4 : q = 104 := by omega
      subst hq4
      right
      have hl : n.log2 = 23 := (Nat.log2_eq_iff (by omega)).2 ⟨by omega, by omega⟩
      have hl2 : (8388608 * n).log2 = 46 := by
        have := log2_scaled n 23 hn
        rw [show n * 2 ^ 23 = 8388608 * n by omega] at this
        omega
      have hcut := cut_scaled false n 23 hn
      rw [show n * 2 ^ 23 = 8388608 * n by omega] at hcut
      have e : single.nearest false (8388608 * n) (-22 + 104) = 2139095040 := by
        obtain ⟨g1, g2, g3, g4⟩ := single_parts
        unfold Format.nearest
        rw [if_neg (by omega), hl2]
        simp only [g1, g2, g3, g4]
        rw [show max ((-22 : Int) + 104 + ((46 : Nat) : Int) - 23) (-149) = 105 by omega, show ((-22 : Int) + 104 - 105).toNat = 0 by omega, show ((105 : Int) - (-22 + 104)).toNat = 23 by omega, Nat.shiftLeft_zero, hcut, show ((105 : Int) - -149).toNat = 254 from rfl, Nat.min_eq_right (by omega)]
        rfl
      rw [e]
      decide
  · have hq5 : q = -149 := by omega
    subst hq5
    have hfit : Fits single (2 * n) (-149) := by
      refine ⟨by omega, by rw [d1]; omega, by rw [d2]; omega, .inr (by rw [d1]), ?_⟩
      rw [d1, d2, d3]; omega
    have hu := nearest_up hfit false 22
    rw [show 2 * n * 2 ^ 22 = 8388608 * n by omega, show (-149 : Int) - ((22 : Nat) : Int) = -22 + -149 by omega] at hu
    rw [hu, read_rung hfit false]
    exact .inl ⟨2 * n, -149, rfl, by omega, by simp⟩

/-- at least -/
def geT (x t : Nat) : Bool := FloatKind.f32.format.order x t == some .gt || FloatKind.f32.format.order x t == some .eq
theorem geT_zeq (x x' t : Nat) (hx : fin x = true) (h : zeq x x') : geT x t = geT x' t := by
  have := ordZ x x' t hx h
  unfold geT
  show (ordF x t == some .gt || ordF x t == some .eq) = (ordF x' t == some .gt || ordF x' t == some .eq)
  rw [this]
/-- what is left of a number when twice a lesser one is taken off -/
theorem take_twice (x t d : Nat) (hx : fin x = true) (ht : fin t = true) (h0 : gtz t = true) (hg : geT x t = true) (hd : single.mul 1073741824 t = some d) :
    ∃ r, single.sub x d = some r ∧ r < 4294967296 ∧ fin r = fin d := by
  obtain ⟨d', n, q, hm, hr, hd1, hn, hn2, hq, hq2, hc⟩ := twice t ht h0
  rw [hd] at hm
  injection hm with e
  rw [← e] at hc
  obtain ⟨s, m, p, hxr, _⟩ := fin_read x hx
  obtain ⟨a1, a2, _, _, _⟩ := read_norm x s m p hxr
  obtain ⟨s2, m2, p2, g1, g2, g3, g4⟩ := fin_read x hx
  rw [hxr] at g1
  injection g1 with e1 e2 e3
  subst e1 e2 e3
  rcases hc with ⟨n', q', hdr, hq', hval⟩ | hdr
  · have hA : 0 < n * 2 ^ (q - min p q).toNat := Nat.mul_pos hn (Nat.two_pow_pos _)
    have hle : s = false ∧ n * 2 ^ (q - min p q).toNat ≤ m * 2 ^ (p - min p q).toNat := by
      have hg' : ((single.read x).order (single.read t) == some .gt || (single.read x).order (single.read t) == some .eq) = true := hg
      rw [hxr, hr] at hg'
      simp only [Datum.order, signed, Nat.shiftLeft_eq, Bool.or_eq_true, beq_iff_eq, Option.some.injEq, Int.compare_eq_gt, Std.LawfulEqCmp.compare_eq_iff_eq, Bool.false_eq_true, if_false] at hg'
      generalize n * 2 ^ (q - min p q).toNat = A at *
      generalize m * 2 ^ (p - min p q).toNat = C at *
      cases s
      · simp only [Bool.false_eq_true, if_false] at hg'
        exact ⟨rfl, by omega⟩
      · simp only [if_true] at hg'
        exfalso; omega
    obtain ⟨hs, hle⟩ := hle
    subst hs
    rw [scale_le m n p q (min p q) (by omega) (by omega) (by omega)] at hle
    have h2 : n' * 2 ^ (q' - min p q').toNat ≤ 2 * (m * 2 ^ (p - min p q').toNat) := by
      have h3 := (scale_le (2 * m) n' p q' (min p q') (by omega) (by omega) (by omega)).2 (by
        rw [hval, Nat.mul_assoc]
        exact Nat.mul_le_mul_left _ hle)
      rwa [Nat.mul_assoc] at h3
    unfold Format.sub
    rw [hxr, hdr]
    simp only [Datum.opposite, Datum.sum, Option.map_some, Format.write]
    refine ⟨_, rfl, near_lt _ _ _, ?_⟩
    rw [fin_of_read d _ _ _ hdr]
    have hb : min p q' = 104 - ((104 - min p q').toNat : Nat) := by omega
    refine near_fin _ _ _ _ hb ?_
    have hmax : m * 2 ^ (p - min p q').toNat ≤ 16777215 * 2 ^ (104 - min p q').toNat :=
      Nat.le_trans (Nat.mul_le_mul_right _ (by omega)) (Nat.mul_le_mul_left _ (Nat.pow_le_pow_right (by omega) (by omega)))
    refine Nat.le_trans ?_ hmax
    simp only [signed, Nat.shiftLeft_eq, Bool.not_false, if_true, Bool.false_eq_true, if_false]
    generalize n' * 2 ^ (q' - min p q').toNat = A at *
    generalize m * 2 ^ (p - min p q').toNat = C at *
    omega
  · unfold Format.sub
    rw [hxr, hdr]
    refine ⟨_, rfl, by decide, ?_⟩
    have : fin d = false := by
      cases hf : fin d
      · rfl
      · obtain ⟨u, v, k, hk, _⟩ := fin_read d hf
        rw [hdr] at hk; cases hk
    rw [this]
    decide

/-- a cell's number with what comes from above -/
def cellA (n : Nat) (L H : Nat → Nat) (z : Bool) (k : Nat) : Nat := if n ≤ k then (single.add (L k) (H (k - n))).getD 0 else if z then (single.add (L k) 0).getD 0 else L k
/-- .. and from the left -/
def cellS (n : Nat) (L H : Nat → Nat) (z : Bool) (k : Nat) : Nat := if 0 < k % n then (single.add (cellA n L H z k) (H (k - 1))).getD 0 else if z then (single.add (cellA n L H z k) 0).getD 0 else cellA n L H z k
/-- the rest -/
def cellR (t d s : Nat) : Nat := if geT s t then (single.sub s d).getD 0 else s
def cellH (t d s : Nat) : Nat := (single.div (cellR t d s) 1073741824).getD 0
/-- the halves of the first k cells -/
def hT (n t d : Nat) (L : Nat → Nat) (z : Bool) : Nat → Nat → Nat
  | 0 => fun _ => 0
  | k + 1 => fun j => if j = k then cellH t d (cellS n L (hT n t d L z k) z k) else hT n t d L z k j
def sT (n t d : Nat) (L : Nat → Nat) (z : Bool) (k : Nat) : Nat := cellS n L (hT n t d L z k) z k
def okT (n t d : Nat) (L : Nat → Nat) (z : Bool) : Nat → Bool
  | 0 => true
  | k + 1 => okT n t d L z k && (fin (sT n t d L z k) && fin (cellR t d (sT n t d L z k)))
theorem okT_no (n t d : Nat) (L : Nat → Nat) (z : Bool) (k m : Nat) (h : k ≤ m) (h2 : okT n t d L z k = false) : okT n t d L z m = false := by
  induction m with
  | zero => obtain rfl : k = 0 := by omega
            exact h2
  | succ m ih =>
    by_cases he : k = m + 1
    · subst he; exact h2
    · unfold okT; rw [ih (by omega)]; rfl
theorem hT_old (n t d : Nat) (L : Nat → Nat) (z : Bool) (k j m : Nat) (h : j < k) (h2 : k ≤ m) : hT n t d L z m j = hT n t d L z k j := by
  induction m with
  | zero => omega
  | succ m ih =>
    by_cases he : k = m + 1
    · subst he; rfl
    · show (if j = m then _ else hT n t d L z m j) = _
      rw [if_neg (by omega)]
      exact ih (by omega)

/-- two runs, with the zeros and without them -/
structure Same (n t d : Nat) (L : Nat → Nat) (k : Nat) : Prop where
  ok : okT n t d L false k = okT n t d L true k
  zs : okT n t d L false k = true → ∀ j, zeq (hT n t d L false k j) (hT n t d L true k j)
  fs : okT n t d L false k = true → ∀ j, fin (hT n t d L false k j) = true
  ls : okT n t d L false k = true → ∀ j, hT n t d L false k j < 4294967296 ∧ hT n t d L true k j < 4294967296

theorem cellA_same (n : Nat) (L H H' : Nat → Nat) (k : Nat) (hl : fin (L k) = true) (hl2 : L k < 4294967296) (hz : ∀ j, zeq (H j) (H' j)) (hf : ∀ j, fin (H j) = true) :
    zeq (cellA n L H false k) (cellA n L H' true k) ∧ NotNan (cellA n L H false k) ∧ cellA n L H false k < 4294967296 ∧ cellA n L H' true k < 4294967296 := by
  unfold cellA
  by_cases h : n ≤ k
  · rw [if_pos h, if_pos h]
    obtain ⟨r, r', h1, h2, h3, h4, h5, h6⟩ := add_zeq2 (L k) (L k) (H (k - n)) (H' (k - n)) hl (hf _) (.inl rfl) (hz _)
    rw [h1, h2]
    exact ⟨h3, h4, h5, h6⟩
  · rw [if_neg h, if_neg h]
    obtain ⟨r, h1, h2, h3⟩ := add_zero (L k) hl hl2
    simp only [Bool.false_eq_true, if_false, if_true, h1, Option.getD_some]
    exact ⟨zeq_swap h2, notnan_fin _ hl, hl2, h3⟩
theorem notnan_zeq (a b : Nat) (h : NotNan a) (h2 : zeq a b) : NotNan b := by
  rcases h2 with rfl | ⟨_, h4⟩
  · exact h
  · obtain ⟨s, hs⟩ := eqz_read b h4
    exact .inl ⟨_, _, _, hs⟩
theorem cellS_same (n : Nat) (L H H' : Nat → Nat) (k : Nat) (hl : fin (L k) = true) (hl2 : L k < 4294967296) (hz : ∀ j, zeq (H j) (H' j)) (hf : ∀ j, fin (H j) = true) :
    fin (cellS n L H false k) = fin (cellS n L H' true k) ∧ (fin (cellS n L H false k) = true → zeq (cellS n L H false k) (cellS n L H' true k) ∧ fin (cellA n L H false k) = true) ∧ (fin (cellA n L H' true k) = false → fin (cellS n L H' true k) = false) ∧ NotNan (cellS n L H' true k) := by
  obtain ⟨a1, a2, a3, a4⟩ := cellA_same n L H H' k hl hl2 hz hf
  have a5 := notnan_zeq _ _ a2 a1
  have a6 := zeq_fin _ _ a1
  unfold cellS
  generalize cellA n L H false k = A at *
  generalize cellA n L H' true k = A' at *
  have hf' : ∀ j, fin (H' j) = true := fun j => by rw [← zeq_fin _ _ (hz j)]; exact hf j
  by_cases h : 0 < k % n
  · rw [if_pos h, if_pos h]
    cases hA : fin A
    · obtain ⟨r, h1, h2, _⟩ := add_inf A (H (k - 1)) a2 hA (hf _)
      obtain ⟨r', h3, h4, h5⟩ := add_inf A' (H' (k - 1)) a5 (by rw [← a6]; exact hA) (hf' _)
      rw [h1, h3]
      simp only [Option.getD_some, h2, h4]
      exact ⟨trivial, nofun, fun _ => trivial, h5⟩
    · obtain ⟨r, r', h1, h2, h3, h4, h5, h6⟩ := add_zeq2 A A' (H (k - 1)) (H' (k - 1)) hA (hf _) a1 (hz _)
      rw [hA] at a6
      rw [h1, h2]
      simp only [Option.getD_some, ← a6]
      exact ⟨zeq_fin _ _ h3, fun _ => ⟨h3, trivial⟩, nofun, notnan_zeq _ _ h4 h3⟩
  · rw [if_neg h, if_neg h]
    simp only [Bool.false_eq_true, if_false, if_true]
    cases hA : fin A
    · obtain ⟨r', h3, h4, h5⟩ := add_inf A' 0 a5 (by rw [← a6]; exact hA) (by decide)
      rw [h3]
      simp only [Option.getD_some, h4]
      exact ⟨trivial, nofun, fun _ => trivial, h5⟩
    · obtain ⟨r', h1, h2, h3⟩ := add_zero A' (by rw [← a6]; exact hA) a4
      rw [hA] at a6
      rw [h1]
      have h5 : zeq A r' := zeq_trans a1 (zeq_swap h2)
      have h6 := zeq_fin _ _ h5
      rw [hA] at h6
      simp only [Option.getD_some, ← a6, ← h6]
      exact ⟨trivial, fun _ => ⟨h5, trivial⟩, nofun, notnan_zeq _ _ a2 h5⟩
end Go.Proofs.YtjmfffgddmnkmabDoor
