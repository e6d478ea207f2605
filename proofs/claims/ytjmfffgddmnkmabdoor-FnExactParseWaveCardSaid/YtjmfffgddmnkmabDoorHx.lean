/- Plain facts on texts of numbers to the base 16: what the model takes for one, and what parsing and writing once more take for one. Condition: none. -/
import Derived.Test.YtjmfffgddmnkmabDoorFb
namespace Go.Proofs.YtjmfffgddmnkmabDoor
open Go Go.RowKit

def lowHex (c : Nat) : Option Nat := if 48 ≤ c ∧ c ≤ 57 then some (c - 48) else if 97 ≤ c ∧ c ≤ 102 then some (c - 87) else none
def seenD (acc : Nat) : List UInt8 → Option Nat
  | [] => some acc
  | c :: r => match lowHex c.toNat with
    | none => none
    | some d => seenD (16 * acc + d) r
/-- the digits behind a sign -/
def digitsOf (l : List UInt8) : List UInt8 := if l.head? = some 45 then l.tail else l
/-- the model's reading of a text -/
def seenOf (l : List UInt8) : Option Int :=
  if (digitsOf l).length = 0 ∨ 8 < (digitsOf l).length ∨ ((digitsOf l).head? = some 48 ∧ l ≠ [48]) then none
  else match seenD 0 (digitsOf l) with
    | none => none
    | some n => if 2139095039 < n then none else some (if l.head? = some 45 then -(n : Int) else (n : Int))

theorem sgn64_t (n : Nat) : sgn64 true (.ok n) = if 9223372036854775808 < n then .range else .ok (-(n : Int)) := rfl
theorem sgn64_f (n : Nat) : sgn64 false (.ok n) = if 9223372036854775808 ≤ n then .range else .ok (n : Int) := rfl
theorem low_lt {c d : Nat} (h : lowHex c = some d) : d < 16 := by
  unfold lowHex at h
  split at h
  · injection h with h; omega
  · split at h
    · injection h with h; omega
    · cases h
theorem low_val {c d : Nat} (h : lowHex c = some d) : val16 c = some d := by
  unfold lowHex at h
  unfold val16
  split at h
  · rw [if_pos (by assumption)]; exact h
  · split at h
    · rw [if_neg (by assumption), if_pos (by assumption)]; exact h
    · cases h
theorem hex_low : ∀ d : Fin 16, lowHex (hexByte d.val).toNat = some d.val ∧ (hexByte d.val = 48 ↔ d.val = 0) ∧ hexByte d.val ≠ 45 := by decide +kernel
theorem hex_of (d : Nat) (h : d < 16) : lowHex (hexByte d).toNat = some d := (hex_low ⟨d, h⟩).1
theorem low_hex_all : ∀ c : Fin 256, ∀ d : Fin 16, lowHex c.val = some d.val → (hexByte d.val).toNat = c.val := by decide +kernel
theorem low_hex (c : UInt8) (d : Nat) (h : lowHex c.toNat = some d) : hexByte d = c := by
  have := low_hex_all ⟨c.toNat, c.toNat_lt⟩ ⟨d, low_lt h⟩ h
  exact UInt8.toNat_inj.1 this

theorem seenD_hexTo : ∀ (f u : Nat) (L : List UInt8), u < 16 ^ (f + 1) → seenD 0 (hexTo f u L) = seenD u L
  | 0, u, L, h => by
    have hu : u < 16 := by simpa using h
    show (match lowHex (hexByte u).toNat with | none => none | some d => seenD (16 * 0 + d) L) = _
    rw [hex_of u hu]
    simp
  | f + 1, u, L, h => by
    unfold hexTo
    by_cases hu : u < 16
    · rw [if_pos hu]
      show (match lowHex (hexByte u).toNat with | none => none | some d => seenD (16 * 0 + d) L) = _
      rw [hex_of u hu]
      simp
    · rw [if_neg hu, seenD_hexTo f (u / 16) _ (by rw [Nat.pow_succ] at h; exact Nat.div_lt_of_lt_mul (by rw [Nat.mul_comm]; exact h))]
      show (match lowHex (hexByte (u % 16)).toNat with | none => none | some d => seenD (16 * (u / 16) + d) L) = _
      rw [hex_of _ (Nat.mod_lt _ (by decide))]
      show seenD (16 * (u / 16) + u % 16) L = _
      rw [Nat.div_add_mod]
theorem hexTo_head : ∀ (f u : Nat) (L : List UInt8), 0 < u → u < 16 ^ (f + 1) → ∃ d r, 0 < d ∧ d < 16 ∧ hexTo f u L = hexByte d :: r
  | 0, u, L, h0, h => ⟨u, L, h0, by simpa using h, rfl⟩
  | f + 1, u, L, h0, h => by
    unfold hexTo
    by_cases hu : u < 16
    · rw [if_pos hu]; exact ⟨u, L, h0, hu, rfl⟩
    · rw [if_neg hu]
      exact hexTo_head f (u / 16) _ (by omega) (by rw [Nat.pow_succ] at h; exact Nat.div_lt_of_lt_mul (by rw [Nat.mul_comm]; exact h))
theorem hexTo_length : ∀ (f u k : Nat) (L : List UInt8), u < 16 ^ (k + 1) → (hexTo f u L).length ≤ L.length + (k + 1)
  | 0, u, k, L, h => by simp [hexTo]
  | f + 1, u, k, L, h => by
    unfold hexTo
    by_cases hu : u < 16
    · rw [if_pos hu]; simp
    · rw [if_neg hu]
      cases k with
      | zero => simp at h; omega
      | succ k =>
        have := hexTo_length f (u / 16) k (hexByte (u % 16) :: L) (by rw [Nat.pow_succ] at h; exact Nat.div_lt_of_lt_mul (by rw [Nat.mul_comm]; exact h))
        simp only [List.length_cons] at this
        omega
theorem hexTo_back : ∀ (r : List UInt8) (f a n : Nat) (L : List UInt8), 1 ≤ a → seenD a r = some n → hexTo (f + r.length) n L = hexTo f a (r ++ L)
  | [], f, a, n, L, h1, h => by
    unfold seenD at h
    injection h with h
    subst h
    rfl
  | c :: r, f, a, n, L, h1, h => by
    unfold seenD at h
    cases hc : lowHex c.toNat with
    | none => rw [hc] at h; cases h
    | some d =>
      rw [hc] at h
      have h : seenD (16 * a + d) r = some n := h
      have hd := low_lt hc
      have ih := hexTo_back r (f + 1) (16 * a + d) n L (by omega) h
      rw [show f + (c :: r).length = f + 1 + r.length by simp only [List.length_cons]; omega, ih]
      show (if 16 * a + d < 16 then _ else hexTo f ((16 * a + d) / 16) (hexByte ((16 * a + d) % 16) :: (r ++ L))) = _
      rw [if_neg (by omega), show (16 * a + d) / 16 = a by omega, show (16 * a + d) % 16 = d by omega, low_hex c d hc]
      rfl
theorem seenD_le : ∀ (r : List UInt8) (a n : Nat), seenD a r = some n → a ≤ n
  | [], a, n, h => by unfold seenD at h; injection h with h; omega
  | c :: r, a, n, h => by
    unfold seenD at h
    cases hc : lowHex c.toNat with
    | none => rw [hc] at h; cases h
    | some d =>
      rw [hc] at h
      have := seenD_le r (16 * a + d) n h
      omega
theorem seenD_pu : ∀ (r : List UInt8) (a n : Nat), n < 1152921504606846976 → seenD a r = some n → pu16 a r = .ok n
  | [], a, n, hn, h => by unfold seenD at h; injection h with h; subst h; rfl
  | c :: r, a, n, hn, h => by
    unfold seenD at h
    cases hc : lowHex c.toNat with
    | none => rw [hc] at h; cases h
    | some d =>
      rw [hc] at h
      have h : seenD (16 * a + d) r = some n := h
      have hle := seenD_le r _ n h
      unfold pu16
      rw [low_val hc]
      simp only []
      rw [if_neg (by omega), Nat.mul_comm a 16]
      exact seenD_pu r _ n hn h

theorem seen_text (v : Int) (hv : -2139095039 ≤ v ∧ v ≤ 2139095039) : seenOf (hexText v) = some v := by
  have hp : v.natAbs < 16 ^ (15 + 1) := Nat.lt_of_lt_of_le (show v.natAbs < 4294967296 by omega) (by decide)
  have hlen := hexTo_length 15 v.natAbs 7 [] (by omega)
  have hval := seenD_hexTo 15 v.natAbs [] hp
  simp only [List.length_nil, Nat.zero_add] at hlen
  have hval : seenD 0 (hexTo 15 v.natAbs []) = some v.natAbs := hval
  by_cases hn : v < 0
  · obtain ⟨d, r, hd0, hd, hr⟩ := hexTo_head 15 v.natAbs [] (by omega) hp
    have e : hexText v = 45 :: hexTo 15 v.natAbs [] := by unfold hexText; rw [if_pos hn]
    have hdig : digitsOf (45 :: hexTo 15 v.natAbs []) = hexTo 15 v.natAbs [] := by unfold digitsOf; rw [List.head?_cons, if_pos rfl]; rfl
    rw [e]
    unfold seenOf
    rw [hdig, hval]
    have hh : (hexTo 15 v.natAbs []).head? ≠ some 48 := by
      rw [hr]
      intro h
      injection h with h
      have := (hex_low ⟨d, hd⟩).2.1.1 h
      simp at this
      omega
    rw [if_neg (by
      intro h
      rcases h with h | h | h
      · rw [hr] at h; simp at h
      · omega
      · exact hh h.1)]
    simp only [List.head?_cons, if_true]
    rw [if_neg (by omega)]
    congr 1
    omega
  · have e : hexText v = hexTo 15 v.natAbs [] := by unfold hexText; rw [if_neg hn]
    rw [e]
    by_cases h0 : v = 0
    · subst h0; decide +kernel
    · obtain ⟨d, r, hd0, hd, hr⟩ := hexTo_head 15 v.natAbs [] (by omega) hp
      have h45 : (hexTo 15 v.natAbs []).head? ≠ some 45 := by
        rw [hr]; intro h; injection h with h; exact (hex_low ⟨d, hd⟩).2.2 h
      have hh : (hexTo 15 v.natAbs []).head? ≠ some 48 := by
        rw [hr]
        intro h
        injection h with h
        have := (hex_low ⟨d, hd⟩).2.1.1 h
        simp at this
        omega
      have hdig : digitsOf (hexTo 15 v.natAbs []) = hexTo 15 v.natAbs [] := by unfold digitsOf; rw [if_neg h45]
      unfold seenOf
      rw [hdig, hval]
      rw [if_neg (by
        intro h
        rcases h with h | h | h
        · rw [hr] at h; simp at h
        · omega
        · exact hh h.1)]
      simp only []
      rw [if_neg (by omega), if_neg h45]
      congr 1
      omega

theorem back_text (d : List UInt8) (n : Nat) (h0 : d.length ≠ 0) (h8 : d.length ≤ 8) (hh : d.head? = some 48 → d = [48]) (hn : seenD 0 d = some n) : hexTo 15 n [] = d ∧ (d.head? ≠ some 48 → 0 < n) := by
  cases d with
  | nil => simp at h0
  | cons c r =>
    by_cases hc : c = 48
    · have := hh (by rw [hc]; rfl)
      injection this with e1 e2
      subst e1 e2
      have : seenD 0 [48] = some 0 := by decide +kernel
      rw [this] at hn
      injection hn with hn
      subst hn
      exact ⟨by decide +kernel, fun h => absurd rfl h⟩
    · unfold seenD at hn
      cases hl : lowHex c.toNat with
      | none => rw [hl] at hn; cases hn
      | some d =>
        rw [hl] at hn
        have hn : seenD (16 * 0 + d) r = some n := hn
        rw [show 16 * 0 + d = d by omega] at hn
        have hlt := low_lt hl
        have he := low_hex c d hl
        have hd0 : 1 ≤ d := by
          rcases Nat.eq_zero_or_pos d with h | h
          · subst h; exact absurd he.symm (by rw [show hexByte 0 = 48 by decide +kernel]; exact hc)
          · exact h
        have hb := hexTo_back r (15 - r.length) d n [] hd0 hn
        rw [show 15 - r.length + r.length = 15 by simp only [List.length_cons] at h8; omega, List.append_nil] at hb
        have hle := seenD_le r d n hn
        refine ⟨?_, fun _ => by omega⟩
        rw [hb, ← he]
        cases hk : 15 - r.length with
        | zero => rfl
        | succ k => show (if d < 16 then _ else _) = _; rw [if_pos hlt]

/-- the program's reading of a text -/
def partOf (l : List UInt8) : Option Int := match pi16 l with
  | .ok v => if hexText v = l then some v else none
  | _ => none
theorem seen_part (l : List UInt8) (v : Int) (h : seenOf l = some v) : partOf l = some v ∧ -2139095039 ≤ v ∧ v ≤ 2139095039 := by
  unfold seenOf at h
  by_cases hb : (digitsOf l).length = 0 ∨ 8 < (digitsOf l).length ∨ ((digitsOf l).head? = some 48 ∧ l ≠ [48])
  · rw [if_pos hb] at h; cases h
  · rw [if_neg hb] at h
    cases hs : seenD 0 (digitsOf l) with
    | none => rw [hs] at h; cases h
    | some n =>
      rw [hs] at h
      simp only [] at h
      by_cases hm : 2139095039 < n
      · rw [if_pos hm] at h; cases h
      · rw [if_neg hm] at h
        injection h with h
        have g0 : (digitsOf l).length ≠ 0 := fun e => hb (.inl e)
        have g8 : (digitsOf l).length ≤ 8 := Nat.le_of_not_lt fun e => hb (.inr (.inl e))
        have g48 : (digitsOf l).head? = some 48 → l = [48] := fun e => Classical.byContradiction fun e2 => hb (.inr (.inr ⟨e, e2⟩))
        have hpu := seenD_pu (digitsOf l) 0 n (by omega) hs
        by_cases h45 : l.head? = some 45
        · rw [if_pos h45] at h
          cases l with
          | nil => cases h45
          | cons c r =>
            have hc : c = 45 := by injection h45
            subst hc
            have hdig : digitsOf (45 :: r) = r := by unfold digitsOf; rw [List.head?_cons, if_pos rfl]; rfl
            rw [hdig] at g0 g8 g48 hpu hs
            have hnh : r.head? ≠ some 48 := fun e => by have := g48 e; injection this with e1 _; exact absurd e1 (by decide)
            obtain ⟨hb1, hb2⟩ := back_text r n g0 g8 (fun e => absurd e hnh) hs
            have hpos := hb2 hnh
            have hr : r ≠ [] := fun e => g0 (by rw [e]; rfl)
            have hp : pi16 (45 :: r) = .ok (-(n : Int)) := by
              rw [pi16_cons, if_neg (by decide), if_pos rfl]
              unfold pu16e
              rw [if_neg hr, hpu]
              rw [sgn64_t, if_neg (by omega)]
            refine ⟨?_, by omega, by omega⟩
            unfold partOf
            rw [hp]
            have ht : hexText (-(n : Int)) = 45 :: r := by
              unfold hexText
              rw [if_pos (by omega), show (-(n : Int)).natAbs = n by omega, hb1]
            simp only []
            rw [if_pos ht, h]
        · rw [if_neg h45] at h
          have hdig : digitsOf l = l := by unfold digitsOf; rw [if_neg h45]
          rw [hdig] at g0 g8 g48 hpu hs
          obtain ⟨hb1, _⟩ := back_text l n g0 g8 g48 hs
          cases l with
          | nil => simp at g0
          | cons c r =>
            have hc45 : c ≠ 45 := fun e => h45 (by rw [e]; rfl)
            have hc43 : c ≠ 43 := fun e => by
              rw [e] at hs
              unfold seenD at hs
              rw [show lowHex (43 : UInt8).toNat = none by decide +kernel] at hs
              cases hs
            have hp : pi16 (c :: r) = .ok (n : Int) := by
              rw [pi16_cons, if_neg hc43, if_neg hc45]
              unfold pu16e
              rw [if_neg (by simp), hpu]
              rw [sgn64_f, if_neg (by omega)]
            refine ⟨?_, by omega, by omega⟩
            unfold partOf
            rw [hp]
            have ht : hexText (n : Int) = c :: r := by
              unfold hexText
              rw [if_neg (by omega), show ((n : Nat) : Int).natAbs = n by omega, hb1]
            simp only []
            rw [if_pos ht, h]
theorem part_seen (l : List UInt8) (v : Int) (h : partOf l = some v) (hv : -2139095039 ≤ v ∧ v ≤ 2139095039) : seenOf l = some v := by
  unfold partOf at h
  rcases hp : pi16 l with u | _ | _
  · rw [hp] at h
    simp only [] at h
    by_cases ht : hexText u = l
    · rw [if_pos ht] at h
      injection h with h
      subst h
      rw [← ht]
      exact seen_text u hv
    · rw [if_neg ht] at h; cases h
  · rw [hp] at h; cases h
  · rw [hp] at h; cases h
end Go.Proofs.YtjmfffgddmnkmabDoor
