/- Plain facts: the wave that the model reads out of a text is the wave that the program reads. Condition: none. -/
import Derived.Test.YtjmfffgddmnkmabDoorSp
import Derived.Test.YtjmfffgddmnkmabDoorPn
import Derived.Test.YtjmfffgddmnkmabDoorZw
import Derived.Test.YtjmfffgddmnkmabDoorFl
namespace Go.Proofs.YtjmfffgddmnkmabDoor
open Go Go.RowKit

/-- the places of a cell's parts -/
def cellOf (l : List UInt8) : Option (Int × Int) := match sp 44 l with
  | [a, b] => match seenOf a, seenOf b with
    | some x, some y => some (x, y)
    | _, _ => none
  | _ => none
/-- the side that a text of one digit tells -/
def sideOf (l : List UInt8) : Option Nat := if l = [49] then some 1 else if l = [50] then some 2 else if l = [52] then some 4 else if l = [56] then some 8 else none
def allCells (ws : List (List UInt8)) : Bool := ws.all fun w => (cellOf w).isSome
/-- the side and the texts of the cells of a text that a wave has -/
def readOf (l : List UInt8) : Option (Nat × List (List UInt8)) := match sp 58 l with
  | [h, b] => match sideOf h with
    | some n => if (sp 32 b).length = n * n then (if allCells (sp 32 b) = true then some (n, sp 32 b) else none) else none
    | none => none
  | _ => none
def cellF (ws : List (List UInt8)) (i : Nat) : Nat × Nat := match cellOf (ws.getD i []) with
  | some (x, y) => (placeBits x, placeBits y)
  | none => (0, 0)
def sideR : Option (Nat × List (List UInt8)) → Int
  | some (n, _) => (n : Int)
  | none => 0
def cellsR : Option (Nat × List (List UInt8)) → Array Value
  | some (n, ws) => gf (cellF ws) (n * n)
  | none => zc
def codeR : Option (Nat × List (List UInt8)) → Int
  | some _ => 0
  | none => 6

theorem seenD_bytes : ∀ (l : List UInt8) (a n : Nat), seenD a l = some n → ∀ c ∈ l, (lowHex c.toNat).isSome
  | [], _, _, _, c, hc => absurd hc (by simp)
  | x :: r, a, n, h, c, hc => by
    unfold seenD at h
    cases hx : lowHex x.toNat with
    | none => rw [hx] at h; cases h
    | some d =>
      rw [hx] at h
      rcases List.mem_cons.1 hc with e | e
      · rw [e, hx]; rfl
      · exact seenD_bytes r _ n h c e
theorem seen_bytes (l : List UInt8) (v : Int) (h : seenOf l = some v) : ∀ c ∈ l, c = 45 ∨ (lowHex c.toNat).isSome := by
  unfold seenOf at h
  split at h
  · cases h
  · cases hs : seenD 0 (digitsOf l) with
    | none => rw [hs] at h; cases h
    | some n =>
      intro c hc
      unfold digitsOf at hs
      by_cases h45 : l.head? = some 45
      · rw [if_pos h45] at hs
        cases l with
        | nil => exact absurd hc (by simp)
        | cons x r =>
          rcases List.mem_cons.1 hc with e | e
          · left; rw [e]; injection h45
          · right; exact seenD_bytes r 0 n hs c e
      · rw [if_neg h45] at hs
        right
        exact seenD_bytes l 0 n hs c hc
theorem low44 : (lowHex (44 : UInt8).toNat).isSome = false := by decide +kernel
theorem low58 : (lowHex (58 : UInt8).toNat).isSome = false := by decide +kernel
theorem seen_no44 (l : List UInt8) (v : Int) (h : seenOf l = some v) : (44 : UInt8) ∉ l := fun hm => by
  rcases seen_bytes l v h 44 hm with e | e
  · exact absurd e (by decide)
  · rw [low44] at e; cases e
theorem seen_no58 (l : List UInt8) (v : Int) (h : seenOf l = some v) : (58 : UInt8) ∉ l := fun hm => by
  rcases seen_bytes l v h 58 hm with e | e
  · exact absurd e (by decide)
  · rw [low58] at e; cases e
theorem cell_parts (l : List UInt8) (p : Int × Int) (h : cellOf l = some p) : ∃ a b, sp 44 l = [a, b] ∧ seenOf a = some p.1 ∧ seenOf b = some p.2 := by
  unfold cellOf at h
  split at h
  · rename_i a b hs
    cases h1 : seenOf a with
    | none => rw [h1] at h; cases h
    | some x =>
      cases h2 : seenOf b with
      | none => rw [h1, h2] at h; cases h
      | some y =>
        rw [h1, h2] at h
        injection h with h
        subst h
        exact ⟨a, b, hs, h1, h2⟩
  · cases h
theorem cell_no58 (l : List UInt8) (p : Int × Int) (h : cellOf l = some p) : (58 : UInt8) ∉ l := fun hm => by
  obtain ⟨a, b, hs, h1, h2⟩ := cell_parts l p h
  obtain ⟨q, hq, hm⟩ := sp_mem 44 58 (by decide) l hm
  rw [hs] at hq
  rcases List.mem_cons.1 hq with e | e
  · subst e; exact seen_no58 q _ h1 hm
  · rcases List.mem_cons.1 e with e | e
    · subst e; exact seen_no58 q _ h2 hm
    · exact absurd e (by simp)
theorem seen_range (l : List UInt8) (v : Int) (h : seenOf l = some v) : -2139095039 ≤ v ∧ v ≤ 2139095039 := (seen_part l v h).2
theorem cell_range (l : List UInt8) (p : Int × Int) (h : cellOf l = some p) : (-2139095039 ≤ p.1 ∧ p.1 ≤ 2139095039) ∧ -2139095039 ≤ p.2 ∧ p.2 ≤ 2139095039 := by
  obtain ⟨a, b, _, h1, h2⟩ := cell_parts l p h
  exact ⟨seen_range a _ h1, seen_range b _ h2⟩

/-- within the places of numbers -/
def inPl (v : Int) : Bool := decide (-2139095039 ≤ v) && decide (v ≤ 2139095039)
def nearP (o : Option Int) : Bool := match o with
  | some v => inPl v
  | none => false
theorem near_seen (l : List UInt8) : nearP (partOf l) = (seenOf l).isSome := by
  cases h : seenOf l with
  | some v =>
    obtain ⟨h1, h2, h3⟩ := seen_part l v h
    rw [h1]
    simp [nearP, inPl, h2, h3]
  | none =>
    cases h1 : partOf l with
    | none => rfl
    | some v =>
      by_cases h2 : -2139095039 ≤ v ∧ v ≤ 2139095039
      · have := part_seen l v h1 h2
        rw [h] at this; cases this
      · simp only [nearP, inPl, Option.isSome_none]
        by_cases h3 : -2139095039 ≤ v
        · have : ¬ v ≤ 2139095039 := fun e => h2 ⟨h3, e⟩
          simp [this]
        · simp [h3]
/-- the program's reading of a cell: all that it asks -/
theorem cell_prog (l : List UInt8) : (cellOf l).isSome = ((Lib.cut l [44]).2.2 && nearP (partOf (Lib.cut l [44]).1) && nearP (partOf (Lib.cut l [44]).2.1)) := by
  rcases cut_sp 44 l with ⟨e1, e2⟩ | ⟨e1, e2⟩
  · rw [e1]
    unfold cellOf
    rw [e2]
    rfl
  · rw [e1, near_seen, near_seen, Bool.true_and]
    generalize (Lib.cut l [44]).1 = a at *
    generalize (Lib.cut l [44]).2.1 = b at *
    unfold cellOf
    rw [e2]
    by_cases hb : (44 : UInt8) ∈ b
    · have h2 := sp_two 44 b hb
      have hn : (seenOf b).isSome = false := by
        cases h : seenOf b with
        | none => rfl
        | some v => exact absurd hb (seen_no44 b v h)
      rw [hn, Bool.and_false]
      cases hs : sp 44 b with
      | nil => rw [hs] at h2; simp at h2
      | cons x t =>
        cases t with
        | nil => rw [hs] at h2; simp at h2
        | cons y t => rfl
    · rw [sp_one 44 b hb]
      simp only []
      cases seenOf a with
      | none => rfl
      | some x =>
        cases seenOf b with
        | none => rfl
        | some y => rfl
theorem cell_prog_some (l : List UInt8) (p : Int × Int) (h : cellOf l = some p) : (Lib.cut l [44]).2.2 = true ∧ partOf (Lib.cut l [44]).1 = some p.1 ∧ partOf (Lib.cut l [44]).2.1 = some p.2 := by
  obtain ⟨a, b, hs, h1, h2⟩ := cell_parts l p h
  rcases cut_sp 44 l with ⟨e1, e2⟩ | ⟨e1, e2⟩
  · rw [e2] at hs; injection hs with _ hs; cases hs
  · rw [e2] at hs
    injection hs with g1 g2
    have hb : (44 : UInt8) ∉ (Lib.cut l [44]).2.1 := fun hm => by
      have := sp_two 44 _ hm
      rw [g2] at this
      simp at this
    rw [sp_one 44 _ hb] at g2
    injection g2 with g2
    rw [g1, g2]
    exact ⟨e1, (seen_part a _ h1).1, (seen_part b _ h2).1⟩

/-- the program's reading of the head: a side -/
def headOf (l : List UInt8) : Bool := match numOf 10 l with
  | some v => side v
  | none => false
theorem head_vals : numOf 10 [49] = some 1 ∧ numOf 10 [50] = some 2 ∧ numOf 10 [52] = some 4 ∧ numOf 10 [56] = some 8 := by decide +kernel
theorem head_text : Lib.itoa 1 = [49] ∧ Lib.itoa 2 = [50] ∧ Lib.itoa 4 = [52] ∧ Lib.itoa 8 = [56] := by decide +kernel
theorem num_text (l : List UInt8) (v : Int) (h : numOf 10 l = some v) : Lib.itoa v = l := by
  unfold numOf at h
  split at h
  · split at h
    · injection h with h
      subst h
      rename_i ht
      unfold textTo at ht
      rwa [if_neg (by decide)] at ht
    · cases h
  · cases h
theorem head_side (l : List UInt8) : headOf l = (sideOf l).isSome := by
  unfold sideOf
  by_cases h1 : l = [49]
  · rw [if_pos h1, h1]; unfold headOf; rw [head_vals.1]; rfl
  rw [if_neg h1]
  by_cases h2 : l = [50]
  · rw [if_pos h2, h2]; unfold headOf; rw [head_vals.2.1]; rfl
  rw [if_neg h2]
  by_cases h4 : l = [52]
  · rw [if_pos h4, h4]; unfold headOf; rw [head_vals.2.2.1]; rfl
  rw [if_neg h4]
  by_cases h8 : l = [56]
  · rw [if_pos h8, h8]; unfold headOf; rw [head_vals.2.2.2]; rfl
  rw [if_neg h8]
  unfold headOf
  cases hn : numOf 10 l with
  | none => rfl
  | some v =>
    have ht := num_text l v hn
    simp only [Option.isSome_none]
    cases hs : side v with
    | false => rfl
    | true =>
      rcases side_yes v hs with e | e | e | e
      · subst e; exact absurd (ht.symm.trans head_text.1) h1
      · subst e; exact absurd (ht.symm.trans head_text.2.1) h2
      · subst e; exact absurd (ht.symm.trans head_text.2.2.1) h4
      · subst e; exact absurd (ht.symm.trans head_text.2.2.2) h8
theorem side_num (l : List UInt8) (n : Nat) (h : sideOf l = some n) : numOf 10 l = some (n : Int) ∧ (n = 1 ∨ n = 2 ∨ n = 4 ∨ n = 8) := by
  unfold sideOf at h
  by_cases h1 : l = [49]
  · rw [if_pos h1] at h; injection h with h; subst h; rw [h1]; exact ⟨head_vals.1, by omega⟩
  rw [if_neg h1] at h
  by_cases h2 : l = [50]
  · rw [if_pos h2] at h; injection h with h; subst h; rw [h2]; exact ⟨head_vals.2.1, by omega⟩
  rw [if_neg h2] at h
  by_cases h4 : l = [52]
  · rw [if_pos h4] at h; injection h with h; subst h; rw [h4]; exact ⟨head_vals.2.2.1, by omega⟩
  rw [if_neg h4] at h
  by_cases h8 : l = [56]
  · rw [if_pos h8] at h; injection h with h; subst h; rw [h8]; exact ⟨head_vals.2.2.2, by omega⟩
  rw [if_neg h8] at h
  cases h

/-- the program's reading of a text: what it asks, in its order -/
theorem read_prog (l : List UInt8) : readOf l = if (Lib.cut l [58]).2.2 = true then (match sideOf (Lib.cut l [58]).1 with
    | some n => if (sp 32 (Lib.cut l [58]).2.1).length = n * n then (if allCells (sp 32 (Lib.cut l [58]).2.1) = true then some (n, sp 32 (Lib.cut l [58]).2.1) else none) else none
    | none => none) else none := by
  unfold readOf
  rcases cut_sp 58 l with ⟨e1, e2⟩ | ⟨e1, e2⟩
  · rw [e1, e2]; rfl
  · rw [e1, e2, if_pos rfl]
    generalize (Lib.cut l [58]).1 = a at *
    generalize (Lib.cut l [58]).2.1 = b at *
    by_cases hb : (58 : UInt8) ∈ b
    · have h2 := sp_two 58 b hb
      have ha : allCells (sp 32 b) = false := by
        obtain ⟨p, hp, hm⟩ := sp_mem 32 58 (by decide) b hb
        cases h : allCells (sp 32 b) with
        | false => rfl
        | true =>
          have := List.all_eq_true.1 h p hp
          obtain ⟨q, hq⟩ := Option.isSome_iff_exists.1 this
          exact absurd hm (cell_no58 p q hq)
      have er : (match sideOf a with
        | some n => if (sp 32 b).length = n * n then (if allCells (sp 32 b) = true then some (n, sp 32 b) else none) else none
        | none => none) = (none : Option (Nat × List (List UInt8))) := by
        rw [ha]
        cases sideOf a with
        | none => rfl
        | some n => simp
      rw [er]
      cases hs : sp 58 b with
      | nil => rfl
      | cons x t =>
        cases t with
        | nil => rw [hs] at h2; simp at h2
        | cons y t => rfl
    · rw [sp_one 58 b hb]
end Go.Proofs.YtjmfffgddmnkmabDoor
