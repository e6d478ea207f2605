/- The model's reading of a text of a number and of a cell. Condition: none. -/
import Derived.Test.YtjmfffgddmnkmabDoorRd
import Derived.Deep.DeepCutAuto
namespace Go.Proofs.YtjmfffgddmnkmabDoor
open Go Go.RowKit

theorem low_cases (c : Nat) : (48 ≤ c ∧ c ≤ 57 ∧ lowHex c = some (c - 48)) ∨ (97 ≤ c ∧ c ≤ 102 ∧ lowHex c = some (c - 87)) ∨ (¬ (48 ≤ c ∧ c ≤ 57) ∧ ¬ (97 ≤ c ∧ c ≤ 102) ∧ lowHex c = none) := by
  unfold lowHex
  by_cases h1 : 48 ≤ c ∧ c ≤ 57
  · left; exact ⟨h1.1, h1.2, if_pos h1⟩
  · by_cases h2 : 97 ≤ c ∧ c ≤ 102
    · right; left; exact ⟨h2.1, h2.2, by rw [if_neg h1, if_pos h2]⟩
    · right; right; exact ⟨h1, h2, by rw [if_neg h1, if_neg h2]⟩
theorem seenD_cons (a : Nat) (c : UInt8) (r : List UInt8) : seenD a (c :: r) = match lowHex c.toNat with | none => none | some d => seenD (16 * a + d) r := rfl
theorem pow16_le (k : Nat) (h : k ≤ 7) : 16 ^ k ≤ 268435456 := Nat.pow_le_pow_right (n := 16) (by decide) h
theorem pow16_le8 (k : Nat) (h : k ≤ 8) : 16 ^ k ≤ 4294967296 := Nat.pow_le_pow_right (n := 16) (by decide) h
def seenPair : Option Int → Value
  | some v => .tuple #[.float .f32 (placeBits v), .bool true]
  | none => .tuple #[.float .f32 0, .bool false]
def sgnOf (l : List UInt8) : Int := if l.head? = some 45 then -1 else 1
/-- a text's digits alone -/
def digRead (l : List UInt8) (L : List UInt8) : Option Int :=
  if L.length = 0 ∨ 8 < L.length ∨ (L.head? = some 48 ∧ l ≠ [48]) then none
  else match seenD 0 L with
    | none => none
    | some n => if 2139095039 < n then none else some (sgnOf l * (n : Int))
theorem seen_dig (l : List UInt8) : seenOf l = digRead l (digitsOf l) := by
  unfold seenOf digRead
  by_cases h : (digitsOf l).length = 0 ∨ 8 < (digitsOf l).length ∨ ((digitsOf l).head? = some 48 ∧ l ≠ [48])
  · rw [if_pos h, if_pos h]
  · rw [if_neg h, if_neg h]
    cases seenD 0 (digitsOf l) with
    | none => rfl
    | some n =>
      unfold sgnOf
      by_cases h2 : 2139095039 < n
      · simp only [h2, if_true]
      · simp only [h2, if_false]
        by_cases h3 : l.head? = some 45
        · simp only [h3, if_true]; congr 1; omega
        · simp only [h3, if_false]; congr 1; omega

set_option maxRecDepth 100000 in
set_option maxHeartbeats 2000000 in
theorem seen_any (s : ByteArray) (hs : s.size ≤ 1048576) (w : World) : Calls Tryd.prog 69 #[.string s] w fun e w' => e = .returned (seenPair (seenOf s.data.toList)) ∧ w' = w := by
  rw [seen_dig]
  go_enter Tryd.func69, Tryd.ntmps69
  have hL : ∀ D : ByteArray, D.data.toList.length = D.size := fun D => (Lib.size_eq D).symm
  obtain ⟨sg, HSG⟩ : ∃ sg : Int, Hid (sg = sgnOf s.data.toList) := ⟨_, Lib.hid rfl⟩
  go_upto_region 2 with fail
  go_cut [17] (fun b wx => b = .bool (decide (s.data.toList.head? = some 45)) ∧ wx = w)
  case first =>
    by_cases h0 : 0 < s.size
    · have hd0 : decide ((s.size : Int) > 0) = true := by simp; omega
      have hl0 : 0 < s.data.toList.length := by rw [hL]; exact h0
      have hhead : s.data.toList.head? = some s[0] := by
        rw [List.head?_eq_getElem?, List.getElem?_eq_getElem hl0]; rfl
      by_cases h1 : s[0] = 45
      · have hd1 : decide (((s[0].toNat : Nat) : Int) = 45) = true := by rw [h1]; decide
        have hb1 : (((s[0].toNat : Nat) : Int) == 45) = true := by rw [h1]; decide
        have hq : Hid (decide (s.data.toList.head? = some 45) = true) := Lib.hid (by rw [hhead, h1]; decide)
        go_wp2
        go_meet
        case rel => exact ⟨by rw [hq.out], rfl⟩
      · have hd1 : decide (((s[0].toNat : Nat) : Int) = 45) = false := by
          simp
          intro h
          exact h1 (UInt8.toNat_inj.1 (by rw [show (45 : UInt8).toNat = 45 from rfl]; omega))
        have hb1 : (((s[0].toNat : Nat) : Int) == 45) = false := by simpa using hd1
        have hq : Hid (decide (s.data.toList.head? = some 45) = false) := Lib.hid (decide_eq_false (by rw [hhead]; intro h; injection h with h; exact h1 h))
        go_wp2
        go_meet
        case rel => exact ⟨by rw [hq.out], rfl⟩
    · have hd0 : decide ((s.size : Int) > 0) = false := decide_eq_false (by omega)
      have hnil : s.data.toList = [] := List.eq_nil_of_length_eq_zero (by rw [hL]; omega)
      have hq : Hid (decide (s.data.toList.head? = some 45) = false) := Lib.hid (by rw [hnil]; decide)
      go_wp2
      go_meet
      case rel => exact ⟨by rw [hq.out], rfl⟩
  case rest =>
  obtain ⟨rfl, hwc⟩ := hcut
  obtain rfl := hwc.symm
  go_upto_if 17 with fail
  go_cut [4, 5] (fun vs vd wx => ∃ D : ByteArray, vs = .int .i64 sg ∧ vd = .string D ∧ D.data.toList = digitsOf s.data.toList ∧ D.size ≤ s.size ∧ wx = w)
  case first =>
    by_cases h1 : s.data.toList.head? = some 45
    · have hq : decide (s.data.toList.head? = some 45) = true := decide_eq_true h1
      have hpos : 1 ≤ s.size := by
        rw [← hL]
        cases hl : s.data.toList with
        | nil => rw [hl] at h1; cases h1
        | cons a t => simp
      go_wp2
      go_meet
      case rel =>
        refine ⟨s.extract 1 s.size, ?_, rfl, ?_, ?_, rfl⟩
        · rw [HSG.out]; unfold sgnOf; rw [if_pos h1]
        · unfold digitsOf; rw [if_pos h1, Lib.extract_data, List.drop_one, List.take_of_length_le (by rw [List.length_tail, hL]; omega)]
        · simp
    · have hq : decide (s.data.toList.head? = some 45) = false := decide_eq_false h1
      go_wp2
      go_meet
      case rel =>
        refine ⟨s, ?_, rfl, ?_, Nat.le_refl _, rfl⟩
        · rw [HSG.out]; unfold sgnOf; rw [if_neg h1]
        · unfold digitsOf; rw [if_neg h1]
  case rest =>
  obtain ⟨D, rfl, rfl, hD, hDs, hwc⟩ := hcut
  obtain rfl := hwc.symm
  have hdl : D.data.toList.length = D.size := hL D
  go_upto_region 5 with fail
  go_cut [36] (fun b wx => b = .bool (decide (D.data.toList.length = 0 ∨ 8 < D.data.toList.length ∨ (D.data.toList.head? = some 48 ∧ s.data.toList ≠ [48]))) ∧ wx = w)
  case first =>
    by_cases h0 : D.size = 0
    · have hd0 : ((D.size : Int) == 0) = true := by rw [h0]; rfl
      have hq : Hid (decide (D.data.toList.length = 0 ∨ 8 < D.data.toList.length ∨ (D.data.toList.head? = some 48 ∧ s.data.toList ≠ [48])) = true) := Lib.hid (decide_eq_true (.inl (by omega)))
      go_wp2
      go_meet
      case rel => exact ⟨by rw [hq.out], rfl⟩
    · have hd0 : ((D.size : Int) == 0) = false := beq_false_of_ne (by omega)
      by_cases h8 : 8 < D.size
      · have hd8 : decide ((D.size : Int) > 8) = true := decide_eq_true (by omega)
        have hq : Hid (decide (D.data.toList.length = 0 ∨ 8 < D.data.toList.length ∨ (D.data.toList.head? = some 48 ∧ s.data.toList ≠ [48])) = true) := Lib.hid (decide_eq_true (.inr (.inl (by omega))))
        go_wp2
        go_meet
        case rel => exact ⟨by rw [hq.out], rfl⟩
      · have hd8 : decide ((D.size : Int) > 8) = false := decide_eq_false (by omega)
        have hp : 0 < D.size := by omega
        have hhead : D.data.toList.head? = some D[0] := by
          rw [List.head?_eq_getElem?, List.getElem?_eq_getElem (by omega)]; rfl
        by_cases h1 : D[0] = 48
        · have hb1 : (((D[0].toNat : Nat) : Int) == 48) = true := by rw [h1]; decide
          by_cases h2 : s.data.toList = [48]
          · have hs1 : (s.toList == [48]) = true := by rw [ByteArray.toList_eq, h2]; decide
            have hq : Hid (decide (D.data.toList.length = 0 ∨ 8 < D.data.toList.length ∨ (D.data.toList.head? = some 48 ∧ s.data.toList ≠ [48])) = false) := Lib.hid (decide_eq_false (by
              rintro (h | h | h)
              · omega
              · omega
              · exact h.2 h2))
            clear h2
            go_wp2
            go_meet
            case rel => exact ⟨by rw [hq.out], rfl⟩
          · have hs1 : (s.toList == [48]) = false := by rw [ByteArray.toList_eq]; exact beq_false_of_ne h2
            have hq : Hid (decide (D.data.toList.length = 0 ∨ 8 < D.data.toList.length ∨ (D.data.toList.head? = some 48 ∧ s.data.toList ≠ [48])) = true) := Lib.hid (decide_eq_true (.inr (.inr ⟨by rw [hhead, h1], h2⟩)))
            clear h2
            go_wp2
            go_meet
            case rel => exact ⟨by rw [hq.out], rfl⟩
        · have hd1 : ((D[0].toNat : Nat) : Int) ≠ 48 := fun h => h1 (UInt8.toNat_inj.1 (by rw [show (48 : UInt8).toNat = 48 from rfl]; omega))
          have hb1 : (((D[0].toNat : Nat) : Int) == 48) = false := beq_false_of_ne hd1
          have hq : Hid (decide (D.data.toList.length = 0 ∨ 8 < D.data.toList.length ∨ (D.data.toList.head? = some 48 ∧ s.data.toList ≠ [48])) = false) := Lib.hid (decide_eq_false (by
            rintro (h | h | h)
            · omega
            · omega
            · rw [hhead] at h; exact h1 (by injection h.1)))
          go_wp2
          go_meet
          case rel => exact ⟨by rw [hq.out], rfl⟩
  case rest =>
  obtain ⟨rfl, hwc⟩ := hcut
  obtain rfl := hwc.symm
  have hsg : sg = 1 ∨ sg = -1 := by
    rw [HSG.out]; unfold sgnOf
    by_cases h : s.data.toList.head? = some 45
    · right; rw [if_pos h]
    · left; rw [if_neg h]
  by_cases hbad : D.data.toList.length = 0 ∨ 8 < D.data.toList.length ∨ (D.data.toList.head? = some 48 ∧ s.data.toList ≠ [48])
  · have hdec : decide (D.data.toList.length = 0 ∨ 8 < D.data.toList.length ∨ (D.data.toList.head? = some 48 ∧ s.data.toList ≠ [48])) = true := decide_eq_true hbad
    have HA : Hid (digRead s.data.toList (digitsOf s.data.toList) = none) := Lib.hid (by rw [← hD]; unfold digRead; exact if_pos hbad)
    rw [hdec]
    clear hdec hbad
    go_wp2
    go_ret2
    exact ⟨by rw [HA.out]; rfl, rfl⟩
  have hdec : decide (D.data.toList.length = 0 ∨ 8 < D.data.toList.length ∨ (D.data.toList.head? = some 48 ∧ s.data.toList ≠ [48])) = false := decide_eq_false hbad
  have h8 : D.size ≤ 8 := by
    rcases Nat.lt_or_ge 8 D.size with h | h
    · exact absurd (.inr (.inl (by omega))) hbad
    · exact h
  have HA : Hid (digRead s.data.toList (digitsOf s.data.toList) = match seenD 0 D.data.toList with | none => none | some n => if 2139095039 < n then none else some (sg * (n : Int))) := Lib.hid (by rw [← hD, HSG.out]; unfold digRead; exact if_neg hbad)
  rw [hdec]
  clear hdec hbad hD hdl
  go_wp2
  go_loop [6, 7] (fun vn vi => ∃ (k a : Nat), vn = .int .i64 (a : Int) ∧ vi = .int .i64 (k : Int) ∧ k ≤ D.size ∧ Hid (a < 16 ^ k ∧ seenD 0 D.data.toList = seenD a (D.data.toList.drop k))) (fun _ vi => D.size - (intOf vi).toNat)
  case atStart => exact ⟨0, 0, rfl, rfl, by omega, Lib.hid ⟨by decide, rfl⟩⟩
  case round =>
    obtain ⟨k, a, rfl, rfl, hk, hh⟩ := hrel
    obtain ⟨ha, hse⟩ := hh.out
    clear hh
    by_cases hlt : k < D.size
    · have hdk : decide ((k : Int) < (D.size : Int)) = true := decide_eq_true (by omega)
      have ha7 : a < 268435456 := Nat.lt_of_lt_of_le ha (pow16_le k (by omega))
      have hget : D.data.toList.drop k = D[k] :: D.data.toList.drop (k + 1) := by
        have h : k < D.data.toList.length := by rw [hL]; exact hlt
        rw [List.drop_eq_getElem_cons h]
        congr 1
      rw [hget, seenD_cons] at hse
      have hc8 : D[k].toNat < 256 := D[k].toNat_lt
      rcases low_cases D[k].toNat with ⟨c1, c2, c3⟩ | ⟨c1, c2, c3⟩ | ⟨c1, c2, c3⟩
      · rw [c3] at hse
        have HN : Hid (16 * a + (D[k].toNat - 48) < 16 ^ (k + 1) ∧ seenD 0 D.data.toList = seenD (16 * a + (D[k].toNat - 48)) (D.data.toList.drop (k + 1))) := Lib.hid ⟨by rw [Nat.pow_succ]; omega, hse⟩
        have hg1 : decide (((D[k].toNat : Nat) : Int) ≥ 48) = true := decide_eq_true (by omega)
        have hg2 : decide (((D[k].toNat : Nat) : Int) ≤ 57) = true := decide_eq_true (by omega)
        have hw1 : IntKind.u8.wrap (((D[k].toNat : Nat) : Int) - 48) = ((D[k].toNat : Nat) : Int) - 48 := IntWalk.u8_in _ (by omega)
        have hw2 : IntKind.i64.wrap (16 * (a : Int)) = 16 * (a : Int) := IntWalk.i64_in _ (by omega)
        have hw3 : IntKind.i64.wrap (((D[k].toNat : Nat) : Int) - 48) = ((D[k].toNat : Nat) : Int) - 48 := IntWalk.i64_in _ (by omega)
        have hw4 : IntKind.i64.wrap (16 * (a : Int) + (((D[k].toNat : Nat) : Int) - 48)) = 16 * (a : Int) + (((D[k].toNat : Nat) : Int) - 48) := IntWalk.i64_in _ (by omega)
        clear hse hget c3
        go_wp2
        refine ⟨⟨k + 1, 16 * a + (D[k].toNat - 48), ?_, by go_num, by omega, HN⟩, by simp [intOf]; omega⟩
        congr 1
        omega
      · rw [c3] at hse
        have HN : Hid (16 * a + (D[k].toNat - 87) < 16 ^ (k + 1) ∧ seenD 0 D.data.toList = seenD (16 * a + (D[k].toNat - 87)) (D.data.toList.drop (k + 1))) := Lib.hid ⟨by rw [Nat.pow_succ]; omega, hse⟩
        have hg1 : decide (((D[k].toNat : Nat) : Int) ≥ 48) = true := decide_eq_true (by omega)
        have hg2 : decide (((D[k].toNat : Nat) : Int) ≤ 57) = false := decide_eq_false (by omega)
        have hg3 : decide (((D[k].toNat : Nat) : Int) ≥ 97) = true := decide_eq_true (by omega)
        have hg4 : decide (((D[k].toNat : Nat) : Int) ≤ 102) = true := decide_eq_true (by omega)
        have hw1 : IntKind.u8.wrap (((D[k].toNat : Nat) : Int) - 97) = ((D[k].toNat : Nat) : Int) - 97 := IntWalk.u8_in _ (by omega)
        have hw2 : IntKind.i64.wrap (16 * (a : Int)) = 16 * (a : Int) := IntWalk.i64_in _ (by omega)
        have hw3 : IntKind.i64.wrap (((D[k].toNat : Nat) : Int) - 97) = ((D[k].toNat : Nat) : Int) - 97 := IntWalk.i64_in _ (by omega)
        have hw4 : IntKind.i64.wrap (16 * (a : Int) + (((D[k].toNat : Nat) : Int) - 97)) = 16 * (a : Int) + (((D[k].toNat : Nat) : Int) - 97) := IntWalk.i64_in _ (by omega)
        have hw5 : IntKind.i64.wrap (16 * (a : Int) + (((D[k].toNat : Nat) : Int) - 97) + 10) = 16 * (a : Int) + (((D[k].toNat : Nat) : Int) - 97) + 10 := IntWalk.i64_in _ (by omega)
        clear hse hget c3
        go_wp2
        refine ⟨⟨k + 1, 16 * a + (D[k].toNat - 87), ?_, by go_num, by omega, HN⟩, by simp [intOf]; omega⟩
        congr 1
        omega
      · rw [c3] at hse
        have HB : Hid (digRead s.data.toList (digitsOf s.data.toList) = none) := Lib.hid (by rw [HA.out, hse])
        clear hse hget c3
        by_cases d1 : 48 ≤ D[k].toNat
        · have hg1 : decide (((D[k].toNat : Nat) : Int) ≥ 48) = true := decide_eq_true (by omega)
          have hg2 : decide (((D[k].toNat : Nat) : Int) ≤ 57) = false := decide_eq_false (by omega)
          by_cases d2 : 97 ≤ D[k].toNat
          · have hg3 : decide (((D[k].toNat : Nat) : Int) ≥ 97) = true := decide_eq_true (by omega)
            have hg4 : decide (((D[k].toNat : Nat) : Int) ≤ 102) = false := decide_eq_false (by omega)
            go_wp2
            go_ret2
            exact ⟨by rw [HB.out]; rfl, rfl⟩
          · have hg3 : decide (((D[k].toNat : Nat) : Int) ≥ 97) = false := decide_eq_false (by omega)
            go_wp2
            go_ret2
            exact ⟨by rw [HB.out]; rfl, rfl⟩
        · have hg1 : decide (((D[k].toNat : Nat) : Int) ≥ 48) = false := decide_eq_false (by omega)
          have hg3 : decide (((D[k].toNat : Nat) : Int) ≥ 97) = false := decide_eq_false (by omega)
          go_wp2
          go_ret2
          exact ⟨by rw [HB.out]; rfl, rfl⟩
    · obtain rfl : k = D.size := by omega
      have hdk : decide ((D.size : Int) < (D.size : Int)) = false := decide_eq_false (by omega)
      have hs0 : seenD 0 D.data.toList = some a := by rw [hse, List.drop_eq_nil_of_le (by rw [hL]; exact Nat.le_refl _)]; rfl
      have ha8 : a < 4294967296 := Nat.lt_of_lt_of_le ha (pow16_le8 _ h8)
      by_cases hmx : 2139095039 < a
      · have hgm : decide ((a : Int) > 2139095039) = true := decide_eq_true (by omega)
        have HB : Hid (digRead s.data.toList (digitsOf s.data.toList) = none) := Lib.hid (by rw [HA.out, hs0]; exact if_pos hmx)
        clear hse hs0
        go_wp2
        go_ret2
        exact ⟨by rw [HB.out]; rfl, rfl⟩
      · have hgm : decide ((a : Int) > 2139095039) = false := decide_eq_false (by omega)
        have HB : Hid (digRead s.data.toList (digitsOf s.data.toList) = some (sg * (a : Int))) := Lib.hid (by rw [HA.out, hs0]; exact if_neg hmx)
        have hv : -2139095039 ≤ sg * (a : Int) ∧ sg * (a : Int) ≤ 2139095039 := by rcases hsg with rfl | rfl <;> omega
        have hwv : IntKind.i64.wrap (sg * (a : Int)) = sg * (a : Int) := IntWalk.i64_in _ (by omega)
        have HFl := Lib.hid (float_any (sg * (a : Int)) hv)
        clear hse hs0
        go_wp2_with fail
        refine (HFl.out _).mono ?_
        rintro e w' ⟨rfl, rfl⟩
        go_wp2
        go_ret2
        exact ⟨by rw [HB.out]; rfl, rfl⟩
end Go.Proofs.YtjmfffgddmnkmabDoor
