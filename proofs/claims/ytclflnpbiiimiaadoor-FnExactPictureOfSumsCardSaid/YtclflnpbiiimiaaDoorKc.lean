/- The model's codes of Walsh and of Legendre, whole: lists and codes. Condition: none. -/
import Derived.Test.YtclflnpbiiimiaaDoorKb
namespace Go.Proofs.YtclflnpbiiimiaaDoor
open Go Go.RowKit

theorem wc_no {n k : Int} (h : wcOk n k = false) : wcList n k = [] ∧ wcCode n k = 2 := by
  unfold wcList wcCode
  rw [h]
  exact ⟨rfl, rfl⟩
theorem wc_yes {n k : Int} (h : wcOk n k = true) : wcList n k = walsh n.toNat k.toNat ∧ wcCode n k = 0 := by
  unfold wcList wcCode
  rw [h]
  exact ⟨rfl, rfl⟩
theorem wcList_len (n k : Int) : (wcList n k).length ≤ 64 := by
  unfold wcList
  split
  · rename_i h
    unfold wcOk at h
    simp only [Bool.and_eq_true] at h
    rw [walsh_len]
    rcases lenI_yes h.1.1 with rfl | rfl | rfl | rfl | rfl | rfl | rfl <;> decide
  · simp

set_option maxRecDepth 100000 in
set_option maxHeartbeats 800000 in
theorem specWc (n k : Int) : List2F 8 n k (wcList n k) (wcCode n k) := by
  intro w
  cases hl : lenI n
  · have HN : Hid (wcOk n k = false) := Lib.hid (by unfold wcOk; rw [hl]; rfl)
    have HL : Hid (∀ w, Calls Tryd.prog 39 #[.int .i64 n] w fun e w' => e = .returned (.bool false) ∧ w = w') := Lib.hid (fun w => by rw [← hl]; exact l10Length_any n w)
    rw [(wc_no HN.out).1, (wc_no HN.out).2]
    clear hl
    go_enter Tryd.func8, Tryd.ntmps8
    go_wp2_with fail
    refine (HL.out _).mono ?_
    rintro e w1 ⟨rfl, rfl⟩
    go_wp2_with fail
    go_ret2
    exact ⟨_, rfl, OwnF.zero _ _, Below.refl _ _⟩
  · have HL : Hid (∀ w, Calls Tryd.prog 39 #[.int .i64 n] w fun e w' => e = .returned (.bool true) ∧ w = w') := Lib.hid (fun w => by rw [← hl]; exact l10Length_any n w)
    have hn : 1 ≤ n ∧ n ≤ 64 := by rcases lenI_yes hl with rfl | rfl | rfl | rfl | rfl | rfl | rfl <;> decide
    have hw : IntKind.i64.wrap (n - 1) = n - 1 := IntWalk.i64_in _ (by omega)
    cases hb : (decide (0 ≤ k) && decide (k ≤ n - 1))
    · have HN : Hid (wcOk n k = false) := Lib.hid (by unfold wcOk; rw [Bool.and_assoc, hb, Bool.and_false])
      have HB : Hid (∀ w, Calls Tryd.prog 40 #[.int .i64 k, .int .i64 0, .int .i64 (n - 1)] w fun e w' => e = .returned (.bool false) ∧ w = w') := Lib.hid (fun w => by rw [← hb]; exact l01In_of k 0 (n - 1) w)
      rw [(wc_no HN.out).1, (wc_no HN.out).2]
      clear hl hb
      go_enter Tryd.func8, Tryd.ntmps8
      go_wp2_with fail
      refine (HL.out _).mono ?_
      rintro e w1 ⟨rfl, rfl⟩
      go_wp2_with fail
      refine (HB.out _).mono ?_
      rintro e w1 ⟨rfl, rfl⟩
      go_wp2_with fail
      go_ret2
      exact ⟨_, rfl, OwnF.zero _ _, Below.refl _ _⟩
    · have HN : Hid (wcOk n k = true) := Lib.hid (by unfold wcOk; rw [Bool.and_assoc, hl, hb]; rfl)
      have HB : Hid (∀ w, Calls Tryd.prog 40 #[.int .i64 k, .int .i64 0, .int .i64 (n - 1)] w fun e w' => e = .returned (.bool true) ∧ w = w') := Lib.hid (fun w => by rw [← hb]; exact l01In_of k 0 (n - 1) w)
      simp only [Bool.and_eq_true, decide_eq_true_eq] at hb
      obtain ⟨m, rfl⟩ : ∃ m : Nat, n = m := ⟨n.toNat, by omega⟩
      obtain ⟨q, rfl⟩ : ∃ q : Nat, k = q := ⟨k.toNat, by omega⟩
      have HW := Lib.hid (l10Walsh_any m q (by omega) (by omega))
      rw [(wc_yes HN.out).1, (wc_yes HN.out).2, Int.toNat_natCast, Int.toNat_natCast]
      clear hl hb
      go_enter Tryd.func8, Tryd.ntmps8
      go_wp2_with fail
      refine (HL.out _).mono ?_
      rintro e w1 ⟨rfl, rfl⟩
      go_wp2_with fail
      refine (HB.out _).mono ?_
      rintro e w1 ⟨rfl, rfl⟩
      go_wp2_with fail
      refine (HW.out _).mono ?_
      rintro e w1 ⟨v, rfl, O, B⟩
      obtain ⟨ad, cp, rfl, _⟩ := O.came
      have OO := Lib.hid O
      have BB := Lib.hid B
      clear O B
      go_wp2_with fail
      go_ret2
      exact ⟨_, rfl, OO.out, BB.out⟩

theorem lc_no {p : Int} (h : prI p = false) : lcList p = [] ∧ lcCode p = 2 := by
  unfold lcList lcCode
  rw [h]
  exact ⟨rfl, rfl⟩
theorem lc_yes {p : Int} (h : prI p = true) : lcList p = legs p.toNat ∧ lcCode p = 0 := by
  unfold lcList lcCode
  rw [h]
  exact ⟨rfl, rfl⟩
theorem lcList_len (p : Int) : (lcList p).length ≤ 31 := by
  unfold lcList
  split
  · rename_i h
    rw [legs_len]
    rcases prI_yes h with rfl | rfl | rfl | rfl | rfl | rfl <;> decide
  · simp

end Go.Proofs.YtclflnpbiiimiaaDoor
