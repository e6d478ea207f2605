/- The model's codes of Walsh and of Legendre, whole: lists and codes. Condition: none. What is rounded is finite where it is not greater than the greatest number. Condition: none. -/
import Derived.Test.YtclflnpbiiimiaaM13
import Derived.Test.YtclflnpbiiimiaaM11
namespace Go.Proofs.Ytclflnpbiiimiaa
open Go Go.RowKit

theorem wc_no {n k : Int} (h : wcOk n k = false) : wcList n k = [] ∧ wcCode n k = 2 := by
  unfold wcList wcCode
  rw [h]
  exact ⟨rfl, rfl⟩
theorem wc_yes {n k : Int} (h : wcOk n k = true) : wcList n k = walsh n.toNat k.toNat ∧ wcCode n k = 0 := by
  unfold wcList wcCode
  rw [h]
  exact ⟨rfl, rfl⟩
theorem wcList_len (n k : Int) : (wcList n k).length ≤ 64 := by
  unfold wcList
  split
  · rename_i h
    unfold wcOk at h
    simp only [Bool.and_eq_true] at h
    rw [walsh_len]
    rcases lenI_yes h.1.1 with rfl | rfl | rfl | rfl | rfl | rfl | rfl <;> decide
  · simp

theorem l10Prime_no (n : Int) (h : prI n = false) (w : World) : Calls Try.prog 28 #[.int .i64 n] w fun e w' => e = .returned (.bool false) ∧ w = w' := by
  unfold prI at h
  simp only [Bool.or_eq_false_iff] at h
  obtain ⟨⟨⟨⟨⟨h1, h2⟩, h3⟩, h4⟩, h5⟩, h6⟩ := h
  go_enter Try.func28, Try.ntmps28
  go_wp2
  go_ret
  exact ⟨rfl, rfl⟩
theorem l10Prime_any (n : Int) (w : World) : Calls Try.prog 28 #[.int .i64 n] w fun e w' => e = .returned (.bool (prI n)) ∧ w = w' := by
  cases h : prI n
  · exact l10Prime_no n h w
  · rcases prI_yes h with rfl | rfl | rfl | rfl | rfl | rfl
    · exact calls_of (fun _ => false) (known_none _) 99 (fun cs => by kernel_rfl)
    · exact calls_of (fun _ => false) (known_none _) 99 (fun cs => by kernel_rfl)
    · exact calls_of (fun _ => false) (known_none _) 99 (fun cs => by kernel_rfl)
    · exact calls_of (fun _ => false) (known_none _) 99 (fun cs => by kernel_rfl)
    · exact calls_of (fun _ => false) (known_none _) 99 (fun cs => by kernel_rfl)
    · exact calls_of (fun _ => false) (known_none _) 99 (fun cs => by kernel_rfl)

set_option maxRecDepth 100000 in
set_option maxHeartbeats 1600000 in
theorem l10Legendre_any (p : Nat) (hp : p ≤ 31) (w : World) : Calls Try.prog 29 #[.int .i64 p] w fun e w' => ∃ v, e = .returned v ∧ OwnF w.heap.size v (legs p) w' ∧ Below w.heap.size w w' := by
  go_enter Try.func29, Try.ntmps29
  go_wp2
  go_loopw [4, 3] (fun i v wr => ∃ j : Nat, j ≤ p ∧ i = .int .i64 j ∧ Hid (OwnF w.heap.size v (legsTo p j) wr) ∧ Hid (Below w.heap.size w wr)) (fun i _ _ => p - (intOf i).toNat)
  case atStart => exact ⟨0, by omega, rfl, Lib.hid (OwnF.empty _ _ (Nat.le_refl _)), Lib.hid ((Below.refl _ _).alloc (Nat.le_refl _) _)⟩
  case round =>
    obtain ⟨j, hj, rfl, O, B⟩ := hrel
    obtain ⟨ad, cp, e0, _⟩ := O.out.came
    subst e0
    rw [legsTo_len] at O ⊢
    by_cases hlt : j < p
    · have hdk : decide ((j : Int) < (p : Int)) = true := by simp; omega
      have HW := Lib.hid (legsTo_succ p j)
      have HLN : Hid ((legsTo p j).length ≤ 1048576) := Lib.hid (by rw [legsTo_len]; omega)
      go_wp2_with fail
      go_loopw [6, 5] (fun i v wv => ∃ q : Nat, q ≤ p ∧ i = .int .i64 q ∧ v = .float .f32 (legTo p j q) ∧ wv = wr) (fun i _ _ => p - (intOf i).toNat)
      case atStart => exact ⟨0, by omega, rfl, rfl, rfl⟩
      case round =>
        obtain ⟨q, hq, rfl, rfl, hw0⟩ := hrel
        obtain rfl := hw0.symm
        by_cases hq0 : q < p
        · have hd : decide ((q : Int) < (p : Int)) = true := by simp; omega
          have hqq : (q : Int) * (q : Int) = ((q * q : Nat) : Int) := by rw [Int.natCast_mul]
          have hs : q * q ≤ 31 * 31 := Nat.mul_le_mul (by omega) (by omega)
          have hw1 : IntKind.i64.wrap ((q : Int) * (q : Int)) = (q : Int) * (q : Int) := IntWalk.i64_in _ (by rw [hqq]; omega)
          have hw2 : IntKind.i64.wrap ((q * q : Nat) : Int) = ((q * q : Nat) : Int) := IntWalk.i64_in _ (by omega)
          have hp0 : (p : Int) ≠ 0 := by omega
          have hm : ((q : Int) * (q : Int)).tmod (p : Int) = ((q * q % p : Nat) : Int) := by rw [hqq, Int.tmod_eq_emod_of_nonneg (by omega)]; rfl
          have hm2 : ((q : Int) * (q : Int)) % (p : Int) = ((q * q % p : Nat) : Int) := by rw [hqq]; rfl
          have hq1 : IntKind.i64.wrap ((q : Int) + 1) = ((q + 1 : Nat) : Int) := by rw [← Int.natCast_succ]; exact IntWalk.i64_in _ (by omega)
          by_cases he : q * q % p = j
          · have r1 : ((((q * q % p : Nat) : Int)) == (j : Int)) = true := by simp; omega
            have HT := Lib.hid (legTo_yes p j q he)
            clear hs hqq he
            generalize legTo p j q = c at *
            generalize ((q * q % p : Nat) : Int) = m at *
            go_wp2_with fail
            exact ⟨⟨q + 1, by omega, by go_num, by rw [HT.out]; rfl, by trivial⟩, by simp [intOf]; omega⟩
          · have r1 : ((((q * q % p : Nat) : Int)) == (j : Int)) = false := by simp; omega
            have HT := Lib.hid (legTo_no p j q he)
            clear hs hqq he
            generalize legTo p j q = c at *
            generalize ((q * q % p : Nat) : Int) = m at *
            go_wp2_with fail
            exact ⟨⟨q + 1, by omega, by go_num, by rw [HT.out], by trivial⟩, by simp [intOf]; omega⟩
        · obtain rfl : q = p := by omega
          have hj1 : IntKind.i64.wrap ((j : Int) + 1) = ((j + 1 : Nat) : Int) := by rw [← Int.natCast_succ]; exact IntWalk.i64_in _ (by omega)
          have HG : Hid (legTo q j q = leg q j) := Lib.hid rfl
          go_wp2_with (at_builtin; refine wpList_pushF rfl (.tmp 25) (.tmp 27) rfl w.heap.size _ _ (legTo q j q) rfl rfl O.out HLN.out B.out.size ?_)
          intro v' w2 O2 B2
          rw [HG.out, ← HW.out] at O2
          have O3 := Lib.hid O2
          have B3 := Lib.hid (B.out.trans B2)
          clear O2 B2
          go_wp2
          exact ⟨⟨j + 1, by omega, by go_num, O3, B3⟩, by simp [intOf]; omega⟩
    · obtain rfl : j = p := by omega
      have HL : Hid (legsTo j j = legs j) := Lib.hid rfl
      go_wp2
      go_ret
      exact ⟨_, rfl, by rw [← HL.out]; exact O.out, B.out⟩

theorem lc_no {p : Int} (h : prI p = false) : lcList p = [] ∧ lcCode p = 2 := by
  unfold lcList lcCode
  rw [h]
  exact ⟨rfl, rfl⟩
theorem lc_yes {p : Int} (h : prI p = true) : lcList p = legs p.toNat ∧ lcCode p = 0 := by
  unfold lcList lcCode
  rw [h]
  exact ⟨rfl, rfl⟩
theorem lcList_len (p : Int) : (lcList p).length ≤ 31 := by
  unfold lcList
  split
  · rename_i h
    rw [legs_len]
    rcases prI_yes h with rfl | rfl | rfl | rfl | rfl | rfl <;> decide
  · simp

set_option maxRecDepth 100000 in
set_option maxHeartbeats 800000 in
theorem specLc (p : Int) : List1F 7 p (lcList p) (lcCode p) := by
  intro w
  cases hl : prI p
  · have HL : Hid (∀ w, Calls Try.prog 28 #[.int .i64 p] w fun e w' => e = .returned (.bool false) ∧ w = w') := Lib.hid (fun w => by rw [← hl]; exact l10Prime_any p w)
    rw [(lc_no hl).1, (lc_no hl).2]
    clear hl
    go_enter Try.func7, Try.ntmps7
    go_wp2_with fail
    refine (HL.out _).mono ?_
    rintro e w1 ⟨rfl, rfl⟩
    go_wp2_with fail
    go_ret2
    exact ⟨_, rfl, OwnF.zero _ _, Below.refl _ _⟩
  · have HL : Hid (∀ w, Calls Try.prog 28 #[.int .i64 p] w fun e w' => e = .returned (.bool true) ∧ w = w') := Lib.hid (fun w => by rw [← hl]; exact l10Prime_any p w)
    rw [(lc_yes hl).1, (lc_yes hl).2]
    obtain ⟨m, rfl⟩ : ∃ m : Nat, p = m := ⟨p.toNat, by rcases prI_yes hl with rfl | rfl | rfl | rfl | rfl | rfl <;> rfl⟩
    have HW := Lib.hid (l10Legendre_any m (by rcases prI_yes hl with h | h | h | h | h | h <;> omega))
    rw [Int.toNat_natCast]
    clear hl
    go_enter Try.func7, Try.ntmps7
    go_wp2_with fail
    refine (HL.out _).mono ?_
    rintro e w1 ⟨rfl, rfl⟩
    go_wp2_with fail
    refine (HW.out _).mono ?_
    rintro e w1 ⟨v, rfl, O, B⟩
    obtain ⟨ad, cp, rfl, _⟩ := O.came
    have OO := Lib.hid O
    have BB := Lib.hid B
    clear O B
    go_wp2_with fail
    go_ret2
    exact ⟨_, rfl, OO.out, BB.out⟩

end Go.Proofs.Ytclflnpbiiimiaa

namespace Go.Proofs.Ytclflnpbiiimiaa
open Go Go.RowKit
open Ieee

theorem nf_zero (s : Bool) (p : Int) : single.nearest s 0 p = single.word s 0 := by simp [Format.nearest]
theorem nf_top (s : Bool) (n d K : Nat) (h : n ≤ K * 2 ^ d) : Toward.even.cut s n d ≤ K := by
  unfold Toward.cut
  simp only [Nat.shiftLeft_eq, Nat.one_mul]
  by_cases hd : d ≤ n.log2 + 2
  · rw [Nat.min_eq_left hd]
    have hp : 0 < 2 ^ d := Nat.two_pow_pos d
    have hdm := Nat.div_add_mod n (2 ^ d)
    have hlt := Nat.mod_lt n hp
    have hle : n / 2 ^ d ≤ K := by
      have := Nat.div_le_div_right (c := 2 ^ d) h
      rwa [Nat.mul_div_cancel _ hp] at this
    rcases Nat.lt_or_ge (n / 2 ^ d) K with h1 | h1
    · have hb : ∀ b : Bool, b.toNat ≤ 1 := fun b => by cases b <;> decide
      exact Nat.le_trans (Nat.add_le_add_left (hb _) _) h1
    · have he : n / 2 ^ d = K := Nat.le_antisymm hle h1
      have hr : n % 2 ^ d = 0 := by
        rw [he, Nat.mul_comm] at hdm
        omega
      rw [hr, he]
      have h3 : decide (2 ^ d < 2 * 0) = false := decide_eq_false (by omega)
      have h4 : (2 ^ d == 2 * 0) = false := by simp
      rw [h3, h4]
      simp
  · rw [Nat.min_eq_right (by omega)]
    have hl := lt_two_log n
    have hp2 : 2 ^ (n.log2 + 2) = 2 * 2 ^ (n.log2 + 1) := by rw [Nat.pow_succ]; omega
    generalize 2 ^ (n.log2 + 1) = Z at *
    rw [hp2, Nat.div_eq_of_lt (by omega), Nat.mod_eq_of_lt (by omega)]
    have h3 : decide (2 * Z < 2 * n) = false := decide_eq_false (by omega)
    have h4 : (2 * Z == 2 * n) = false := by simp; omega
    rw [h3, h4]
    simp
theorem nf_fin (s : Bool) (M e : Nat) (B : Int) (hB : B = 104 - e) (h : M ≤ 16777215 * 2 ^ e) : fin (single.nearest s M B) = true := by
  rcases Nat.eq_zero_or_pos M with h0 | h0
  · subst h0
    rw [nf_zero]; cases s <;> decide
  · obtain ⟨d1, d2, d3, d4⟩ := single_parts
    have hlog : M.log2 < 24 + e := (Nat.log2_lt (by omega)).2 (by
      rw [Nat.pow_add]
      have : 16777215 * 2 ^ e < 2 ^ 24 * 2 ^ e := Nat.mul_lt_mul_of_pos_right (by decide) (Nat.two_pow_pos e)
      omega)
    generalize hL : max (B + (M.log2 : Int) - 23) (-149) = L
    have hL2 : B + (M.log2 : Int) - 23 ≤ L ∧ -149 ≤ L ∧ L ≤ 104 := by omega
    have hk := kept_le s M B L hL2.1
    have hc : L = 104 → Toward.even.cut s (M <<< (B - L).toNat) (L - B).toNat ≤ 16777215 := by
      intro he
      rw [show (B - L).toNat = 0 by omega, show (L - B).toNat = e by omega, Nat.shiftLeft_zero]
      exact nf_top s M e 16777215 h
    unfold Format.nearest
    rw [if_neg (by omega)]
    simp only [d1, d2, d3, d4, hL]
    rw [fin_word]
    generalize Toward.even.cut s (M <<< (B - L).toNat) (L - B).toNat = K at *
    have hr : (L - -149).toNat * 8388608 + K < 2139095040 := by
      by_cases he : L = 104
      · have := hc he
        subst he
        rw [show ((104 : Int) - -149).toNat = 253 from rfl]
        omega
      · have h1 : (L - -149).toNat ≤ 252 := by omega
        have h2 : (L - -149).toNat * 8388608 ≤ 252 * 8388608 := Nat.mul_le_mul_right _ h1
        omega
    rw [Nat.min_eq_left (Nat.le_of_lt hr), Nat.mod_eq_of_lt (by omega)]
    exact decide_eq_true hr

end Go.Proofs.Ytclflnpbiiimiaa
