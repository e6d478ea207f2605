/- The model's codes of Walsh and of Legendre. Condition: none. The model's codes of Walsh and of Legendre, whole: lists and codes. Condition: none. -/
import Derived.Test.YtclflnpbiiimiaaDoorM13
import Derived.Test.YtclflnpbiiimiaaDoorM1
namespace Go.Proofs.YtclflnpbiiimiaaDoor
open Go Go.RowKit

set_option maxRecDepth 100000 in
set_option maxHeartbeats 800000 in
theorem l10Length_any (n : Int) (w : World) : Calls Tryd.prog 39 #[.int .i64 n] w fun e w' => e = .returned (.bool (lenI n)) ∧ w = w' := by
  go_enter Tryd.func39, Tryd.ntmps39
  go_wp2
  go_loopw [3] (fun i wr => ∃ r : Nat, r ≤ 7 ∧ i = .int .i64 (pw2 r) ∧ Hid (∀ s, s < r → n ≠ pw2 s) ∧ wr = w) (fun i _ => (1000 - (intOf i)).toNat)
  case atStart => exact ⟨0, by omega, rfl, Lib.hid (fun s hs => absurd hs (by omega)), rfl⟩
  case round =>
    obtain ⟨r, hr, rfl, HN, hw0⟩ := hrel
    obtain rfl : w = wr := hw0.symm
    by_cases hlt : r < 7
    · obtain ⟨h1, h2, h3⟩ := pw2_fin ⟨r, hlt⟩
      simp only at h1 h2 h3
      have hd : decide (pw2 r ≤ 64) = true := by simpa using h1
      have hlow : Hid (0 < pw2 r) := Lib.hid (by unfold pw2; exact Int.natCast_pos.2 (Nat.pow_pos (by omega)))
      have hnext : Hid (pw2 (r + 1) = 2 * pw2 r) := Lib.hid (by unfold pw2; rw [Nat.pow_succ, Int.natCast_mul]; omega)
      by_cases he : n = pw2 r
      · have hq : (n == pw2 r) = true := by simpa using he
        rw [← he] at h3
        have H3 := Lib.hid h3
        have hP := Lib.hid he
        clear h1 h3 he
        generalize pw2 r = p at *
        generalize pw2 (r + 1) = p' at *
        go_wp2
        go_ret
        exact ⟨by rw [H3.out]; rfl, by trivial⟩
      · have hq : (n == pw2 r) = false := by simpa using he
        have HN2 : Hid (∀ s, s < r + 1 → n ≠ pw2 s) := Lib.hid (fun s hs => by
          rcases Nat.lt_or_ge s r with h | h
          · exact HN.out s h
          · obtain rfl : s = r := by omega
            exact he)
        have H1 := Lib.hid h1
        clear h1 h3 he
        generalize hp : pw2 r = p at *
        go_wp2
        exact ⟨⟨r + 1, by omega, by rfl, HN2, by trivial⟩, by have := H1.out; have := hlow.out; have := hnext.out; simp [intOf]; omega⟩
    · obtain rfl : r = 7 := by omega
      have hd : decide (pw2 7 ≤ 64) = false := by decide
      have HL := Lib.hid (lenI_none HN.out)
      generalize pw2 7 = p at *
      go_wp2
      go_ret
      exact ⟨by rw [HL.out]; rfl, by trivial⟩

theorem l01In_of (k a b : Int) (w : World) : Calls Tryd.prog 40 #[.int .i64 k, .int .i64 a, .int .i64 b] w fun e w' => e = .returned (.bool (decide (a ≤ k) && decide (k ≤ b))) ∧ w = w' := by
  by_cases h1 : a ≤ k
  · have e1 : decide (a ≤ k) = true := by simpa using h1
    go_enter Tryd.func40, Tryd.ntmps40
    go_wp2
    go_ret
    exact ⟨by rw [e1, Bool.true_and]; rfl, rfl⟩
  · have e1 : decide (a ≤ k) = false := by simpa using h1
    go_enter Tryd.func40, Tryd.ntmps40
    go_wp2
    go_ret
    exact ⟨rfl, rfl⟩

theorem run_sg_neg (c : Bool) (w : World) : (Op.unary .neg (.float .f32 (sg c))).run Tryd.prog w = .ok (.float .f32 (sg (!c))) w := by cases c <;> rfl

set_option maxRecDepth 100000 in
set_option maxHeartbeats 1600000 in
theorem l10Walsh_any (n k : Nat) (hn : n ≤ 64) (hk : k < 64) (w : World) : Calls Tryd.prog 41 #[.int .i64 n, .int .i64 k] w fun e w' => ∃ v, e = .returned v ∧ OwnF w.heap.size v (walsh n k) w' ∧ Below w.heap.size w w' := by
  have HK := Lib.hid hk
  clear hk
  go_enter Tryd.func41, Tryd.ntmps41
  go_wp2
  go_loopw [6, 5] (fun i v wr => ∃ j : Nat, j ≤ n ∧ i = .int .i64 j ∧ Hid (OwnF w.heap.size v (walsh j k) wr) ∧ Hid (Below w.heap.size w wr)) (fun i _ _ => n - (intOf i).toNat)
  case atStart => exact ⟨0, by omega, rfl, Lib.hid (OwnF.empty _ _ (Nat.le_refl _)), Lib.hid ((Below.refl _ _).alloc (Nat.le_refl _) _)⟩
  case round =>
    obtain ⟨j, hj, rfl, O, B⟩ := hrel
    obtain ⟨ad, cp, e0, _⟩ := O.out.came
    subst e0
    rw [walsh_len] at O ⊢
    by_cases hlt : j < n
    · have hdk : decide ((j : Int) < (n : Int)) = true := by simp; omega
      obtain ⟨hand, hab⟩ := and_any k j HK.out (by omega)
      have HW := Lib.hid (walsh_succ j k)
      have HWL : Hid (wal k j = sg (par (k &&& j))) := Lib.hid rfl
      have HLN : Hid ((walsh j k).length ≤ 1048576) := Lib.hid (by rw [walsh_len]; omega)
      generalize k &&& j = b0 at *
      have HAB := Lib.hid hab
      clear hab
      go_wp2_with fail
      go_loopw [8, 7] (fun i v wv => ∃ b : Nat, b < 64 ∧ i = .int .i64 b ∧ v = .float .f32 (sg (xor (par b0) (par b))) ∧ wv = wr) (fun i _ _ => (intOf i).toNat)
      case atStart => exact ⟨b0, HAB.out, rfl, by cases par b0 <;> rfl, rfl⟩
      case round =>
        obtain ⟨b, hb, rfl, rfl, hw0⟩ := hrel
        clear hand
        obtain rfl := hw0.symm
        by_cases hb0 : 0 < b
        · have hd : decide ((b : Int) > 0) = true := by simp; omega
          have q1 : (b : Int).tdiv 2 = ((b / 2 : Nat) : Int) := by rw [Int.tdiv_eq_ediv_of_nonneg (by omega)]; omega
          have q2 : (b : Int) / 2 = ((b / 2 : Nat) : Int) := by omega
          have q3 : IntKind.i64.wrap ((b / 2 : Nat) : Int) = ((b / 2 : Nat) : Int) := IntWalk.i64_in _ (by omega)
          have hb2 : b / 2 < b := by omega
          by_cases ho : b % 2 = 1
          · have r1 : (((b : Int).tmod 2) == 1) = true := by rw [Int.tmod_eq_emod_of_nonneg (by omega)]; simp; omega
            have r2 : (((b : Int) % 2) == 1) = true := by simp; omega
            have hng := run_sg_neg (xor (par b0) (par b))
            have HPB : Hid ((!xor (par b0) (par b)) = xor (par b0) (par (b / 2))) := Lib.hid (by rw [par_odd b ho]; cases par b0 <;> cases par (b / 2) <;> rfl)
            generalize xor (par b0) (par b) = c at *
            generalize b / 2 = b2 at *
            go_wp2_with fail
            exact ⟨⟨b2, by omega, by rfl, by rw [← HPB.out], by trivial⟩, by simp [intOf]; omega⟩
          · have r1 : (((b : Int).tmod 2) == 1) = false := by rw [Int.tmod_eq_emod_of_nonneg (by omega)]; simp; omega
            have r2 : (((b : Int) % 2) == 1) = false := by simp; omega
            have HPB : Hid (xor (par b0) (par b) = xor (par b0) (par (b / 2))) := Lib.hid (by rw [par_even b (by omega)])
            generalize xor (par b0) (par b) = c at *
            generalize b / 2 = b2 at *
            go_wp2_with fail
            exact ⟨⟨b2, by omega, by rfl, by rw [← HPB.out], by trivial⟩, by simp [intOf]; omega⟩
        · obtain rfl : b = 0 := by omega
          have hd : decide (((0 : Nat) : Int) > 0) = false := by simp
          rw [par_zero, Bool.xor_false, ← HWL.out]
          clear hd
          go_wp2_with (at_builtin; refine wpList_pushF rfl (.tmp 27) (.tmp 29) rfl w.heap.size _ _ (wal k j) rfl rfl O.out HLN.out B.out.size ?_)
          intro v' w2 O2 B2
          have O3 := Lib.hid (O2.one HW.out.symm)
          have B3 := Lib.hid (B.out.trans B2)
          clear O2 B2
          go_wp2
          exact ⟨⟨j + 1, by omega, by go_num, O3, B3⟩, by simp [intOf]; omega⟩
    · obtain rfl : j = n := by omega
      go_wp2
      go_ret
      exact ⟨_, rfl, O.out, B.out⟩

end Go.Proofs.YtclflnpbiiimiaaDoor

namespace Go.Proofs.YtclflnpbiiimiaaDoor
open Go Go.RowKit

theorem wc_no {n k : Int} (h : wcOk n k = false) : wcList n k = [] ∧ wcCode n k = 2 := by
  unfold wcList wcCode
  rw [h]
  exact ⟨rfl, rfl⟩
theorem wc_yes {n k : Int} (h : wcOk n k = true) : wcList n k = walsh n.toNat k.toNat ∧ wcCode n k = 0 := by
  unfold wcList wcCode
  rw [h]
  exact ⟨rfl, rfl⟩
theorem wcList_len (n k : Int) : (wcList n k).length ≤ 64 := by
  unfold wcList
  split
  · rename_i h
    unfold wcOk at h
    simp only [Bool.and_eq_true] at h
    rw [walsh_len]
    rcases lenI_yes h.1.1 with rfl | rfl | rfl | rfl | rfl | rfl | rfl <;> decide
  · simp

set_option maxRecDepth 100000 in
set_option maxHeartbeats 800000 in
theorem specWc (n k : Int) : List2F 8 n k (wcList n k) (wcCode n k) := by
  intro w
  cases hl : lenI n
  · have HN : Hid (wcOk n k = false) := Lib.hid (by unfold wcOk; rw [hl]; rfl)
    have HL : Hid (∀ w, Calls Tryd.prog 39 #[.int .i64 n] w fun e w' => e = .returned (.bool false) ∧ w = w') := Lib.hid (fun w => by rw [← hl]; exact l10Length_any n w)
    rw [(wc_no HN.out).1, (wc_no HN.out).2]
    clear hl
    go_enter Tryd.func8, Tryd.ntmps8
    go_wp2_with fail
    refine (HL.out _).mono ?_
    rintro e w1 ⟨rfl, rfl⟩
    go_wp2_with fail
    go_ret2
    exact ⟨_, rfl, OwnF.zero _ _, Below.refl _ _⟩
  · have HL : Hid (∀ w, Calls Tryd.prog 39 #[.int .i64 n] w fun e w' => e = .returned (.bool true) ∧ w = w') := Lib.hid (fun w => by rw [← hl]; exact l10Length_any n w)
    have hn : 1 ≤ n ∧ n ≤ 64 := by rcases lenI_yes hl with rfl | rfl | rfl | rfl | rfl | rfl | rfl <;> decide
    have hw : IntKind.i64.wrap (n - 1) = n - 1 := IntWalk.i64_in _ (by omega)
    cases hb : (decide (0 ≤ k) && decide (k ≤ n - 1))
    · have HN : Hid (wcOk n k = false) := Lib.hid (by unfold wcOk; rw [Bool.and_assoc, hb, Bool.and_false])
      have HB : Hid (∀ w, Calls Tryd.prog 40 #[.int .i64 k, .int .i64 0, .int .i64 (n - 1)] w fun e w' => e = .returned (.bool false) ∧ w = w') := Lib.hid (fun w => by rw [← hb]; exact l01In_of k 0 (n - 1) w)
      rw [(wc_no HN.out).1, (wc_no HN.out).2]
      clear hl hb
      go_enter Tryd.func8, Tryd.ntmps8
      go_wp2_with fail
      refine (HL.out _).mono ?_
      rintro e w1 ⟨rfl, rfl⟩
      go_wp2_with fail
      refine (HB.out _).mono ?_
      rintro e w1 ⟨rfl, rfl⟩
      go_wp2_with fail
      go_ret2
      exact ⟨_, rfl, OwnF.zero _ _, Below.refl _ _⟩
    · have HN : Hid (wcOk n k = true) := Lib.hid (by unfold wcOk; rw [Bool.and_assoc, hl, hb]; rfl)
      have HB : Hid (∀ w, Calls Tryd.prog 40 #[.int .i64 k, .int .i64 0, .int .i64 (n - 1)] w fun e w' => e = .returned (.bool true) ∧ w = w') := Lib.hid (fun w => by rw [← hb]; exact l01In_of k 0 (n - 1) w)
      simp only [Bool.and_eq_true, decide_eq_true_eq] at hb
      obtain ⟨m, rfl⟩ : ∃ m : Nat, n = m := ⟨n.toNat, by omega⟩
      obtain ⟨q, rfl⟩ : ∃ q : Nat, k = q := ⟨k.toNat, by omega⟩
      have HW := Lib.hid (l10Walsh_any m q (by omega) (by omega))
      rw [(wc_yes HN.out).1, (wc_yes HN.out).2, Int.toNat_natCast, Int.toNat_natCast]
      clear hl hb
      go_enter Tryd.func8, Tryd.ntmps8
      go_wp2_with fail
      refine (HL.out _).mono ?_
      rintro e w1 ⟨rfl, rfl⟩
      go_wp2_with fail
      refine (HB.out _).mono ?_
      rintro e w1 ⟨rfl, rfl⟩
      go_wp2_with fail
      refine (HW.out _).mono ?_
      rintro e w1 ⟨v, rfl, O, B⟩
      obtain ⟨ad, cp, rfl, _⟩ := O.came
      have OO := Lib.hid O
      have BB := Lib.hid B
      clear O B
      go_wp2_with fail
      go_ret2
      exact ⟨_, rfl, OO.out, BB.out⟩

theorem lc_no {p : Int} (h : prI p = false) : lcList p = [] ∧ lcCode p = 2 := by
  unfold lcList lcCode
  rw [h]
  exact ⟨rfl, rfl⟩
theorem lc_yes {p : Int} (h : prI p = true) : lcList p = legs p.toNat ∧ lcCode p = 0 := by
  unfold lcList lcCode
  rw [h]
  exact ⟨rfl, rfl⟩
theorem lcList_len (p : Int) : (lcList p).length ≤ 31 := by
  unfold lcList
  split
  · rename_i h
    rw [legs_len]
    rcases prI_yes h with rfl | rfl | rfl | rfl | rfl | rfl <;> decide
  · simp

end Go.Proofs.YtclflnpbiiimiaaDoor
