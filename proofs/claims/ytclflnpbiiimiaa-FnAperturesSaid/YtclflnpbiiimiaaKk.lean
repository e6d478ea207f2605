/- The model's CorrelateLists: the list and the code. Condition: as many numbers as a law lets in. -/
import Derived.Test.YtclflnpbiiimiaaM17
namespace Go.Proofs.Ytclflnpbiiimiaa
open Go Go.RowKit Ieee

theorem clOk_no {A B : List Nat} (h : clOk A B = false) (he : A.length = B.length) : (decide ((1 : Int) ≤ (A.length : Int)) && decide ((A.length : Int) ≤ 64)) = false := by
  unfold clOk at h
  rw [decide_eq_true he, Bool.true_and] at h
  cases hd : (decide ((1 : Int) ≤ (A.length : Int)) && decide ((A.length : Int) ≤ 64))
  · rfl
  · simp only [Bool.and_eq_true, decide_eq_true_eq] at hd
    simp only [Bool.and_eq_false_iff, decide_eq_false_iff_not] at h
    omega
theorem clOk_yes {A B : List Nat} (h : clOk A B = true) : A.length = B.length ∧ 1 ≤ A.length ∧ A.length ≤ 64 ∧ (decide ((1 : Int) ≤ (A.length : Int)) && decide ((A.length : Int) ≤ 64)) = true := by
  unfold clOk at h
  simp only [Bool.and_eq_true, decide_eq_true_eq] at h
  refine ⟨h.1, h.2.1, h.2.2, ?_⟩
  simp only [Bool.and_eq_true, decide_eq_true_eq]
  omega

set_option maxRecDepth 100000 in
set_option maxHeartbeats 1600000 in
theorem specCl (A B : List Nat) : Lists2F 17 A B (clList A B) (clCode A B) := by
  intro hA hB u v w hO1 hO2
  obtain ⟨a1, p1, rfl, hC1⟩ := hO1.came
  obtain ⟨a2, p2, rfl, hC2⟩ := hO2.came
  have HC1 := Lib.hid hC1
  have HC2 := Lib.hid hC2
  clear hO1 hO2 hC1 hC2
  cases fA : A.all fin
  · have HF : Hid (Calls Try.prog 45 #[.slice a1 A.length p1] w fun e w' => e = .returned (.bool false) ∧ ∃ d, w' = w.drewN d) := Lib.hid (by rw [← fA]; exact l10Fine_any a1 A.length p1 A w HC1.out hA)
    have HAN : Hid (clCode A B = 1 ∧ clList A B = []) := Lib.hid ⟨by unfold clCode; rw [if_pos fA], by unfold clList; rw [if_pos fA]⟩
    rw [HAN.out.1, HAN.out.2]
    clear fA HC1 HC2 hA hB
    generalize A.length = n at *
    generalize B.length = m at *
    go_enter Try.func17, Try.ntmps17
    go_wp2_with fail
    refine HF.out.mono ?_
    rintro e w1 ⟨rfl, d, rfl⟩
    go_wp2_with fail
    go_ret2
    exact ⟨_, rfl, OwnF.zero _ _, below_drewN (Below.refl _ _) d⟩
  · have HF : Hid (Calls Try.prog 45 #[.slice a1 A.length p1] w fun e w' => e = .returned (.bool true) ∧ ∃ d, w' = w.drewN d) := Lib.hid (by rw [← fA]; exact l10Fine_any a1 A.length p1 A w HC1.out hA)
    cases fB : B.all fin
    · have HG : Hid (∀ z, CameF a2 B.length B z → Calls Try.prog 45 #[.slice a2 B.length p2] z fun e w' => e = .returned (.bool false) ∧ ∃ d, w' = z.drewN d) := Lib.hid (fun z hz => by rw [← fB]; exact l10Fine_any a2 B.length p2 B z hz hB)
      have HAN : Hid (clCode A B = 1 ∧ clList A B = []) := Lib.hid ⟨by unfold clCode; rw [if_neg (by rw [fA]; decide), if_pos fB], by unfold clList; rw [if_neg (by rw [fA]; decide), if_pos fB]⟩
      rw [HAN.out.1, HAN.out.2]
      clear fA fB HC1 hA hB
      generalize A.length = n at *
      generalize B.length = m at *
      go_enter Try.func17, Try.ntmps17
      go_wp2_with fail
      refine HF.out.mono ?_
      rintro e w1 ⟨rfl, d, rfl⟩
      have B1 : Hid (Below w.heap.size w (w.drewN d)) := Lib.hid (below_drewN (Below.refl _ _) d)
      have HC := Lib.hid (HC2.out.below B1.out (Nat.le_refl _))
      generalize w.drewN d = w1 at *
      go_wp2_with fail
      refine (HG.out _ HC.out).mono ?_
      rintro e w2 ⟨rfl, d2, rfl⟩
      go_wp2_with fail
      go_ret2
      exact ⟨_, rfl, OwnF.zero _ _, below_drewN B1.out d2⟩
    · have HG : Hid (∀ z, CameF a2 B.length B z → Calls Try.prog 45 #[.slice a2 B.length p2] z fun e w' => e = .returned (.bool true) ∧ ∃ d, w' = z.drewN d) := Lib.hid (fun z hz => by rw [← fB]; exact l10Fine_any a2 B.length p2 B z hz hB)
      cases hk : clOk A B
      · have HAN : Hid (clCode A B = 2 ∧ clList A B = []) := Lib.hid ⟨by unfold clCode; rw [if_neg (by rw [fA]; decide), if_neg (by rw [fB]; decide), if_pos hk], by unfold clList; rw [if_neg (by rw [fA]; decide), if_neg (by rw [fB]; decide), if_pos hk]⟩
        rw [HAN.out.1, HAN.out.2]
        by_cases he : A.length = B.length
        · have HI : Hid (∀ z, Calls Try.prog 46 #[.int .i64 (A.length : Int), .int .i64 1, .int .i64 64] z fun e w' => e = .returned (.bool false) ∧ z = w') := Lib.hid (fun z => by rw [← clOk_no hk he]; exact l01In_of _ 1 64 z)
          rw [← he] at HG HC2 ⊢
          have hnn : ((A.length : Int) != (A.length : Int)) = false := by simp
          clear fA fB HC1 hA hB hk he HAN
          generalize A.length = n at *
          go_enter Try.func17, Try.ntmps17
          go_wp2_with fail
          refine HF.out.mono ?_
          rintro e w1 ⟨rfl, d, rfl⟩
          have B1 : Hid (Below w.heap.size w (w.drewN d)) := Lib.hid (below_drewN (Below.refl _ _) d)
          have HC := Lib.hid (HC2.out.below B1.out (Nat.le_refl _))
          generalize w.drewN d = w1 at *
          go_wp2_with fail
          refine (HG.out _ HC.out).mono ?_
          rintro e w2 ⟨rfl, d2, rfl⟩
          have B2 : Hid (Below w.heap.size w (w1.drewN d2)) := Lib.hid (below_drewN B1.out d2)
          generalize w1.drewN d2 = w2 at *
          go_wp2_with fail
          refine (HI.out _).mono ?_
          rintro e w3 ⟨rfl, rfl⟩
          go_wp2_with fail
          go_ret2
          exact ⟨_, rfl, OwnF.zero _ _, B2.out⟩
        · have hnn : ((A.length : Int) != (B.length : Int)) = true := by simp; omega
          clear fA fB HC1 hA hB hk he HAN
          generalize A.length = n at *
          generalize B.length = m at *
          go_enter Try.func17, Try.ntmps17
          go_wp2_with fail
          refine HF.out.mono ?_
          rintro e w1 ⟨rfl, d, rfl⟩
          have B1 : Hid (Below w.heap.size w (w.drewN d)) := Lib.hid (below_drewN (Below.refl _ _) d)
          have HC := Lib.hid (HC2.out.below B1.out (Nat.le_refl _))
          generalize w.drewN d = w1 at *
          go_wp2_with fail
          refine (HG.out _ HC.out).mono ?_
          rintro e w2 ⟨rfl, d2, rfl⟩
          go_wp2_with fail
          go_ret2
          exact ⟨_, rfl, OwnF.zero _ _, below_drewN B1.out d2⟩
      · have HAN : Hid (clCode A B = ansC (cor A B) ∧ clList A B = ansL (cor A B)) := Lib.hid ⟨by unfold clCode; rw [if_neg (by rw [fA]; decide), if_neg (by rw [fB]; decide), if_neg (by rw [hk]; decide)], by unfold clList; rw [if_neg (by rw [fA]; decide), if_neg (by rw [fB]; decide), if_neg (by rw [hk]; decide)]⟩
        rw [HAN.out.1, HAN.out.2]
        obtain ⟨he, g1, g2, g3⟩ := clOk_yes hk
        have HI : Hid (∀ z, Calls Try.prog 46 #[.int .i64 (A.length : Int), .int .i64 1, .int .i64 64] z fun e w' => e = .returned (.bool true) ∧ z = w') := Lib.hid (fun z => by rw [← g3]; exact l01In_of _ 1 64 z)
        rw [← he] at HG HC2 ⊢
        have HCO := Lib.hid (fun z h1 h2 => l10Cor_any a1 a2 A.length p1 p2 A B z h1 h2 g1 g2 fA fB)
        have hnn : ((A.length : Int) != (A.length : Int)) = false := by simp
        clear fA fB hA hB hk he HAN g1 g2 g3
        generalize ansC (cor A B) = cc at *
        generalize ansL (cor A B) = cl at *
        generalize A.length = n at *
        go_enter Try.func17, Try.ntmps17
        go_wp2_with fail
        refine HF.out.mono ?_
        rintro e w1 ⟨rfl, d, rfl⟩
        have B1 : Hid (Below w.heap.size w (w.drewN d)) := Lib.hid (below_drewN (Below.refl _ _) d)
        have HC := Lib.hid (HC2.out.below B1.out (Nat.le_refl _))
        generalize w.drewN d = w1 at *
        go_wp2_with fail
        refine (HG.out _ HC.out).mono ?_
        rintro e w2 ⟨rfl, d2, rfl⟩
        have B2 : Hid (Below w.heap.size w (w1.drewN d2)) := Lib.hid (below_drewN B1.out d2)
        generalize w1.drewN d2 = w2 at *
        go_wp2_with fail
        refine (HI.out _).mono ?_
        rintro e w3 ⟨rfl, rfl⟩
        go_wp2_with fail
        refine (HCO.out _ (HC1.out.below B2.out (Nat.le_refl _)) (HC2.out.below B2.out (Nat.le_refl _))).mono ?_
        rintro e w3 ⟨r, rfl, o, k⟩
        have O3 := Lib.hid (o.mono B2.out.size)
        have B3 : Hid (Below w.heap.size w w3) := Lib.hid (B2.out.trans (k.mono B2.out.size))
        obtain ⟨ad, cp, e0, _⟩ := o.came
        subst e0
        clear o k
        go_wp2_with fail
        go_ret2
        exact ⟨_, rfl, O3.out, B3.out⟩

end Go.Proofs.Ytclflnpbiiimiaa
