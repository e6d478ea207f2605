/- The model's IsBalanced: the answer and the code. Condition: as many numbers as a law lets in. -/
import Derived.Test.YtclflnpbiiimiaaKk
namespace Go.Proofs.Ytclflnpbiiimiaa
open Go Go.RowKit Ieee

/-- is a number 1 or -1 -/
def pmOne (x : Nat) : Bool := (FloatKind.f32.format.order x plusOne == some .eq) || (FloatKind.f32.format.order x minusOne == some .eq)
/-- is a list's number the same from the second on -/
def sameTo (R : List Nat) (n : Nat) : Bool := (List.range n).all (fun k => decide (k < 2) || (FloatKind.f32.format.order (R.getD k 0) (R.getD 1 0) == some .eq))
theorem same_succ (R : List Nat) (n : Nat) : sameTo R (n + 1) = (sameTo R n && (decide (n < 2) || (FloatKind.f32.format.order (R.getD n 0) (R.getD 1 0) == some .eq))) := by
  unfold sameTo
  rw [List.range_succ, List.all_append]
  simp
theorem same_two (R : List Nat) : sameTo R 2 = true := rfl
def ibOk (A : List Nat) : Bool := decide (1 ≤ A.length) && decide (A.length ≤ 64)
def ibCode (A : List Nat) : Int := if A.all fin = false then 1 else if ibOk A = false then 2 else if A.all pmOne = false then 0 else ansC (cor A A)
def ibAns (A : List Nat) : Bool := A.all fin && ibOk A && A.all pmOne && sameTo (ansL (cor A A)) (ansL (cor A A)).length
/-- what is asked of a function that answers whether, and a code -/
def BoolF (f : FuncId) (A : List Nat) (b : Bool) (c : Int) : Prop :=
  A.length ≤ 1048576 → ∀ v w, OwnF 0 v A w → Calls Try.prog f #[v] w fun e w' => e = .returned (.tuple #[.bool b, .int .i64 c]) ∧ Below w.heap.size w w'
theorem same_small (R : List Nat) (n : Nat) (h : n ≤ 2) : sameTo R n = true := by
  unfold sameTo
  rw [List.all_eq_true]
  intro k hk
  have : k < n := List.mem_range.1 hk
  simp
  omega
theorem same_stop (R : List Nat) (k n : Nat) (hk : k < n) (h2 : 2 ≤ k) (h : (FloatKind.f32.format.order (R.getD k 0) (R.getD 1 0) == some .eq) = false) : sameTo R n = false := by
  unfold sameTo
  rw [List.all_eq_false]
  refine ⟨k, List.mem_range.2 hk, ?_⟩
  rw [h, decide_eq_false (by omega)]
  decide
theorem neq_of (x y : Nat) : (FloatKind.f32.format.order x y != some .eq) = !(FloatKind.f32.format.order x y == some .eq) := rfl

set_option maxRecDepth 100000 in
set_option maxHeartbeats 1600000 in
theorem specIb_nan (A : List Nat) (fA : A.all fin = false) : BoolF 20 A (ibAns A) (ibCode A) := by
  intro hA v w hO
  obtain ⟨a, cap, rfl, hC⟩ := hO.came
  have HC := Lib.hid hC
  clear hO
  have HF : Hid (Calls Try.prog 45 #[.slice a A.length cap] w fun e w' => e = .returned (.bool false) ∧ ∃ d, w' = w.drewN d) := Lib.hid (by rw [← fA]; exact l10Fine_any a A.length cap A w hC hA)
  have HE : Hid (ibAns A = false ∧ ibCode A = 1) := Lib.hid ⟨by unfold ibAns; rw [fA]; rfl, by unfold ibCode; rw [if_pos fA]⟩
  rw [HE.out.1, HE.out.2]
  clear fA hC HC hA HE
  generalize A.length = n at *
  go_enter Try.func20, Try.ntmps20
  go_wp2_with fail
  refine HF.out.mono ?_
  rintro e w1 ⟨rfl, d, rfl⟩
  go_wp2_with fail
  go_ret2
  exact ⟨rfl, below_drewN (Below.refl _ _) d⟩

set_option maxRecDepth 100000 in
set_option maxHeartbeats 1600000 in
theorem specIb_len (A : List Nat) (fA : A.all fin = true) (hk : ibOk A = false) : BoolF 20 A (ibAns A) (ibCode A) := by
  intro hA v w hO
  obtain ⟨a, cap, rfl, hC⟩ := hO.came
  have HC := Lib.hid hC
  clear hO
  have HF : Hid (Calls Try.prog 45 #[.slice a A.length cap] w fun e w' => e = .returned (.bool true) ∧ ∃ d, w' = w.drewN d) := Lib.hid (by rw [← fA]; exact l10Fine_any a A.length cap A w hC hA)
  have hbb : ibOk A = (decide ((1 : Int) ≤ (A.length : Int)) && decide ((A.length : Int) ≤ 64)) := by
    unfold ibOk
    rw [Bool.eq_iff_iff]
    simp only [Bool.and_eq_true, decide_eq_true_eq]
    omega
  have HI : Hid (∀ z, Calls Try.prog 46 #[.int .i64 (A.length : Int), .int .i64 1, .int .i64 64] z fun e w' => e = .returned (.bool false) ∧ z = w') := Lib.hid (fun z => by rw [← hk, hbb]; exact l01In_of _ 1 64 z)
  have HE : Hid (ibAns A = false ∧ ibCode A = 2) := Lib.hid ⟨by unfold ibAns; rw [fA, hk]; rfl, by unfold ibCode; rw [if_neg (by rw [fA]; decide), if_pos hk]⟩
  rw [HE.out.1, HE.out.2]
  clear fA hC HC hA HE hk hbb
  generalize A.length = n at *
  go_enter Try.func20, Try.ntmps20
  go_wp2_with fail
  refine HF.out.mono ?_
  rintro e w1 ⟨rfl, d, rfl⟩
  go_wp2_with fail
  refine (HI.out _).mono ?_
  rintro e w3 ⟨rfl, rfl⟩
  go_wp2_with fail
  go_ret2
  exact ⟨rfl, below_drewN (Below.refl _ _) d⟩

set_option maxRecDepth 100000 in
set_option maxHeartbeats 1600000 in
theorem specIb_no (A : List Nat) (fA : A.all fin = true) (hk : ibOk A = true) (hpm : A.all pmOne = false) : BoolF 20 A (ibAns A) (ibCode A) := by
  intro hA v w hO
  obtain ⟨a, cap, rfl, hC⟩ := hO.came
  have HC := Lib.hid hC
  clear hO
  have HF : Hid (Calls Try.prog 45 #[.slice a A.length cap] w fun e w' => e = .returned (.bool true) ∧ ∃ d, w' = w.drewN d) := Lib.hid (by rw [← fA]; exact l10Fine_any a A.length cap A w hC hA)
  have hbb : ibOk A = (decide ((1 : Int) ≤ (A.length : Int)) && decide ((A.length : Int) ≤ 64)) := by
    unfold ibOk
    rw [Bool.eq_iff_iff]
    simp only [Bool.and_eq_true, decide_eq_true_eq]
    omega
  have HI : Hid (∀ z, Calls Try.prog 46 #[.int .i64 (A.length : Int), .int .i64 1, .int .i64 64] z fun e w' => e = .returned (.bool true) ∧ z = w') := Lib.hid (fun z => by rw [← hk, hbb]; exact l01In_of _ 1 64 z)
  have hn : 1 ≤ A.length ∧ A.length ≤ 64 := by
    have := hk
    unfold ibOk at this
    simp only [Bool.and_eq_true, decide_eq_true_eq] at this
    exact this
  have HNO : Hid (ibAns A = false ∧ ibCode A = 0) := Lib.hid ⟨by unfold ibAns; rw [fA, hk, hpm]; rfl, by unfold ibCode; rw [if_neg (by rw [fA]; decide), if_neg (by rw [hk]; decide), if_pos hpm]⟩
  have HPM := Lib.hid hpm
  have HNN := Lib.hid hn
  have hn64 := hn.2
  have HLE : Hid (∃ n, n = A.length) := Lib.hid ⟨_, rfl⟩
  obtain ⟨n, hnl⟩ := HLE.out
  clear hC fA hA hk hbb hn HLE hpm
  rw [← hnl] at HC HF HI HNN hn64 ⊢
  have HL := Lib.hid hnl
  clear hnl
  generalize ibAns A = ans at *
  generalize ibCode A = code at *
  go_enter Try.func20, Try.ntmps20
  go_wp2_with fail
  refine HF.out.mono ?_
  rintro e w1 ⟨rfl, d, rfl⟩
  have B1 : Hid (Below w.heap.size w (w.drewN d)) := Lib.hid (below_drewN (Below.refl _ _) d)
  generalize w.drewN d = w1 at *
  go_wp2_with fail
  refine (HI.out _).mono ?_
  rintro e w3 ⟨rfl, rfl⟩
  have HC1 := Lib.hid (HC.out.below B1.out (Nat.le_refl _))
  go_wp2_with fail
  go_loopw [4] (fun i wr => ∃ k : Nat, k ≤ n ∧ i = .int .i64 k ∧ Hid (∀ j, j < k → pmOne (A.getD j 0) = true) ∧ wr = w1) (fun i _ => n - (intOf i).toNat)
  case atStart => exact ⟨0, by omega, rfl, Lib.hid (fun j hj => by omega), rfl⟩
  case round =>
    obtain ⟨k, hkk, rfl, HP, hw0⟩ := hrel
    obtain rfl := hw0
    by_cases hlt : k < n
    · have hdk : decide ((k : Int) < (n : Int)) = true := by simp; omega
      obtain ⟨b1, o1, rfl, hb1, hc1⟩ := HC1.out.2 (by omega)
      have p1 := hc1 k hlt
      clear hb1 hc1
      obtain ⟨x, hx⟩ : ∃ x, x = A.getD k 0 := ⟨_, rfl⟩
      rw [← hx] at p1
      have HX := Lib.hid hx
      clear hx
      cases h1 : (FloatKind.f32.format.order x 1065353216 == some .eq)
      · have n1 : (FloatKind.f32.format.order x 1065353216 != some .eq) = true := by rw [neq_of, h1]; rfl
        cases h2 : (FloatKind.f32.format.order x 3212836864 == some .eq)
        · have n2 : (FloatKind.f32.format.order x 3212836864 != some .eq) = true := by rw [neq_of, h2]; rfl
          have HE := HNO
          clear h1 h2
          go_wp2_with fail
          go_ret2
          rw [HE.out.1, HE.out.2]
          exact ⟨rfl, B1.out⟩
        · have n2 : (FloatKind.f32.format.order x 3212836864 != some .eq) = false := by rw [neq_of, h2]; rfl
          have HP2 : Hid (∀ j, j < k + 1 → pmOne (A.getD j 0) = true) := Lib.hid (fun j hj => by
            rcases Nat.lt_or_ge j k with h | h
            · exact HP.out j h
            · obtain rfl : j = k := by omega
              rw [← HX.out]; unfold pmOne plusOne minusOne; rw [h2, Bool.or_true])
          clear h1 h2
          go_wp2_with fail
          exact ⟨⟨k + 1, by omega, by go_num, HP2, by trivial⟩, by simp [intOf]; omega⟩
      · have n1 : (FloatKind.f32.format.order x 1065353216 != some .eq) = false := by rw [neq_of, h1]; rfl
        have HP2 : Hid (∀ j, j < k + 1 → pmOne (A.getD j 0) = true) := Lib.hid (fun j hj => by
          rcases Nat.lt_or_ge j k with h | h
          · exact HP.out j h
          · obtain rfl : j = k := by omega
            rw [← HX.out]; unfold pmOne plusOne minusOne; rw [h1, Bool.true_or])
        clear h1
        go_wp2_with fail
        exact ⟨⟨k + 1, by omega, by go_num, HP2, by trivial⟩, by simp [intOf]; omega⟩
    · obtain rfl : k = n := by omega
      have := all_yes (f := pmOne) (L := A) (fun i hi => HP.out i (by rw [HL.out]; exact hi))
      rw [HPM.out] at this
      cases this

set_option maxRecDepth 100000 in
set_option maxHeartbeats 1600000 in
theorem specIb_yes (A : List Nat) (fA : A.all fin = true) (hk : ibOk A = true) (hpm : A.all pmOne = true) : BoolF 20 A (ibAns A) (ibCode A) := by
  intro hA v w hO
  obtain ⟨a, cap, rfl, hC⟩ := hO.came
  have HC := Lib.hid hC
  clear hO
  have HF : Hid (Calls Try.prog 45 #[.slice a A.length cap] w fun e w' => e = .returned (.bool true) ∧ ∃ d, w' = w.drewN d) := Lib.hid (by rw [← fA]; exact l10Fine_any a A.length cap A w hC hA)
  have hbb : ibOk A = (decide ((1 : Int) ≤ (A.length : Int)) && decide ((A.length : Int) ≤ 64)) := by
    unfold ibOk
    rw [Bool.eq_iff_iff]
    simp only [Bool.and_eq_true, decide_eq_true_eq]
    omega
  have HI : Hid (∀ z, Calls Try.prog 46 #[.int .i64 (A.length : Int), .int .i64 1, .int .i64 64] z fun e w' => e = .returned (.bool true) ∧ z = w') := Lib.hid (fun z => by rw [← hk, hbb]; exact l01In_of _ 1 64 z)
  have hn : 1 ≤ A.length ∧ A.length ≤ 64 := by
    have := hk
    unfold ibOk at this
    simp only [Bool.and_eq_true, decide_eq_true_eq] at this
    exact this
  have HE : Hid (ibAns A = sameTo (ansL (cor A A)) (ansL (cor A A)).length ∧ ibCode A = ansC (cor A A)) := Lib.hid ⟨by unfold ibAns; rw [fA, hk, hpm]; rfl, by unfold ibCode; rw [if_neg (by rw [fA]; decide), if_neg (by rw [hk]; decide), if_neg (by rw [hpm]; decide)]⟩
  have HPM := Lib.hid (fun i hi => all_at hpm i hi)
  have HCO := Lib.hid (fun z h1 => l10Cor_any a a A.length cap cap A A z h1 h1 hn.1 hn.2 fA fA)
  have HLEN : Hid ((ansL (cor A A)).length ≤ 64) := Lib.hid (by
    unfold ansL
    cases hc : cor A A with
    | none => simp
    | some R =>
      have := rows_len hc
      simp
      omega)
  have HNN := Lib.hid hn
  have hn64 := hn.2
  have HLE : Hid (∃ n, n = A.length) := Lib.hid ⟨_, rfl⟩
  obtain ⟨n, hnl⟩ := HLE.out
  clear hC fA hA hk hbb hn HLE hpm
  rw [← hnl] at HC HF HI HCO HNN HPM hn64 ⊢
  have HL := Lib.hid hnl
  clear hnl
  generalize ibAns A = ans at *
  generalize ibCode A = code at *
  generalize ansC (cor A A) = cc at *
  generalize ansL (cor A A) = R at *
  go_enter Try.func20, Try.ntmps20
  go_wp2_with fail
  refine HF.out.mono ?_
  rintro e w1 ⟨rfl, d, rfl⟩
  have B1 : Hid (Below w.heap.size w (w.drewN d)) := Lib.hid (below_drewN (Below.refl _ _) d)
  generalize w.drewN d = w1 at *
  go_wp2_with fail
  refine (HI.out _).mono ?_
  rintro e w3 ⟨rfl, rfl⟩
  have HC1 := Lib.hid (HC.out.below B1.out (Nat.le_refl _))
  go_wp2_with fail
  go_loopw [4] (fun i wr => ∃ k : Nat, k ≤ n ∧ i = .int .i64 k ∧ wr = w1) (fun i _ => n - (intOf i).toNat)
  case atStart => exact ⟨0, by omega, rfl, rfl⟩
  case round =>
    obtain ⟨k, hkk, rfl, hw0⟩ := hrel
    obtain rfl := hw0
    by_cases hlt : k < n
    · have hdk : decide ((k : Int) < (n : Int)) = true := by simp; omega
      obtain ⟨b1, o1, rfl, hb1, hc1⟩ := HC1.out.2 (by omega)
      have p1 := hc1 k hlt
      clear hb1 hc1
      obtain ⟨x, hx⟩ : ∃ x, x = A.getD k 0 := ⟨_, rfl⟩
      rw [← hx] at p1
      have hpx := HPM.out k hlt
      rw [← hx] at hpx
      clear hx
      unfold pmOne plusOne minusOne at hpx
      cases h1 : (FloatKind.f32.format.order x 1065353216 == some .eq)
      · rw [h1, Bool.false_or] at hpx
        have n1 : (FloatKind.f32.format.order x 1065353216 != some .eq) = true := by rw [neq_of, h1]; rfl
        have n2 : (FloatKind.f32.format.order x 3212836864 != some .eq) = false := by rw [neq_of, hpx]; rfl
        clear h1 hpx
        go_wp2_with fail
        exact ⟨⟨k + 1, by omega, by go_num, by trivial⟩, by simp [intOf]; omega⟩
      · have n1 : (FloatKind.f32.format.order x 1065353216 != some .eq) = false := by rw [neq_of, h1]; rfl
        clear h1 hpx
        go_wp2_with fail
        exact ⟨⟨k + 1, by omega, by go_num, by trivial⟩, by simp [intOf]; omega⟩
    · obtain rfl : k = n := by omega
      go_wp2_with fail
      refine (HCO.out _ HC1.out).mono ?_
      rintro e w3 ⟨r, rfl, o, k3⟩
      have B3 : Hid (Below w.heap.size w w3) := Lib.hid (B1.out.trans (k3.mono B1.out.size))
      obtain ⟨ad, cp, rfl, oc⟩ := o.came
      have OC := Lib.hid oc
      have HRL := HLEN.out
      have HRR := Lib.hid HRL
      generalize hm : R.length = m at *
      have HM := Lib.hid hm
      clear o k3 oc HCO hm HRL
      go_wp2_with fail
      go_loopw [7] (fun i wr => ∃ q : Nat, 2 ≤ q ∧ (q ≤ m ∨ q = 2) ∧ i = .int .i64 q ∧ Hid (sameTo R q = true) ∧ Hid (∃ d, wr = w3.drewN d)) (fun i _ => 100 - (intOf i).toNat)
      case atStart => exact ⟨2, by omega, .inr rfl, rfl, Lib.hid (same_small R 2 (by omega)), Lib.hid ⟨0, rfl⟩⟩
      case round =>
        obtain ⟨q, hq2, hqm, rfl, HS, HW⟩ := hrel
        by_cases hlq : q < m
        · have hdq : decide ((q : Int) < (m : Int)) = true := by simp; omega
          have hm64 := HRR.out
          obtain ⟨b1, o1, rfl, hb1, hc1⟩ := OC.out.2 (by omega)
          have p1 : wr.cell? ⟨b1, o1 + q, none⟩ = some (.float .f32 (R.getD q 0)) := by obtain ⟨d, rfl⟩ := HW.out; rw [World.cell?_drewN]; exact hc1 q hlq
          have p2 : wr.cell? ⟨b1, o1 + 1, none⟩ = some (.float .f32 (R.getD 1 0)) := by obtain ⟨d, rfl⟩ := HW.out; rw [World.cell?_drewN]; exact hc1 1 (by omega)
          clear hb1 hc1
          cases he : (FloatKind.f32.format.order (R.getD q 0) (R.getD 1 0) == some .eq)
          · have HN := Lib.hid (same_stop R q m hlq hq2 he)
            have n1 : (FloatKind.f32.format.order (R.getD q 0) (R.getD 1 0) != some .eq) = true := by rw [neq_of, he]; rfl
            clear he
            generalize R.getD q 0 = x at *
            generalize R.getD 1 0 = y at *
            go_wp2_with fail
            go_quiet (fail)
            have BU : Hid (Below w.heap.size w (wr.drewN nq)) := Lib.hid (by obtain ⟨d, rfl⟩ := HW.out; exact below_drewN (below_drewN B3.out d) nq)
            generalize wr.drewN nq = u at *
            go_wp2_with fail
            go_ret2
            rw [HE.out.1, HE.out.2, HN.out]
            exact ⟨rfl, BU.out⟩
          · have HN : Hid (sameTo R (q + 1) = true) := Lib.hid (by rw [same_succ, HS.out, he, Bool.or_true]; rfl)
            have n1 : (FloatKind.f32.format.order (R.getD q 0) (R.getD 1 0) != some .eq) = false := by rw [neq_of, he]; rfl
            clear he
            generalize R.getD q 0 = x at *
            generalize R.getD 1 0 = y at *
            go_wp2_with fail
            go_quiet (fail)
            have HW2 : Hid (∃ d, wr.drewN nq = w3.drewN d) := Lib.hid (by obtain ⟨d, h⟩ := HW.out; exact ⟨_, by rw [h, World.drewN_drewN]⟩)
            generalize wr.drewN nq = u at *
            go_wp2_with fail
            exact ⟨⟨q + 1, by omega, .inl (by omega), by go_num, HN, HW2⟩, by simp [intOf]; omega⟩
        · have hdq : decide ((q : Int) < (m : Int)) = false := by simp; omega
          have HN : Hid (sameTo R m = true) := Lib.hid (by
            rcases hqm with h | h
            · obtain rfl : q = m := by omega
              exact HS.out
            · exact same_small R m (by omega))
          have BU : Hid (Below w.heap.size w wr) := Lib.hid (by obtain ⟨d, rfl⟩ := HW.out; exact below_drewN B3.out d)
          go_wp2_with fail
          go_ret2
          rw [HE.out.1, HE.out.2, HN.out]
          exact ⟨rfl, BU.out⟩

theorem specIb (A : List Nat) : BoolF 20 A (ibAns A) (ibCode A) := by
  cases fA : A.all fin
  · exact specIb_nan A fA
  · cases hk : ibOk A
    · exact specIb_len A fA hk
    · cases hp : A.all pmOne
      · exact specIb_no A fA hk hp
      · exact specIb_yes A fA hk hp

end Go.Proofs.Ytclflnpbiiimiaa
