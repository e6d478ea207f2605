/- For all int64 n and k the exact law of FoldedFrequency returns true: the program answers as the model. Condition: none. -/
import Derived.Test.YtjmfffgddmnkmabRows
import Derived.Test.YtjmfffgddmnkmabRun
import Derived.WalkKit
import Derived.ProofKit
import Derived.OpenShut
import Derived.WalkLawsBesides
import Derived.WalkSpells
import Derived.Outline
import Derived.Lib.Hide
namespace Go.Proofs.Ytjmfffgddmnkmab.fnExactFoldedFrequency
open Go.ChangeShapes Go.WideShapes Go.ChangeAt Go.RowKit
set_option linter.unusedVariables false

/-- a side -/
def side (n : Int) : Bool := n == 1 || n == 2 || n == 4 || n == 8

theorem isSide_lo (n : Int) (h : n < 1) (w : World) : Calls Try.prog 65 #[.int .i64 n] w fun e w' => e = .returned (.bool false) ∧ w = w' := by
  have h1 : decide (n ≥ 1) = false := by simp; omega
  go_enter Try.func65, Try.ntmps65
  go_wp2
  go_ret
  exact ⟨rfl, rfl⟩
theorem isSide_hi (n : Int) (h : 8 < n) (w : World) : Calls Try.prog 65 #[.int .i64 n] w fun e w' => e = .returned (.bool false) ∧ w = w' := by
  have h0 : 1 ≤ n := by omega
  have h1 : decide (n ≤ 8) = false := by simp; omega
  go_enter Try.func65, Try.ntmps65
  go_wp2
  go_ret
  exact ⟨rfl, rfl⟩
theorem isSide_mid (n : Nat) (h : n < 8) (w : World) : Calls Try.prog 65 #[.int .i64 (n + 1 : Nat)] w fun e w' => e = .returned (.bool (side (n + 1 : Nat))) ∧ w = w' :=
  match n, h with
  | 0, _ => calls_of (fun _ => false) (known_none _) 99 (fun cs => by kernel_rfl)
  | 1, _ => calls_of (fun _ => false) (known_none _) 99 (fun cs => by kernel_rfl)
  | 2, _ => calls_of (fun _ => false) (known_none _) 99 (fun cs => by kernel_rfl)
  | 3, _ => calls_of (fun _ => false) (known_none _) 99 (fun cs => by kernel_rfl)
  | 4, _ => calls_of (fun _ => false) (known_none _) 99 (fun cs => by kernel_rfl)
  | 5, _ => calls_of (fun _ => false) (known_none _) 99 (fun cs => by kernel_rfl)
  | 6, _ => calls_of (fun _ => false) (known_none _) 99 (fun cs => by kernel_rfl)
  | 7, _ => calls_of (fun _ => false) (known_none _) 99 (fun cs => by kernel_rfl)
  | n + 8, h => absurd h (by omega)
theorem side_not (n : Int) (h : n < 1 ∨ 8 < n) : side n = false := by
  unfold side
  simp only [Bool.or_eq_false_iff, beq_eq_false_iff_ne]
  omega
theorem isSide_any (n : Int) (w : World) : Calls Try.prog 65 #[.int .i64 n] w fun e w' => e = .returned (.bool (side n)) ∧ w = w' := by
  rcases Int.lt_or_le n 1 with h | h
  · rw [side_not n (.inl h)]; exact isSide_lo n h w
  · rcases Int.lt_or_le 8 n with h' | h'
    · rw [side_not n (.inr h')]; exact isSide_hi n h' w
    · obtain ⟨k, rfl⟩ : ∃ k : Nat, n = (k + 1 : Nat) := ⟨(n - 1).toNat, by omega⟩
      exact isSide_mid k (by omega) w
theorem l01Side_no (n : Int) (h : side n = false) (w : World) : Calls Try.prog 62 #[.int .i64 n] w fun e w' => e = .returned (.bool false) ∧ w = w' := by
  unfold side at h
  simp only [Bool.or_eq_false_iff] at h
  obtain ⟨⟨⟨h1, h2⟩, h3⟩, h4⟩ := h
  go_enter Try.func62, Try.ntmps62
  go_wp2
  go_ret
  exact ⟨rfl, rfl⟩
theorem side_yes (n : Int) (h : side n = true) : n = 1 ∨ n = 2 ∨ n = 4 ∨ n = 8 := by
  unfold side at h
  simp only [Bool.or_eq_true, beq_iff_eq] at h
  omega

theorem own : ownKnob Try.prog.godebug = none := by kernel_rfl

def Tup (v c : Int) : Value := .tuple #[.int .i64 v, .int .i64 c]

theorem impl_no (n k : Int) (h : side n = false) (w : World) : Calls Try.prog 12 #[.int .i64 n, .int .i64 k] w fun e w' => e = .returned (Tup 0 2) ∧ w = w' := by
  have HS := Lib.hid (isSide_any n)
  rw [h] at HS
  clear h
  go_enter Try.func12, Try.ntmps12
  go_wp2_with (go_at_call 65; refine (HS.out _).mono ?_; rintro e w' ⟨rfl, rfl⟩)
  go_ret2
  exact ⟨rfl, rfl⟩
theorem spec_no (n k : Int) (h : side n = false) (w : World) : Calls Try.prog 11 #[.int .i64 n, .int .i64 k] w fun e w' => e = .returned (Tup 0 2) ∧ w = w' := by
  have HT := Lib.hid (l01Side_no n h)
  clear h
  go_enter Try.func11, Try.ntmps11
  go_wp2_with (go_at_call 62; refine (HT.out _).mono ?_; rintro e w' ⟨rfl, rfl⟩)
  go_ret2
  exact ⟨rfl, rfl⟩
theorem impl_lo (n k : Int) (h : side n = true) (hk : k < 0) (w : World) : Calls Try.prog 12 #[.int .i64 n, .int .i64 k] w fun e w' => e = .returned (Tup 0 2) ∧ w = w' := by
  have HS := Lib.hid (isSide_any n)
  rw [h] at HS
  have hd : decide (k < 0) = true := by simp; omega
  clear h
  go_enter Try.func12, Try.ntmps12
  go_wp2_with (go_at_call 65; refine (HS.out _).mono ?_; rintro e w' ⟨rfl, rfl⟩)
  go_ret2
  exact ⟨rfl, rfl⟩
theorem impl_hi (n k : Int) (h : side n = true) (h0 : 0 ≤ k) (hk : n ≤ k) (w : World) : Calls Try.prog 12 #[.int .i64 n, .int .i64 k] w fun e w' => e = .returned (Tup 0 2) ∧ w = w' := by
  have HS := Lib.hid (isSide_any n)
  rw [h] at HS
  have hd : decide (k < 0) = false := by simp; omega
  have hd' : decide (k ≥ n) = true := by simp; omega
  clear h
  go_enter Try.func12, Try.ntmps12
  go_wp2_with (go_at_call 65; refine (HS.out _).mono ?_; rintro e w' ⟨rfl, rfl⟩)
  go_ret2
  exact ⟨rfl, rfl⟩
theorem l01Side_yes (n : Int) (h : side n = true) (w : World) : Calls Try.prog 62 #[.int .i64 n] w fun e w' => e = .returned (.bool true) ∧ w = w' := by
  rcases side_yes n h with rfl | rfl | rfl | rfl
  · exact calls_of (fun _ => false) (known_none _) 99 (fun cs => by kernel_rfl)
  · exact calls_of (fun _ => false) (known_none _) 99 (fun cs => by kernel_rfl)
  · exact calls_of (fun _ => false) (known_none _) 99 (fun cs => by kernel_rfl)
  · exact calls_of (fun _ => false) (known_none _) 99 (fun cs => by kernel_rfl)
theorem in_lo (k b : Int) (hk : k < 0) (w : World) : Calls Try.prog 63 #[.int .i64 k, .int .i64 0, .int .i64 b] w fun e w' => e = .returned (.bool false) ∧ w = w' := by
  have hd : decide (k ≥ 0) = false := by simp; omega
  go_enter Try.func63, Try.ntmps63
  go_wp2
  go_ret
  exact ⟨rfl, rfl⟩
theorem in_hi (k b : Int) (h0 : 0 ≤ k) (hk : b < k) (w : World) : Calls Try.prog 63 #[.int .i64 k, .int .i64 0, .int .i64 b] w fun e w' => e = .returned (.bool false) ∧ w = w' := by
  have hd : decide (k ≥ 0) = true := by simp; omega
  have hd' : decide (k ≤ b) = false := by simp; omega
  go_enter Try.func63, Try.ntmps63
  go_wp2
  go_ret
  exact ⟨rfl, rfl⟩
theorem spec_out (n k : Int) (h : side n = true) (hk : k < 0 ∨ n ≤ k) (w : World) : Calls Try.prog 11 #[.int .i64 n, .int .i64 k] w fun e w' => e = .returned (Tup 0 2) ∧ w = w' := by
  have hw : IntKind.i64.wrap (n - 1) = n - 1 := IntWalk.i64_in _ (by rcases side_yes n h with rfl | rfl | rfl | rfl <;> omega)
  have HT := Lib.hid (l01Side_yes n h)
  have HI : Hid (∀ w, Calls Try.prog 63 #[.int .i64 k, .int .i64 0, .int .i64 (n - 1)] w fun e w' => e = .returned (.bool false) ∧ w = w') := Lib.hid fun w => by
    by_cases h0 : k < 0
    · exact in_lo k _ h0 w
    · exact in_hi k _ (by omega) (by omega) w
  clear h hk
  go_enter Try.func11, Try.ntmps11
  go_wp2_with (first | (go_at_call 62; refine (HT.out _).mono ?_; rintro e w' ⟨rfl, rfl⟩) | (go_at_call 63; refine (HI.out _).mono ?_; rintro e w' ⟨rfl, rfl⟩))
  go_ret2
  exact ⟨rfl, rfl⟩

/-- both answer with the code of a range -/
theorem law_out (n k : Int) (h : ∀ w, Calls Try.prog 12 #[.int .i64 n, .int .i64 k] w fun e w' => e = .returned (Tup 0 2) ∧ w = w')
    (h' : ∀ w, Calls Try.prog 11 #[.int .i64 n, .int .i64 k] w fun e w' => e = .returned (Tup 0 2) ∧ w = w') (w : World) :
    Calls Try.prog 3 #[.int .i64 n, .int .i64 k] w fun e w' => e = .returned (.bool true) ∧ w = w' := by
  have H := Lib.hid h
  have H' := Lib.hid h'
  clear h h'
  go_enter Try.func3, Try.ntmps3
  go_wp2_with (first | (go_at_call 11; refine (H'.out _).mono ?_; rintro e w' ⟨rfl, rfl⟩; unfold Tup) | (go_at_call 12; refine (H.out _).mono ?_; rintro e w' ⟨rfl, rfl⟩; unfold Tup))
  go_ret
  exact ⟨rfl, rfl⟩

theorem walk (a0 a1 : Int) (w : World) : Calls Try.prog 3 #[.int .i64 a0, .int .i64 a1] w fun e w' => e = .returned (.bool true) ∧ Below w.heap.size w w' := by
  have key : Calls Try.prog 3 #[.int .i64 a0, .int .i64 a1] w fun e w' => e = .returned (.bool true) ∧ w = w' := by
    cases h : side a0
    · exact law_out a0 a1 (impl_no a0 a1 h) (spec_no a0 a1 h) w
    · by_cases h0 : a1 < 0
      · exact law_out a0 a1 (impl_lo a0 a1 h h0) (spec_out a0 a1 h (.inl h0)) w
      · by_cases h1 : a0 ≤ a1
        · exact law_out a0 a1 (impl_hi a0 a1 h (by omega) h1) (spec_out a0 a1 h (.inr h1)) w
        · obtain ⟨k, rfl⟩ : ∃ k : Nat, a1 = k := ⟨a1.toNat, by omega⟩
          have hc : k < 8 := by rcases side_yes a0 h with rfl | rfl | rfl | rfl <;> omega
          rcases side_yes a0 h with rfl | rfl | rfl | rfl
          · obtain rfl : k = 0 := by omega
            exact calls_of (fun _ => false) (known_none _) 999 (fun cs => by kernel_rfl)
          · exact match k, (show k < 2 by omega) with
            | 0, _ => calls_of (fun _ => false) (known_none _) 999 (fun cs => by kernel_rfl)
            | 1, _ => calls_of (fun _ => false) (known_none _) 999 (fun cs => by kernel_rfl)
            | k + 2, h => absurd h (by omega)
          · exact match k, (show k < 4 by omega) with
            | 0, _ => calls_of (fun _ => false) (known_none _) 999 (fun cs => by kernel_rfl)
            | 1, _ => calls_of (fun _ => false) (known_none _) 999 (fun cs => by kernel_rfl)
            | 2, _ => calls_of (fun _ => false) (known_none _) 999 (fun cs => by kernel_rfl)
            | 3, _ => calls_of (fun _ => false) (known_none _) 999 (fun cs => by kernel_rfl)
            | k + 4, h => absurd h (by omega)
          · exact match k, (show k < 8 by omega) with
            | 0, _ => calls_of (fun _ => false) (known_none _) 999 (fun cs => by kernel_rfl)
            | 1, _ => calls_of (fun _ => false) (known_none _) 999 (fun cs => by kernel_rfl)
            | 2, _ => calls_of (fun _ => false) (known_none _) 999 (fun cs => by kernel_rfl)
            | 3, _ => calls_of (fun _ => false) (known_none _) 999 (fun cs => by kernel_rfl)
            | 4, _ => calls_of (fun _ => false) (known_none _) 999 (fun cs => by kernel_rfl)
            | 5, _ => calls_of (fun _ => false) (known_none _) 999 (fun cs => by kernel_rfl)
            | 6, _ => calls_of (fun _ => false) (known_none _) 999 (fun cs => by kernel_rfl)
            | 7, _ => calls_of (fun _ => false) (known_none _) 999 (fun cs => by kernel_rfl)
            | k + 8, h => absurd h (by omega)
  exact key.mono fun e w' ⟨he, hw⟩ => ⟨he, hw ▸ Below.refl _ _⟩

/-! ### THE ROW's STEP: WRITTEN OUT: LEAVE IT -/
set_option maxRecDepth 100000 in
theorem lifted (os : Os) (started : os.Started) (H : Type) (enc : TypeId × Value → H) :
    ReturnsInHanded {} Try.checked os 3 .any (Rows.fnExactFoldedFrequencySpec.pre6 enc Try.prog Try.f3 Rows.fnExactFoldedFrequencyRow.domain false) (Rows.fnExactFoldedFrequencySpec.post enc Try.prog Try.f3 false true false false) := by
  refine returnsInHanded_of_change (C := Try.checked) own started (by kernel_rfl) Try.func3
    (ChangeSpec.witness6 (enc := enc) (C := Try.checked) false ⟨#[], #[.int .i64 0, .int .i64 0], []⟩ 8 (by kernel_rfl) (by kernel_rfl) (by kernel_rfl) (by kernel_rfl)) ?_
  intro W base args ds gs before hval0 hW hcnd _
  have hval : ∀ (j : Nat) t v, Try.f3.params[j]? = some t → args[j]? = some v → Value.okWide Try.prog W .any base t v := hval0
  have hW' := hW
  obtain ⟨p, q, hA0, hV, rfl, hfz, hnd⟩ := hW
  have hA : DataW.TrodAll enc Try.prog W 0 (fun _ => true) true Try.f3.params.toList args.toList ds p := hA0
  rw [Try.params3] at hA hval
  obtain ⟨v0, vs0, d0, ds0, p0, q0, hargs, rfl, rfl, h0, r0⟩ := trodAll_cons hA
  obtain ⟨v1, vs1, d1, ds1, p1, q1, rfl, rfl, rfl, h1, r1⟩ := trodAll_cons r0
  obtain ⟨rfl, rfl, rfl⟩ := trodAll_nil r1
  obtain rfl : args = #[v0, v1] := by cases args; simp_all
  obtain ⟨rfl, rfl⟩ := trodVars_none hV
  obtain ⟨a0, rfl, rfl, rfl, w0⟩ := open_int Try.underlying2 (hval 0 2 v0 rfl rfl) h0
  obtain ⟨a1, rfl, rfl, rfl, w1⟩ := open_int Try.underlying2 (hval 1 2 v1 rfl rfl) h1
  clear hA0 hval0
  refine (walk a0 a1 W).mono fun e W' ⟨he, bel⟩ => ?_
  subst he
  exact ⟨_, rfl, _, _, _, [], _, [], hW', trodAll_mk1 (shut_bool Try.underlying4 _), (trodAll_cons_mk (shut_int Try.underlying2 w0) (trodAll_cons_mk (shut_int Try.underlying2 w1) trodAll_mk0)), rfl, bel.frame _, fun h => by cases h⟩

theorem over : Rows.fnExactFoldedFrequencyRow.holds Try.pinned (OpenSpec.ofChange Rows.fnExactFoldedFrequencySpec) :=
  OpenClaim.holds_of_wide 3 Try.f3 rfl rfl rfl rfl rfl rfl rfl ⟨rfl, rfl, rfl, rfl, rfl⟩ rfl rfl rfl rfl rfl (by kernel_rfl) Try.func3 (by kernel_rfl)
    (of_decide_eq_true (by kernel_rfl)) (by unfold Func.isWrapper; first | (rw [if_pos (by decide +kernel)]; kernel_rfl) | (rw [if_neg (by decide +kernel)]; exact ⟨rfl, rfl⟩))
    (fun os started H enc _ => lifted os started H enc)

/-- ████ THE STATEMENT ████ -/
theorem proved : Rows.FnExactFoldedFrequencySaid :=
  over
#print axioms proved
end Go.Proofs.Ytjmfffgddmnkmab.fnExactFoldedFrequency
