/- For every int64 k the exact law of PhaseOf returns true: the program's phase of k is the model's, to the bit, a zero's sign too. Condition: none. -/
import Derived.Test.YtjmfffgddmnkmaaRows
import Derived.WalkKit
import Derived.ProofKit
import Derived.OpenShut
import Derived.Test.YtjmfffgddmnkmaaLawT0
import Derived.Test.YtjmfffgddmnkmaaLawT1
namespace Go.Proofs.Ytjmfffgddmnkmaa.fnExactPhaseOf
open Go.ChangeShapes Go.WideShapes Go.ChangeAt Go.RowKit
set_option linter.unusedVariables false
theorem law_all (w : World) (k : Int) (cs : List Frame) (m : Nat) (hm : m < 64) :
    outM Try.prog (fun _ => false) (fun _ _ => none) 9999 4 (frLaw w k (tre m) (tim m)) cs w = some (.bool true, cs, w, w) := by
  exact match m, hm with
  | 0, _ => law_0 w k cs
  | 1, _ => law_1 w k cs
  | 2, _ => law_2 w k cs
  | 3, _ => law_3 w k cs
  | 4, _ => law_4 w k cs
  | 5, _ => law_5 w k cs
  | 6, _ => law_6 w k cs
  | 7, _ => law_7 w k cs
  | 8, _ => law_8 w k cs
  | 9, _ => law_9 w k cs
  | 10, _ => law_10 w k cs
  | 11, _ => law_11 w k cs
  | 12, _ => law_12 w k cs
  | 13, _ => law_13 w k cs
  | 14, _ => law_14 w k cs
  | 15, _ => law_15 w k cs
  | 16, _ => law_16 w k cs
  | 17, _ => law_17 w k cs
  | 18, _ => law_18 w k cs
  | 19, _ => law_19 w k cs
  | 20, _ => law_20 w k cs
  | 21, _ => law_21 w k cs
  | 22, _ => law_22 w k cs
  | 23, _ => law_23 w k cs
  | 24, _ => law_24 w k cs
  | 25, _ => law_25 w k cs
  | 26, _ => law_26 w k cs
  | 27, _ => law_27 w k cs
  | 28, _ => law_28 w k cs
  | 29, _ => law_29 w k cs
  | 30, _ => law_30 w k cs
  | 31, _ => law_31 w k cs
  | 32, _ => law_32 w k cs
  | 33, _ => law_33 w k cs
  | 34, _ => law_34 w k cs
  | 35, _ => law_35 w k cs
  | 36, _ => law_36 w k cs
  | 37, _ => law_37 w k cs
  | 38, _ => law_38 w k cs
  | 39, _ => law_39 w k cs
  | 40, _ => law_40 w k cs
  | 41, _ => law_41 w k cs
  | 42, _ => law_42 w k cs
  | 43, _ => law_43 w k cs
  | 44, _ => law_44 w k cs
  | 45, _ => law_45 w k cs
  | 46, _ => law_46 w k cs
  | 47, _ => law_47 w k cs
  | 48, _ => law_48 w k cs
  | 49, _ => law_49 w k cs
  | 50, _ => law_50 w k cs
  | 51, _ => law_51 w k cs
  | 52, _ => law_52 w k cs
  | 53, _ => law_53 w k cs
  | 54, _ => law_54 w k cs
  | 55, _ => law_55 w k cs
  | 56, _ => law_56 w k cs
  | 57, _ => law_57 w k cs
  | 58, _ => law_58 w k cs
  | 59, _ => law_59 w k cs
  | 60, _ => law_60 w k cs
  | 61, _ => law_61 w k cs
  | 62, _ => law_62 w k cs
  | 63, _ => law_63 w k cs
  | m + 64, h => absurd h (by omega)

theorem own : ownKnob Try.prog.godebug = none := by kernel_rfl

/-! ### STEP 1: THE WALK: the Go text returns true. 'Grown w w'': the world has at most new blocks (Derived/RowKit3.lean). Part the cases AHEAD of 'go_enter' where a test parts the walk; take each callee by a contract of your own. -/
theorem walk (a0 : Int) (w0 : (Lit.int .i64 a0).wf = true) (w : World) :
    Calls Try.prog 4 #[.int .i64 a0] w fun e w' => e = .returned (.bool true) ∧ Grown w w' := by
  have h : Calls Try.prog 4 #[.int .i64 a0] w (fun e w' => e = .returned (.bool true) ∧ w = w') := by
    refine calls_from (is := fun _ => false) (known_none _) 9999 (frLaw w a0 (tre (a0 % 64).toNat) (tim (a0 % 64).toNat)) (fun cs => ?_) (fun cs => ?_)
    · exact runM_steps known_phase 99 (law_head w a0 cs)
    · exact law_all w a0 cs (a0 % 64).toNat (toNat64 a0).2
  refine h.mono ?_
  rintro e w' ⟨he, rfl⟩
  exact ⟨he, Grown.refl _⟩

/-! ### THE ROW's STEP: WRITTEN OUT: LEAVE IT -/
set_option maxRecDepth 100000 in
theorem lifted (os : Os) (started : os.Started) (H : Type) (enc : TypeId × Value → H) :
    ReturnsInHanded {} Try.checked os 4 .any (Rows.fnExactPhaseOfSpec.pre6 enc Try.prog Try.f4 Rows.fnExactPhaseOfRow.domain false) (Rows.fnExactPhaseOfSpec.post enc Try.prog Try.f4 false true false false) := by
  refine returnsInHanded_of_change (C := Try.checked) own started (by kernel_rfl) Try.func4
    (ChangeSpec.witness6 (enc := enc) (C := Try.checked) false ⟨#[], #[.int .i64 0], []⟩ 8 (by kernel_rfl) (by kernel_rfl) (by kernel_rfl) (by kernel_rfl)) ?_
  intro W base args ds gs before hval0 hW hcnd _
  have hval : ∀ (j : Nat) t v, Try.f4.params[j]? = some t → args[j]? = some v → Value.okWide Try.prog W .any base t v := hval0
  have hW' := hW
  obtain ⟨p, q, hA0, hV, rfl, hfz, hnd⟩ := hW
  have hA : DataW.TrodAll enc Try.prog W 0 (fun _ => true) true Try.f4.params.toList args.toList ds p := hA0
  rw [Try.params4] at hA hval
  obtain ⟨v0, vs0, d0, ds0, p0, q0, hargs, rfl, rfl, h0, r0⟩ := trodAll_cons hA
  obtain ⟨rfl, rfl, rfl⟩ := trodAll_nil r0
  obtain rfl : args = #[v0] := by cases args; simp_all
  obtain ⟨rfl, rfl⟩ := trodVars_none hV
  obtain ⟨a0, rfl, rfl, rfl, w0⟩ := open_int Try.underlying2 (hval 0 2 v0 rfl rfl) h0
  clear hA0 hval0
  simp only [List.append_nil] at hW'
  refine (walk a0 w0 W).mono fun e W' ⟨he, hg⟩ => ?_
  subst he
  exact ⟨_, rfl, post_of_same (pa := []) (pv := []) hW' (fun _ _ _ => (trodAll_cons_mk (shut_bool Try.underlying4 _) trodAll_mk0)) (fun sp _ => (trodAll_cons_mk (shut_int Try.underlying2 w0) trodAll_mk0)) (fun _ _ => rfl) rfl
    (hg.frame _) hg.2.1 (ok_one (by kernel_rfl) rfl (okWide_bool_mk Try.underlying4 _))⟩

theorem over : Rows.fnExactPhaseOfRow.holds Try.pinned (OpenSpec.ofChange Rows.fnExactPhaseOfSpec) :=
  OpenClaim.holds_of_wide 4 Try.f4 rfl rfl rfl rfl rfl rfl rfl ⟨rfl, rfl, rfl, rfl, rfl⟩ rfl rfl rfl rfl rfl (by kernel_rfl) Try.func4 (by kernel_rfl)
    (of_decide_eq_true (by kernel_rfl)) (by unfold Func.isWrapper; first | (rw [if_pos (by decide +kernel)]; kernel_rfl) | (rw [if_neg (by decide +kernel)]; exact ⟨rfl, rfl⟩))
    (fun os started H enc _ => lifted os started H enc)

/-- ████ THE STATEMENT ████ -/
theorem proved : Rows.FnExactPhaseOfSaid :=
  over
#print axioms proved
end Go.Proofs.Ytjmfffgddmnkmaa.fnExactPhaseOf
