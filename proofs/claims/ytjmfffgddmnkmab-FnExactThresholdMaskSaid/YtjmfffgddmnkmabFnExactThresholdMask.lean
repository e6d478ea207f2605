/- For every picture's cells and every float, whatever they are, the exact law of ThresholdMask returns true: the program's wave is the model's, to the bit, and so is its code. Condition: none. -/
import Derived.Test.YtjmfffgddmnkmabRows
import Derived.WalkKit
import Derived.ProofKit
import Derived.OpenShut
import Derived.Test.YtjmfffgddmnkmabLTh
namespace Go.Proofs.Ytjmfffgddmnkmab.fnExactThresholdMask
open Go.ChangeShapes Go.WideShapes Go.ChangeAt Go.RowKit

theorem own : ownKnob Try.prog.godebug = none := by kernel_rfl
theorem laidOut : laidOutB Try.prog = true := by kernel_rfl

theorem cellTypes30 : Try.prog.cellTypes Try.prog.depth 48 = some (2 :: List.replicate 64 45) := by kernel_rfl
theorem cellsOf30 : Try.prog.cellsOf 48 = 65 := by kernel_rfl

set_option maxRecDepth 100000 in
/-- what comes in is a picture's cells -/
theorem open_pic {W : World} {r : Reach} {base : Nat} {v : Value} (h : Value.okWide Try.prog W r base 48 v) : ∃ s zs, Floats zs ∧ v = .agg (pic s zs) := by
  unfold Value.okWide at h
  rw [Try.underlying48] at h
  obtain ⟨cs, rfl, hs, ts, ht, _, hc⟩ := h
  rw [cellsOf30] at hs
  rw [cellTypes30] at ht
  cases ht
  have hlen : (2 :: List.replicate 64 45).length = 65 := by simp
  rw [hlen] at hc
  obtain ⟨u0, hu0, h0⟩ := hc 0 cs[0] (Array.getElem?_eq_getElem (by omega))
  have : u0 = 2 := by simpa using hu0.symm
  subst this
  unfold Cell.okWide Cell.ok at h0
  rw [Try.underlying2] at h0
  obtain ⟨s, hs0⟩ : ∃ s, cs[0] = .int .i64 s := by
    generalize cs[0] = v at *
    cases v <;> simp_all
  have hf : ∀ k, k < 64 → ∃ x, x < 4294967296 ∧ cs[k + 1]? = some (.float .f32 x) := by
    intro k hk
    obtain ⟨u, hu, hk'⟩ := hc (k + 1) cs[k + 1] (Array.getElem?_eq_getElem (by omega))
    have : u = 45 := by
      rw [Nat.mod_eq_of_lt (by omega), List.getElem?_cons_succ, List.getElem?_replicate, if_pos hk] at hu
      exact (Option.some.inj hu).symm
    subst this
    unfold Cell.okWide Cell.ok at hk'
    rw [Try.underlying45] at hk'
    rw [Array.getElem?_eq_getElem (by omega)]
    generalize cs[k + 1] = v at *
    cases v <;> simp_all [FloatKind.has]
  refine ⟨s, cs.extract 1 65, ⟨by simp [hs], fun k hk => ?_⟩, ?_⟩
  · obtain ⟨x, hx, he⟩ := hf k hk
    refine ⟨x, hx, ?_⟩
    rw [Array.getElem?_extract, if_pos (by omega), Nat.add_comm]
    exact he
  · congr 1
    apply Array.ext_getElem?
    intro i
    cases i with
    | zero => rw [pic_zero, Array.getElem?_eq_getElem (by omega), hs0]
    | succ i =>
      rw [pic_succ, Array.getElem?_extract]
      by_cases hi : i < 64
      · rw [if_pos (by omega), Nat.add_comm 1 i]
      · rw [if_neg (by omega), Array.getElem?_eq_none (by omega)]

set_option maxRecDepth 100000 in
theorem lifted (os : Os) (started : os.Started) (H : Type) (enc : TypeId × Value → H) :
    ReturnsInHanded {} Try.checked os 7 .any (Rows.fnExactThresholdMaskSpec.pre6 enc Try.prog Try.f7 Rows.fnExactThresholdMaskRow.domain false) (Rows.fnExactThresholdMaskSpec.post enc Try.prog Try.f7 false true false false) := by
  refine returnsInHanded_of_change (C := Try.checked) own started (by kernel_rfl) Try.func7
    (ChangeSpec.witness6 (enc := enc) (C := Try.checked) false ⟨#[], #[.agg (pic 0 zero64), .float .f32 0], []⟩ 8 (by kernel_rfl) (by kernel_rfl) (by kernel_rfl) (by kernel_rfl)) ?_
  intro W base args ds gs before hval0 hW hcnd _
  have hval : ∀ (j : Nat) t v, Try.f7.params[j]? = some t → args[j]? = some v → Value.okWide Try.prog W .any base t v := hval0
  have hW' := hW
  obtain ⟨p, q, hA0, hV, rfl, hfz, hnd⟩ := hW
  have hA : DataW.TrodAll enc Try.prog W 0 (fun _ => true) true Try.f7.params.toList args.toList ds p := hA0
  rw [Try.params7] at hA hval
  obtain ⟨v0, vs0, d0, ds0, p0, q0, hargs, rfl, rfl, h0, r0⟩ := trodAll_cons hA
  obtain ⟨v1, vs1, d1, ds1, p1, q1, rfl, rfl, rfl, h1, r1⟩ := trodAll_cons r0
  obtain ⟨rfl, rfl, rfl⟩ := trodAll_nil r1
  obtain rfl : args = #[v0, v1] := by cases args; simp_all
  obtain ⟨rfl, rfl⟩ := trodVars_none hV
  have k0 := h0
  have lt0 : ∀ x ∈ p0, x.block < W.heap.size := by obtain ⟨m, hm⟩ := k0; exact DataW.trod_lt m _ _ _ hm
  obtain ⟨s, zs, hz, rfl⟩ := open_pic (hval 0 48 v0 rfl rfl)
  obtain ⟨t, rfl, rfl, rfl, w1⟩ := open_float Try.underlying45 (hval 1 45 v1 rfl rfl) h1
  clear hA0 hval0
  refine (lawTh_any s zs t hz W).mono fun e W' ⟨he, bel⟩ => ?_
  subst he
  exact ⟨_, rfl, _, _, _, [], _, [], hW', trodAll_mk1 (shut_bool Try.underlying4 _), (trodAll_cons_mk (Below.trod laidOut (by kernel_rfl) (of_decide_eq_true (by kernel_rfl)) k0 bel lt0) (trodAll_cons_mk (shut_float Try.underlying45 w1) trodAll_mk0)), rfl, bel.frame _, fun h => by cases h⟩

theorem over : Rows.fnExactThresholdMaskRow.holds Try.pinned (OpenSpec.ofChange Rows.fnExactThresholdMaskSpec) :=
  OpenClaim.holds_of_wide 7 Try.f7 rfl rfl rfl rfl rfl rfl rfl ⟨rfl, rfl, rfl, rfl, rfl⟩ rfl rfl rfl rfl rfl (by kernel_rfl) Try.func7 (by kernel_rfl)
    (of_decide_eq_true (by kernel_rfl)) (by unfold Func.isWrapper; first | (rw [if_pos (by decide +kernel)]; kernel_rfl) | (rw [if_neg (by decide +kernel)]; exact ⟨rfl, rfl⟩))
    (fun os started H enc _ => lifted os started H enc)

/-- THE STATEMENT -/
theorem proved : Rows.FnExactThresholdMaskSaid :=
  over
#print axioms proved
end Go.Proofs.Ytjmfffgddmnkmab.fnExactThresholdMask
