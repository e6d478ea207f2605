/- For all numbers and all lists of places the exact law of CoverageOf returns true: the program answers the counts and the code of the model, in memory of its own, in whatever order Go goes through the map, and leaves the list as it was. Condition: none. -/
import Derived.Test.YtjmfffgddmnkmabRows
import Derived.WalkKit
import Derived.ProofKit
import Derived.OpenShut
import Derived.ShutString
import Derived.ChangeOld
import Derived.Below
import Derived.Deep.SlicePairs
import Derived.Test.YtjmfffgddmnkmabLCv
namespace Go.Proofs.Ytjmfffgddmnkmab.fnExactCoverageOf
open Go.ChangeShapes Go.WideShapes Go.ChangeAt Go.RowKit Go.Deep
set_option linter.unusedVariables false

theorem own : ownKnob Try.prog.godebug = none := by kernel_rfl
theorem laidOut : laidOutB Try.prog = true := by kernel_rfl

/-- the numbers of a list of places that came in -/
def numOf (V0 V1 : Nat → Value) (len : Nat) : List Int := (List.range (len * 2)).map (fun i => intOf (if i % 2 = 0 then V0 (i / 2) else V1 (i / 2)))

theorem came_of (b off len : Nat) (V0 V1 : Nat → Value) (w : World) (h : ∀ i, i < len → w.cell? ⟨b, off + i * 2, none⟩ = some (V0 i) ∧ w.cell? ⟨b, off + i * 2 + 1, none⟩ = some (V1 i) ∧ (∃ x, V0 i = .int .i64 x) ∧ (∃ x, V1 i = .int .i64 x)) :
    CameP (some ⟨b, off, none⟩) len (numOf V0 V1 len) w := by
  refine ⟨by simp [numOf], fun h0 => ⟨b, off, rfl, ?_, fun i hi => ?_⟩⟩
  · have := (h 0 (by omega)).1
    exact World.block_lt_of_cell? w _ this
  · have e : (numOf V0 V1 len).getD i 0 = intOf (if i % 2 = 0 then V0 (i / 2) else V1 (i / 2)) := by
      simp [numOf, List.getD_eq_getElem?_getD, hi]
    rw [e]
    obtain ⟨h1, h2, ⟨x, hx⟩, ⟨y, hy⟩⟩ := h (i / 2) (by omega)
    rcases Nat.mod_two_eq_zero_or_one i with h3 | h3
    · rw [if_pos h3, show off + i = off + i / 2 * 2 by omega, h1, hx]; rfl
    · rw [if_neg (by omega), show off + i = off + i / 2 * 2 + 1 by omega, h2, hy]; rfl

theorem walk (a0 a1 : Int) (a2 : Option Addr) (len2 cap2 : Nat) (F : List Int) (w : World) (hA : CameP a2 len2 F w) (hm : len2 ≤ 9223372036854775807) :
    Calls Try.prog 8 #[.int .i64 a0, .int .i64 a1, .slice a2 len2 cap2] w fun e w' => e = .returned (.bool true) ∧ Below w.heap.size w w' :=
  lawCv_of a0 a1 a2 len2 cap2 F (covR a0 a1 len2 F) (covC a0 a1 len2 F) w hA hm
    (by unfold covR; split
        · rename_i h
          rw [covAll_len]
          have h8 : a0.toNat ≤ 8 := by rcases side_yes a0 (arePat_yes h).1 with rfl | rfl | rfl | rfl <;> decide
          have : a0.toNat * a0.toNat ≤ 8 * 8 := Nat.mul_le_mul h8 h8
          omega
        · simp)
    (Lib.hid (specCov a0 a1 len2 F)) (Lib.hid (implCov a0 a1 len2 F))

set_option maxRecDepth 100000 in
theorem lifted (os : Os) (started : os.Started) (H : Type) (enc : TypeId × Value → H) :
    ReturnsInHanded {} Try.checked os 8 .any (Rows.fnExactCoverageOfSpec.pre6 enc Try.prog Try.f8 Rows.fnExactCoverageOfRow.domain false) (Rows.fnExactCoverageOfSpec.post enc Try.prog Try.f8 false true false false) := by
  refine returnsInHanded_of_change (C := Try.checked) own started (by kernel_rfl) Try.func8
    (ChangeSpec.witness6 (enc := enc) (C := Try.checked) false ⟨#[], #[.int .i64 0, .int .i64 0, .slice none 0 0], []⟩ 8 (by kernel_rfl) (by kernel_rfl) (by kernel_rfl) (by kernel_rfl)) ?_
  intro W base args ds gs before hval0 hW hcnd _
  have hval : ∀ (j : Nat) t v, Try.f8.params[j]? = some t → args[j]? = some v → Value.okWide Try.prog W .any base t v := hval0
  have hW' := hW
  obtain ⟨p, q, hA0, hV, rfl, hfz, hnd⟩ := hW
  have hA : DataW.TrodAll enc Try.prog W 0 (fun _ => true) true Try.f8.params.toList args.toList ds p := hA0
  rw [Try.params8] at hA hval
  obtain ⟨v0, vs0, d0, ds0, p0, q0, hargs, rfl, rfl, h0, r0⟩ := trodAll_cons hA
  obtain ⟨v1, vs1, d1, ds1, p1, q1, rfl, rfl, rfl, h1, r1⟩ := trodAll_cons r0
  obtain ⟨v2, vs2, d2, ds2, p2, q2, rfl, rfl, rfl, h2, r2⟩ := trodAll_cons r1
  obtain ⟨rfl, rfl, rfl⟩ := trodAll_nil r2
  obtain rfl : args = #[v0, v1, v2] := by cases args; simp_all
  obtain ⟨rfl, rfl⟩ := trodVars_none hV
  obtain ⟨a0, rfl, rfl, rfl, w0⟩ := open_int Try.underlying2 (hval 0 2 v0 rfl rfl) h0
  obtain ⟨a1, rfl, rfl, rfl, w1⟩ := open_int Try.underlying2 (hval 1 2 v1 rfl rfl) h1
  obtain ⟨a2, len2, cap2, rfl⟩ := okWide_slice Try.underlying56 (hval 2 56 v2 rfl rfl)
  have k2 := h2
  have lt2 : ∀ x ∈ p2, x.block < W.heap.size := by obtain ⟨m, hm⟩ := k2; exact DataW.trod_lt m _ _ _ hm
  obtain ⟨F, w2, hm2⟩ : ∃ F, CameP a2 len2 F W ∧ len2 ≤ 9223372036854775807 := by
    obtain ⟨fuel, hf⟩ := h2
    rcases open_slice_pairs Try.underlying56 Try.underlying111 (by kernel_rfl) (by kernel_rfl) (by kernel_rfl) (by kernel_rfl) (by kernel_rfl) hf with ⟨hcs, _⟩ | ⟨x, l, c, m, n, V0, V1, D0, D1, P0, P1, hcs, _, hl, hm, hmm, _, hx⟩
    · simp [Value.cells] at hcs
      obtain ⟨rfl, rfl, rfl⟩ := hcs
      exact ⟨[], ⟨rfl, fun h => absurd h (by simp)⟩, by omega⟩
    · simp [Value.cells] at hcs
      obtain ⟨rfl, rfl, rfl⟩ := hcs
      have hlm : len2 ≤ m := by rw [hmm]; split <;> omega
      refine ⟨numOf V0 V1 len2, ?_, by unfold maxLen at hm; omega⟩
      by_cases hl0 : len2 = 0
      · subst hl0
        exact ⟨rfl, fun h => absurd h (by simp)⟩
      · obtain ⟨b, off, spot⟩ := x
        have hc := (hx 0 (by omega)).1
        have hspot : spot = none := by simpa [Addr.add] using World.cell?_spot hc
        subst hspot
        have hadd : ∀ i, (⟨b, off, none⟩ : Addr).add i = ⟨b, off + i, none⟩ := fun i => by unfold Addr.add; split <;> simp_all
        refine came_of b off len2 V0 V1 W (fun i hi => ?_)
        obtain ⟨g0, g1, t0, t1⟩ := hx i (by omega)
        rw [hadd] at g0 g1
        obtain ⟨x0, e0, _⟩ := DataW.trod_int Try.underlying2 t0
        obtain ⟨x1, e1, _⟩ := DataW.trod_int Try.underlying2 t1
        injection e0 with e0
        injection e1 with e1
        exact ⟨g0, by rw [Nat.add_assoc]; exact g1, ⟨x0, e0⟩, ⟨x1, e1⟩⟩
  clear hA0 hval0
  refine (walk a0 a1 a2 len2 cap2 F W w2 hm2).mono fun e W' ⟨he, bel⟩ => ?_
  subst he
  exact ⟨_, rfl, _, _, _, [], _, [], hW', trodAll_mk1 (shut_bool Try.underlying4 _), (trodAll_cons_mk (shut_int Try.underlying2 w0) (trodAll_cons_mk (shut_int Try.underlying2 w1) (trodAll_cons_mk (Below.trod laidOut (by kernel_rfl) (of_decide_eq_true (by kernel_rfl)) k2 bel lt2) trodAll_mk0))), rfl, bel.frame _, fun h => by cases h⟩

theorem over : Rows.fnExactCoverageOfRow.holds Try.pinned (OpenSpec.ofChange Rows.fnExactCoverageOfSpec) :=
  OpenClaim.holds_of_wide 8 Try.f8 rfl rfl rfl rfl rfl rfl rfl ⟨rfl, rfl, rfl, rfl, rfl⟩ rfl rfl rfl rfl rfl (by kernel_rfl) Try.func8 (by kernel_rfl)
    (of_decide_eq_true (by kernel_rfl)) (by unfold Func.isWrapper; first | (rw [if_pos (by decide +kernel)]; kernel_rfl) | (rw [if_neg (by decide +kernel)]; exact ⟨rfl, rfl⟩))
    (fun os started H enc _ => lifted os started H enc)

/-- ████ THE STATEMENT ████ -/
theorem proved : Rows.FnExactCoverageOfSaid :=
  over
#print axioms proved
end Go.Proofs.Ytjmfffgddmnkmab.fnExactCoverageOf
