/- For every side and every list of slopes the exact law of PlaneSource returns true: the waves and the code of the program are those of the model, to the bit, and no memory is shared. Condition: none. -/
import Derived.Test.YtjmfffgddmnkmabRows
import Derived.WalkKit
import Derived.ProofKit
import Derived.OpenShut
import Derived.ShutString
import Derived.ChangeOld
import Derived.Below
import Derived.Test.YtjmfffgddmnkmabLPs
import Derived.Deep.Matrix
namespace Go.Proofs.Ytjmfffgddmnkmab.fnExactPlaneSource
open Go.ChangeShapes Go.WideShapes Go.ChangeAt Go.RowKit
set_option linter.unusedVariables false

theorem own : ownKnob Try.prog.godebug = none := by kernel_rfl
theorem laidOut : laidOutB Try.prog = true := by kernel_rfl

/-- a list of lists that came in: as many as there are, none too long -/
theorem came_of {H : Type} {enc : TypeId × Value → H} {w : World} {base fuel : Nat} {held : Bool} {ad : Option Addr} {len cap : Nat} {x : DataW H × List MemPlace}
    (h : DataW.trod enc Try.prog w base (fun _ => true) held fuel 66 [.slice ad len cap] = some x) :
    ∃ Ls : List (List Int), Ls.length = len ∧ CameS ad len Ls w ∧ len ≤ 9223372036854775807 ∧ ∀ i, i < len → (Ls.getD i []).length ≤ 9223372036854775807 := by
  rcases Go.Deep.open_int_rows Try.underlying66 Try.underlying36 Try.underlying2 (by kernel_rfl) (by kernel_rfl) h with ⟨hcs, _⟩ | ⟨a, len', cap', A, L, C, Z, hcs, _, hl, hm, _, hrows⟩
  · simp at hcs
    obtain ⟨rfl, rfl, rfl⟩ := hcs
    exact ⟨[], rfl, ⟨rfl, fun h0 => absurd h0 (by omega)⟩, by omega, fun i hi => absurd hi (by omega)⟩
  · simp at hcs
    obtain ⟨rfl, rfl, rfl⟩ := hcs
    unfold maxLen at hm
    have hg : ∀ i, i < len → ((List.range len).map (fun r => (Z r).take (L r))).getD i [] = (Z i).take (L i) := fun i hi => by
      simp [List.getD_eq_getElem?_getD, hi]
    have hlen : ∀ i, i < len → ((Z i).take (L i)).length = L i := fun i hi => by
      obtain ⟨_, h1, _, h2, _⟩ := hrows i (by omega)
      rw [List.length_take]
      omega
    refine ⟨(List.range len).map (fun r => (Z r).take (L r)), by simp, ⟨by simp, fun h0 => ?_⟩, by omega, fun i hi => ?_⟩
    · obtain ⟨b, off, spot⟩ := a
      have hc0 := (hrows 0 (by omega)).1
      have hspot : spot = none := by simpa [Addr.add] using World.cell?_spot hc0
      subst hspot
      have hb := World.block_lt_of_cell? w _ hc0
      rw [Addr.add_mid] at hb
      refine ⟨b, off, rfl, hb, fun i hi => ?_⟩
      obtain ⟨h1, h2, h3, h4, _, h6, h7⟩ := hrows i (by omega)
      refine ⟨A i, C i, ?_, ?_⟩
      · rw [hg i hi, hlen i hi]
        rw [Addr.add_mid] at h1
        exact h1
      · rw [hg i hi, hlen i hi]
        refine ⟨hlen i hi, fun hp => ?_⟩
        cases hA : A i with
        | none => exact absurd (h6 hA) (by omega)
        | some y =>
          obtain ⟨_, hy⟩ := h7 y hA
          obtain ⟨b2, o2, spot⟩ := y
          have hc1 := hy 0 (by omega)
          have hspot : spot = none := by simpa [Addr.add] using World.cell?_spot hc1
          subst hspot
          have hb2 := World.block_lt_of_cell? w _ hc1
          rw [Addr.add_mid] at hb2
          refine ⟨b2, o2, rfl, hb2, fun q hq => ?_⟩
          have := hy q (by omega)
          rw [Addr.add_mid] at this
          rw [this]
          simp [List.getD_eq_getElem?_getD, hq]
    · rw [hg i hi, hlen i hi]
      obtain ⟨_, h2, h3, _⟩ := hrows i (by omega)
      unfold maxLen at h3
      omega

theorem psR_fw (n : Int) (Ls : List (List Int)) : Fw (psR n Ls) := by
  unfold psR
  split
  · intro P hP
    obtain ⟨L, _, rfl⟩ := List.mem_map.1 hP
    exact ⟨_, _, rfl, fill_cells _ (parts_lt _ _ _ _) _⟩
  · intro P hP
    cases hP
theorem psR_len (n : Int) (Ls : List (List Int)) : (psR n Ls).length ≤ 16 := by
  unfold psR
  split
  · rename_i h
    unfold okAll at h
    simp only [Bool.and_eq_true, decide_eq_true_eq] at h
    rw [List.length_map]
    exact h.1.2
  · simp

theorem walk (n : Int) (ad : Option Addr) (len cap : Nat) (Ls : List (List Int)) (w : World) (hl : Ls.length = len) (hC : CameS ad len Ls w) (h1 : len ≤ 9223372036854775807) (h2 : ∀ i, i < len → (Ls.getD i []).length ≤ 9223372036854775807) :
    Calls Try.prog 10 #[.int .i64 n, .slice ad len cap] w fun e w' => e = .returned (.bool true) ∧ Below w.heap.size w w' := by
  subst hl
  exact lawPs_of n ad cap Ls (psR n Ls) (psC n Ls) w (Lib.hid hC) (Lib.hid ⟨h1, h2⟩) (Lib.hid (psR_fw n Ls)) (Lib.hid (psR_len n Ls)) (Lib.hid (specPs n Ls)) (Lib.hid (implPs n Ls))

set_option maxRecDepth 100000 in
theorem lifted (os : Os) (started : os.Started) (H : Type) (enc : TypeId × Value → H) :
    ReturnsInHanded {} Try.checked os 10 .any (Rows.fnExactPlaneSourceSpec.pre6 enc Try.prog Try.f10 Rows.fnExactPlaneSourceRow.domain false) (Rows.fnExactPlaneSourceSpec.post enc Try.prog Try.f10 false true false false) := by
  refine returnsInHanded_of_change (C := Try.checked) own started (by kernel_rfl) Try.func10
    (ChangeSpec.witness6 (enc := enc) (C := Try.checked) false ⟨#[], #[.int .i64 0, .slice none 0 0], []⟩ 8 (by kernel_rfl) (by kernel_rfl) (by kernel_rfl) (by kernel_rfl)) ?_
  intro W base args ds gs before hval0 hW hcnd _
  have hval : ∀ (j : Nat) t v, Try.f10.params[j]? = some t → args[j]? = some v → Value.okWide Try.prog W .any base t v := hval0
  have hW' := hW
  obtain ⟨p, q, hA0, hV, rfl, hfz, hnd⟩ := hW
  have hA : DataW.TrodAll enc Try.prog W 0 (fun _ => true) true Try.f10.params.toList args.toList ds p := hA0
  rw [Try.params10] at hA hval
  obtain ⟨v0, vs0, d0, ds0, p0, q0, hargs, rfl, rfl, h0, r0⟩ := trodAll_cons hA
  obtain ⟨v1, vs1, d1, ds1, p1, q1, rfl, rfl, rfl, h1, r1⟩ := trodAll_cons r0
  obtain ⟨rfl, rfl, rfl⟩ := trodAll_nil r1
  obtain rfl : args = #[v0, v1] := by cases args; simp_all
  obtain ⟨rfl, rfl⟩ := trodVars_none hV
  obtain ⟨a0, rfl, rfl, rfl, w0⟩ := open_int Try.underlying2 (hval 0 2 v0 rfl rfl) h0
  obtain ⟨a1, len1, cap1, rfl⟩ := okWide_slice Try.underlying66 (hval 1 66 v1 rfl rfl)
  have k1 := h1
  have lt1 : ∀ x ∈ p1, x.block < W.heap.size := by obtain ⟨m, hm⟩ := k1; exact DataW.trod_lt m _ _ _ hm
  obtain ⟨Ls, e1, e2, e3, e4⟩ : ∃ Ls : List (List Int), Ls.length = len1 ∧ CameS a1 len1 Ls W ∧ len1 ≤ 9223372036854775807 ∧ ∀ i, i < len1 → (Ls.getD i []).length ≤ 9223372036854775807 := by
    obtain ⟨fuel, hf⟩ := h1
    exact came_of hf
  clear hA0 hval0
  refine (walk a0 a1 len1 cap1 Ls W e1 e2 e3 e4).mono fun e W' ⟨he, bel⟩ => ?_
  subst he
  exact ⟨_, rfl, _, _, _, [], _, [], hW', trodAll_mk1 (shut_bool Try.underlying4 _), (trodAll_cons_mk (shut_int Try.underlying2 w0) (trodAll_cons_mk (Below.trod laidOut (by kernel_rfl) (of_decide_eq_true (by kernel_rfl)) k1 bel lt1) trodAll_mk0)), rfl, bel.frame _, fun h => by cases h⟩

theorem over : Rows.fnExactPlaneSourceRow.holds Try.pinned (OpenSpec.ofChange Rows.fnExactPlaneSourceSpec) :=
  OpenClaim.holds_of_wide 10 Try.f10 rfl rfl rfl rfl rfl rfl rfl ⟨rfl, rfl, rfl, rfl, rfl⟩ rfl rfl rfl rfl rfl (by kernel_rfl) Try.func10 (by kernel_rfl)
    (of_decide_eq_true (by kernel_rfl)) (by unfold Func.isWrapper; first | (rw [if_pos (by decide +kernel)]; kernel_rfl) | (rw [if_neg (by decide +kernel)]; exact ⟨rfl, rfl⟩))
    (fun os started H enc _ => lifted os started H enc)

/-- ████ THE STATEMENT ████ -/
theorem proved : Rows.FnExactPlaneSourceSaid :=
  over
#print axioms proved
end Go.Proofs.Ytjmfffgddmnkmab.fnExactPlaneSource
