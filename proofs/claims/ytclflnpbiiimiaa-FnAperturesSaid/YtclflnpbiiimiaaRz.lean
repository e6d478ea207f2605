/- The library's compaction of a row of float32's behind its first one: whether at most one number is left. Condition: 3 to 64 numbers. -/
import Derived.Test.YtclflnpbiiimiaaM21
import Derived.BigQuiet
import Derived.Lib.SliceRun
namespace Go.Proofs.Ytclflnpbiiimiaa
open Go Go.RowKit

/-- is the number behind the place q the number at q -/
def eqR (R : List Nat) (q : Nat) : Bool := FloatKind.f32.format.order (R.getD (q + 1) 0) (R.getD q 0) == some .eq
/-- are all numbers behind the first one the same, one after the other -/
def sameC (R : List Nat) (m : Nat) : Bool := (List.range m).all (fun q => decide (q < 1) || eqR R q)
theorem sameC_no {R : List Nat} {m q : Nat} (h1 : 1 ≤ q) (h2 : q < m) (h : eqR R q = false) : sameC R m = false := by
  unfold sameC
  rw [List.all_eq_false]
  refine ⟨q, List.mem_range.2 h2, ?_⟩
  rw [h, decide_eq_false (by omega)]
  decide
theorem sameC_yes {R : List Nat} {m : Nat} (h : ∀ q, 1 ≤ q → q < m → eqR R q = true) : sameC R m = true := by
  unfold sameC
  rw [List.all_eq_true]
  intro q hq
  have := List.mem_range.1 hq
  rcases Nat.lt_or_ge q 1 with h1 | h1
  · rw [decide_eq_true h1]; rfl
  · rw [h q h1 this, Bool.or_true]

theorem zeroF32 (w : World) : (zeroValue 40).run Try.prog w = .ok (.float .f32 0) w := by kernel_rfl
theorem cell_at {B g cp n : Nat} {M : List Nat} {w : World} (hO : OwnF B (.slice (some ⟨g, 0, none⟩) n cp) M w) (hM : M.length = n) (i : Nat) (hi : i < n) :
    w.cell? ⟨g, i, none⟩ = some (.float .f32 (M.getD i 0)) ∧ w.frozen? ⟨g, i, none⟩ = false := by
  have o : OwnF B (.slice (some ⟨g, 0, none⟩) M.length cp) M w := by rw [hM]; exact hO
  exact ⟨o.cell i (by omega), o.free i⟩
theorem below_setCells {B b : Nat} {w : World} (hb : B ≤ b) : ∀ (vs : List Value) (o : Nat) (u : World), Below B w u → Below B w (u.setCells b o vs)
  | [], _, _, h => h
  | v :: vs, o, u, h => below_setCells hb vs (o + 1) (u.setCell ⟨b, o, none⟩ v) (h.setCell (p := ⟨b, o, none⟩) hb v)

set_option maxRecDepth 100000 in
set_option maxHeartbeats 4000000 in
theorem compact_any (B g cp n m cc : Nat) (R : List Nat) (w : World) (hO : OwnF B (.slice (some ⟨g, 0, none⟩) n cp) R w) (hR : R.length = n) (hm : n = m + 1) (hm2 : 2 ≤ m ∧ m ≤ 63) (hcc : m ≤ cc) (hB : B ≤ g) :
    Calls Try.prog 51 #[.slice (some ⟨g, 1, none⟩) m cc] w fun e w' => ∃ len : Nat, e = .returned (.slice (some ⟨g, 1, none⟩) len cc) ∧ decide (len ≤ 1) = sameC R m ∧ Below B w w' := by
  have HO := Lib.hid hO
  have HR := Lib.hid hR
  have HM := Lib.hid hm
  clear hO hR hm
  go_enter Try.func51, Try.ntmps51
  go_wp2_with fail
  go_loopw [3] (fun i wr => ∃ k : Nat, 1 ≤ k ∧ k ≤ m ∧ i = .int .i64 k ∧ Hid (∀ q, 1 ≤ q → q < k → eqR R q = false) ∧ Hid (∃ d, wr = w.drewN d)) (fun i _ => m - (intOf i).toNat)
  case atStart => exact ⟨1, by omega, by omega, rfl, Lib.hid (fun q h1 h2 => by omega), Lib.hid ⟨0, rfl⟩⟩
  case round =>
    obtain ⟨k, hk1, hk, rfl, HN, HW⟩ := hrel
    have O1 : Hid (OwnF B (.slice (some ⟨g, 0, none⟩) n cp) R wr) := Lib.hid (by obtain ⟨d, rfl⟩ := HW.out; exact HO.out)
    by_cases hlt : k < m
    · have hdk : decide ((k : Int) < (m : Int)) = true := by simp; omega
      obtain ⟨km, hkm⟩ : ∃ km, k = km + 1 := ⟨k - 1, by omega⟩
      have hw1 : IntKind.i64.wrap ((k : Int) - 1) = (km : Int) := (IntWalk.i64_in _ (by omega)).trans (by omega)
      have c1 := (cell_at O1.out HR.out (1 + k) (by rw [HM.out]; omega)).1
      have c0 := (cell_at O1.out HR.out (1 + km) (by rw [HM.out]; omega)).1
      have HQ : Hid (eqR R k = (FloatKind.f32.format.order (R.getD (1 + k) 0) (R.getD (1 + km) 0) == some .eq)) := Lib.hid (by unfold eqR; rw [Nat.add_comm k 1, show 1 + km = k by omega])
      generalize R.getD (1 + k) 0 = x at *
      generalize R.getD (1 + km) 0 = y at *
      obtain ⟨b, hb⟩ : ∃ b, b = (FloatKind.f32.format.order x y == some .eq) := ⟨_, rfl⟩
      rw [← hb] at HQ
      have hb2 := hb.symm
      have hkm1 : km < m := by omega
      have HKM := Lib.hid hkm
      clear hb hkm
      cases b
      · go_wp2_with fail
        go_quiet (fail)
        have HW2 : Hid (∃ d', wr.drewN nq = w.drewN d') := Lib.hid (by obtain ⟨d0, h0⟩ := HW.out; exact ⟨_, by rw [h0, World.drewN_drewN]⟩)
        generalize wr.drewN nq = w1 at *
        clear O1 c1 c0
        go_wp2_with fail
        exact ⟨⟨k + 1, by omega, by omega, by go_num, Lib.hid (fun q h1 h2 => by
          rcases Nat.lt_or_ge q k with h | h
          · exact HN.out q h1 h
          · obtain rfl : q = k := by omega
            exact HQ.out), HW2⟩, by simp [intOf]; omega⟩
      · go_wp2_with fail
        go_quiet (fail)
        have O2 : Hid (OwnF B (.slice (some ⟨g, 0, none⟩) n cp) R (wr.drewN nq)) := Lib.hid O1.out
        have B2 : Hid (Below B w (wr.drewN nq)) := Lib.hid (by obtain ⟨d0, h0⟩ := HW.out; rw [h0, World.drewN_drewN]; exact below_drewN (Below.refl _ _) _)
        generalize wr.drewN nq = w1 at *
        clear O1 c1 c0 hw1 hb2
        have q1 : ¬ cc = k := by omega
        have q2 : ¬ m = k := by omega
        go_wp2_with fail
        go_loopw [3, 5] (fun s3 s5 wv => ∃ K k2 : Nat, ∃ M : List Nat, s3 = .int .i64 K ∧ s5 = .int .i64 k2 ∧ 1 ≤ k2 ∧ k + k2 ≤ m ∧ k ≤ K ∧ K < k + k2 ∧ Hid (OwnF B (.slice (some ⟨g, 0, none⟩) n cp) M wv) ∧ Hid (M.length = n) ∧ Hid (Below B w wv) ∧ Hid ((K = 1 ∧ M = R ∧ ∀ q, 1 ≤ q → q < k + k2 → eqR R q = true) ∨ (2 ≤ K ∧ sameC R m = false))) (fun _ s5 _ => m - (intOf s5).toNat)
        case atStart =>
          refine ⟨k, 1, R, rfl, rfl, by omega, by omega, by omega, by omega, O2, HR, B2, Lib.hid ?_⟩
          rcases Nat.lt_or_ge k 2 with h | h
          · obtain rfl : k = 1 := by omega
            exact .inl ⟨rfl, rfl, fun q h1 h2 => by obtain rfl : q = 1 := by omega
                                                    exact HQ.out⟩
          · exact .inr ⟨h, sameC_no (q := 1) (by omega) (by omega) (HN.out 1 (by omega) (by omega))⟩
        case round =>
          clear O2 B2
          obtain ⟨K, k2, M, rfl, rfl, hk2, hkm2, hkK, hK, O3, HML, B3, HI⟩ := hrel
          by_cases hlt2 : k + k2 < m
          · have hdk2 : decide ((k2 : Int) < ((m - k : Nat) : Int)) = true := by simp; omega
            have hdk3 : k2 < m - k := by omega
            obtain ⟨j2, hj2⟩ : ∃ j2, k2 = j2 + 1 := ⟨k2 - 1, by omega⟩
            have hw2 : IntKind.i64.wrap ((k2 : Int) - 1) = (j2 : Int) := (IntWalk.i64_in _ (by omega)).trans (by omega)
            have d1 := (cell_at O3.out HML.out (1 + k + k2) (by rw [HM.out]; omega)).1
            have d0 := (cell_at O3.out HML.out (1 + k + j2) (by rw [HM.out]; omega)).1
            have dK := cell_at O3.out HML.out (1 + K) (by rw [HM.out]; omega)
            have e1 := dK.1
            have f1 := dK.2
            have HQ2 : Hid (M = R → eqR R (k + k2) = (FloatKind.f32.format.order (M.getD (1 + k + k2) 0) (M.getD (1 + k + j2) 0) == some .eq)) := Lib.hid (fun e => by unfold eqR; rw [e, show k + k2 + 1 = 1 + k + k2 by omega, show k + k2 = 1 + k + j2 by omega])
            have HST : Hid (∀ u, OwnF B (.slice (some ⟨g, 0, none⟩) n cp) M u → OwnF B (.slice (some ⟨g, 0, none⟩) n cp) (M.set (1 + K) (M.getD (1 + k + k2) 0)) (u.setCell ⟨g, 1 + K, none⟩ (.float .f32 (M.getD (1 + k + k2) 0)))) := Lib.hid (fun u hu => by
              have o : OwnF B (.slice (some ⟨g, 0, none⟩) M.length cp) M u := by rw [HML.out]; exact hu
              have h := o.stored (1 + K) (M.getD (1 + k + k2) 0)
              rw [HML.out] at h
              exact h)
            generalize M.getD (1 + k + k2) 0 = x2 at *
            generalize M.getD (1 + k + j2) 0 = y2 at *
            generalize M.getD (1 + K) 0 = z2 at *
            obtain ⟨b, hb⟩ : ∃ b, b = (FloatKind.f32.format.order x2 y2 == some .eq) := ⟨_, rfl⟩
            rw [← hb] at HQ2
            have hb2 := hb.symm
            have hb3 : (FloatKind.f32.format.order x2 y2 != some .eq) = !b := by rw [hb]; rfl
            have hj3 : j2 < m - k := by omega
            have hKm : K < m := by omega
            have HJ2 := Lib.hid hj2
            clear hb dK hj2
            cases b
            · go_wp2_with fail
              go_quiet (fail)
              have d2 : (wr.drewN nq).cell? ⟨g, 1 + k + k2, none⟩ = some (.float .f32 x2) := by rw [World.cell?_drewN]; exact d1
              have e2 : (wr.drewN nq).cell? ⟨g, 1 + K, none⟩ = some (.float .f32 z2) := by rw [World.cell?_drewN]; exact e1
              have f2 : (wr.drewN nq).frozen? ⟨g, 1 + K, none⟩ = false := f1
              have O4 : Hid (OwnF B (.slice (some ⟨g, 0, none⟩) n cp) M (wr.drewN nq)) := Lib.hid O3.out
              have B4 := Lib.hid (below_drewN B3.out nq)
              generalize wr.drewN nq = u at *
              clear O3 B3 d1 d0 e1 f1 hb2 hb3
              have HRI : Hid (2 ≤ K + 1 ∧ sameC R m = false) := Lib.hid ⟨by omega, by
                rcases HI.out with ⟨_, h2, _⟩ | ⟨_, h⟩
                · exact sameC_no (by omega) hlt2 (HQ2.out h2)
                · exact h⟩
              go_wp2_with fail
              exact ⟨⟨K + 1, k2 + 1, M.set (1 + K) x2, by go_num, by go_num, by omega, by omega, by omega, by omega, Lib.hid (HST.out u O4.out), Lib.hid (by rw [List.length_set]; exact HML.out), Lib.hid (B4.out.setCell (p := ⟨g, 1 + K, none⟩) hB _), Lib.hid (.inr HRI.out)⟩, by simp [intOf]; omega⟩
            · go_wp2_with fail
              go_quiet (fail)
              have O4 : Hid (OwnF B (.slice (some ⟨g, 0, none⟩) n cp) M (wr.drewN nq)) := Lib.hid O3.out
              have B4 := Lib.hid (below_drewN B3.out nq)
              generalize wr.drewN nq = u at *
              clear O3 B3 d1 d0 e1 f1 hb2 hb3
              have HRI : Hid ((K = 1 ∧ M = R ∧ ∀ q, 1 ≤ q → q < k + (k2 + 1) → eqR R q = true) ∨ (2 ≤ K ∧ sameC R m = false)) := Lib.hid (by
                rcases HI.out with ⟨h1, h2, h3⟩ | h
                · refine .inl ⟨h1, h2, fun q hq1 hq2 => ?_⟩
                  rcases Nat.lt_or_ge q (k + k2) with h | h
                  · exact h3 q hq1 h
                  · obtain rfl : q = k + k2 := by omega
                    exact HQ2.out h2
                · exact .inr h)
              go_wp2_with fail
              exact ⟨⟨K, k2 + 1, M, rfl, by go_num, by omega, by omega, by omega, by omega, O4, HML, B4, HRI⟩, by simp [intOf]; omega⟩
          · have hend : k + k2 = m := by omega
            have hdk2 : decide ((k2 : Int) < ((m - k : Nat) : Int)) = false := by simp; omega
            have hdk3 : ¬ k2 < m - k := by omega
            have hKm : K < m := by omega
            have q3 : ¬ cc = K := by omega
            have q4 : ¬ m = K := by omega
            have q5 : K ≤ m := by omega
            have q6 : K ≤ cc := by omega
            have hcl : ∀ ty, (Builtin.clear_ #[25] ty #[.slice (some ⟨g, 1 + K, none⟩) (m - K) (cc - K)]).run Try.prog wr = .ok (.tuple #[]) (wr.setCells g (1 + K) (List.replicate (m - K) (.float .f32 0))) :=
              fun ty => Lib.run_clear_slice wr _ _ ty _ Try.underlying25 zeroF32 rfl rfl g (1 + K) _ _ (by omega) (fun j hj => by rw [(cell_at O3.out HML.out (1 + K + j) (by rw [HM.out]; omega)).1]; rfl) (fun j hj => (cell_at O3.out HML.out (1 + K + j) (by rw [HM.out]; omega)).2)
            have HRES : Hid (decide (K ≤ 1) = sameC R m) := Lib.hid (by
              rcases HI.out with ⟨h1, _, h3⟩ | ⟨h1, h2⟩
              · rw [h1, sameC_yes (fun q hq1 hq2 => h3 q hq1 (by omega))]; rfl
              · rw [h2, decide_eq_false (by omega)])
            clear hend
            go_wp2_with fail
            go_ret
            exact ⟨K, rfl, HRES.out, below_setCells hB _ _ _ B3.out⟩
    · obtain rfl : k = m := by omega
      have hdk : decide ((k : Int) < (k : Int)) = false := by simp
      have HS : Hid (sameC R k = false) := Lib.hid (sameC_no (q := 1) (by omega) (by omega) (HN.out 1 (by omega) (by omega)))
      go_wp2_with fail
      go_ret
      exact ⟨k, rfl, by rw [HS.out, decide_eq_false (by omega)], by obtain ⟨d, rfl⟩ := HW.out; exact below_drewN (Below.refl _ _) d⟩

end Go.Proofs.Ytclflnpbiiimiaa
