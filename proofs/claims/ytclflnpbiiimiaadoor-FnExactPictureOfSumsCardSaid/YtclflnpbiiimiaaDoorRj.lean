/- The program's sums and differences of two lists side by side in a row. Condition: at most 64 places. -/
import Derived.Test.YtclflnpbiiimiaaDoorKe
import Derived.Test.YtclflnpbiiimiaaDoorRg
import Derived.Deep.RegionHeld3
import Derived.Deep.RegionLaw
import Derived.BigRegion
namespace Go.Proofs.YtclflnpbiiimiaaDoor
open Go Go.RowKit Ieee

/-- what the two stores leave -/
theorem as_left {B g cp n i j z1 z2 : Nat} {M : List Nat} {w wr X : World} (hO : OwnF B (.slice (some ⟨g, 0, none⟩) M.length cp) M wr) (hM : M.length = n) (hB : Below B w wr) (hg : B ≤ g) (d : Nat)
    (hX : X = ((wr.setCell ⟨g, i, none⟩ (.float .f32 z1)).setCell ⟨g, j, none⟩ (.float .f32 z2)).drewN d) : OwnF B (.slice (some ⟨g, 0, none⟩) n cp) ((M.set i z1).set j z2) X ∧ Below B w X := by
  subst hX
  have h1 := hO.stored i z1
  have h2 : OwnF B (.slice (some ⟨g, 0, none⟩) (M.set i z1).length cp) (M.set i z1) (wr.setCell ⟨g, i, none⟩ (.float .f32 z1)) := by rw [List.length_set]; exact h1
  have h3 := h2.stored j z2
  rw [List.length_set, hM] at h3
  exact ⟨h3, below_drewN ((hB.setCell (p := ⟨g, i, none⟩) hg _).setCell (p := ⟨g, j, none⟩) hg _) d⟩

set_option maxRecDepth 100000 in
set_option maxHeartbeats 4000000 in
theorem addSub_any (B g cp n t m cl ch : Nat) (L M : List Nat) (w : World) (hO : OwnF B (.slice (some ⟨g, 0, none⟩) n cp) M w) (hn : n ≤ 64) (hL : L.length = n) (hW : Way L t (m * (2 * 2 ^ t)) M) (hm : m * (2 * 2 ^ t) + 2 * 2 ^ t ≤ n) (hB : B ≤ g) :
    Calls Tryd.prog 74 #[.slice (some ⟨g, m * (2 * 2 ^ t), none⟩) (2 ^ t) cl, .slice (some ⟨g, m * (2 * 2 ^ t) + 2 ^ t, none⟩) (2 ^ t) ch] w fun e w' =>
      (∃ v, e = .returned v) ∧ ∃ M', OwnF B (.slice (some ⟨g, 0, none⟩) n cp) M' w' ∧ Way L t (m * (2 * 2 ^ t) + 2 ^ t) M' ∧ Below B w w' := by
  have hp : 0 < 2 ^ t := Nat.pow_pos (by omega)
  have HI : Hid (∀ k, k < 2 ^ t → (m * (2 * 2 ^ t) + k) / 2 ^ t % 2 = 0) := Lib.hid (fun k hk => by
    rw [show m * (2 * 2 ^ t) + k = k + 2 ^ t * (2 * m) by rw [← Nat.mul_assoc, Nat.mul_comm (m * 2), Nat.mul_comm m 2, Nat.add_comm], Nat.add_mul_div_left _ _ hp, Nat.div_eq_of_lt hk]
    omega)
  have HWS := Lib.hid (fun M i r1 r2 => way_step L M t i r1 r2)
  generalize hs : m * (2 * 2 ^ t) = s at *
  clear hs
  obtain ⟨h, hh⟩ : ∃ h, h = 2 ^ t := ⟨_, rfl⟩
  have HHE := Lib.hid hh
  rw [← hh] at hm hp HI ⊢
  have O0 := Lib.hid hO
  have W0 := Lib.hid hW
  have HL := Lib.hid hL
  clear hh hO hW hL
  go_enter Tryd.func74, Tryd.ntmps74
  go_wp2_with fail
  go_loopw [7] (fun i wr => ∃ k : Nat, ∃ M : List Nat, k ≤ h ∧ i = .int .i64 k ∧ Hid (OwnF B (.slice (some ⟨g, 0, none⟩) n cp) M wr) ∧ Hid (Way L t (s + k) M) ∧ Hid (Below B w wr)) (fun i _ => h - (intOf i).toNat)
  case atStart => exact ⟨0, M, by omega, rfl, O0, W0, Lib.hid (Below.refl _ _)⟩
  case round =>
    clear O0 W0
    obtain ⟨k, M, hk, rfl, O1, W1, B1⟩ := hrel
    by_cases hlt : k < h
    · have hdk : decide ((k : Int) < (h : Int)) = true := by simp; omega
      have hMn : M.length = n := W1.out.1.trans HL.out
      have o3 : OwnF B (.slice (some ⟨g, 0, none⟩) M.length cp) M wr := by rw [hMn]; exact O1.out
      have HWK := Lib.hid (fun r1 r2 => HWS.out M (s + k) r1 r2 W1.out (by rw [← HHE.out]; exact HI.out k hlt) (by rw [← HHE.out, HL.out]; omega))
      rw [← HHE.out] at HWK
      have hj : s + h + k < M.length := by omega
      have c1 := o3.cell (s + k) (by omega)
      have c2 := o3.cell (s + h + k) hj
      have f1 := o3.free (s + k)
      have f2 := o3.free (s + h + k)
      have HKE : Hid (s + k + h = s + h + k) := Lib.hid (by omega)
      rw [HKE.out] at HWK
      have hne : s + k ≠ s + h + k := by omega
      obtain ⟨x, hx⟩ : ∃ x, x = M.getD (s + k) 0 := ⟨_, rfl⟩
      obtain ⟨y, hy⟩ : ∃ x, x = M.getD (s + h + k) 0 := ⟨_, rfl⟩
      rw [← hx] at c1 HWK
      rw [← hy] at c2 HWK
      have HO := Lib.hid o3
      have HMN := Lib.hid hMn
      clear o3 hx hy hMn
      rcases add_run x y with ⟨g1, g2, g3⟩ | ⟨g1, ⟨z1, g2, g3⟩ | g3⟩
      · rcases sub_run x y with ⟨_, _, q3⟩ | ⟨q1, _⟩
        ·
          go_wp2_with fail
          go_region
          all_goals go_wp2_with fail
          all_goals exact ⟨⟨k + 1, _, by omega, by go_num, Lib.hid (as_left HO.out HMN.out B1.out hB 1 rfl).1, Lib.hid (HWK.out _ _ (.inl ⟨g1, g2, rfl⟩) (.inl ⟨g1, g2, rfl⟩)), Lib.hid (as_left HO.out HMN.out B1.out hB 1 rfl).2⟩, by simp [intOf]; omega⟩
        · rcases q1 with q1 | q1
          · rw [g1] at q1; cases q1
          · rw [g2] at q1; cases q1
      · rcases sub_run x y with ⟨q1, q2, _⟩ | ⟨_, ⟨z2, q2, q3⟩ | q3⟩
        · rcases g1 with g1 | g1
          · rw [g1] at q1; cases q1
          · rw [g1] at q2; cases q2
        ·
          go_wp2_with fail
          go_region
          all_goals go_wp2_with fail
          all_goals exact ⟨⟨k + 1, _, by omega, by go_num, Lib.hid (as_left HO.out HMN.out B1.out hB 1 rfl).1, Lib.hid (HWK.out _ _ (.inr ⟨g1, g2⟩) (.inr ⟨g1, q2⟩)), Lib.hid (as_left HO.out HMN.out B1.out hB 1 rfl).2⟩, by simp [intOf]; omega⟩
        ·
          go_wp2_with fail
          go_region
          all_goals go_wp2_with fail
          all_goals exact ⟨⟨k + 1, _, by omega, by go_num, Lib.hid (as_left HO.out HMN.out B1.out hB 2 rfl).1, Lib.hid (HWK.out _ _ (.inr ⟨g1, g2⟩) (.inr ⟨g1, nan_fin _⟩)), Lib.hid (as_left HO.out HMN.out B1.out hB 2 rfl).2⟩, by simp [intOf]; omega⟩
      · rcases sub_run x y with ⟨q1, q2, _⟩ | ⟨_, ⟨z2, q2, q3⟩ | q3⟩
        · rcases g1 with g1 | g1
          · rw [g1] at q1; cases q1
          · rw [g1] at q2; cases q2
        ·
          go_wp2_with fail
          go_region
          all_goals go_wp2_with fail
          all_goals exact ⟨⟨k + 1, _, by omega, by go_num, Lib.hid (as_left HO.out HMN.out B1.out hB 2 rfl).1, Lib.hid (HWK.out _ _ (.inr ⟨g1, nan_fin _⟩) (.inr ⟨g1, q2⟩)), Lib.hid (as_left HO.out HMN.out B1.out hB 2 rfl).2⟩, by simp [intOf]; omega⟩
        ·
          go_wp2_with fail
          go_region
          all_goals go_wp2_with fail
          all_goals exact ⟨⟨k + 1, _, by omega, by go_num, Lib.hid (as_left HO.out HMN.out B1.out hB 3 rfl).1, Lib.hid (HWK.out _ _ (.inr ⟨g1, nan_fin _⟩) (.inr ⟨g1, nan_fin _⟩)), Lib.hid (as_left HO.out HMN.out B1.out hB 3 rfl).2⟩, by simp [intOf]; omega⟩
    · obtain rfl : k = h := by omega
      go_wp2_with fail
      go_end0
      exact ⟨⟨_, rfl⟩, M, O1.out, W1.out, B1.out⟩

end Go.Proofs.YtclflnpbiiimiaaDoor
