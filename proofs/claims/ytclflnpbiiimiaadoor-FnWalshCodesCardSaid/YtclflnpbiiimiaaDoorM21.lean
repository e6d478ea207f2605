/- The program's sums and differences of two lists side by side in a row. Condition: at most 64 places. The program's rounds of sums and differences, and its sums by codes. Condition: a list of numbers whose length is a power of two up to 64. -/
import Derived.Test.YtclflnpbiiimiaaDoorM17
import Derived.Test.YtclflnpbiiimiaaDoorM20
import Derived.Deep.RegionHeld3
import Derived.Deep.RegionLaw
import Derived.BigRegion
import Derived.Test.YtclflnpbiiimiaaDoorM18
import Derived.BigQuiet
import Derived.Shelf.Abstract
namespace Go.Proofs.YtclflnpbiiimiaaDoor
open Go Go.RowKit Ieee

/-- what the two stores leave -/
theorem as_left {B g cp n i j z1 z2 : Nat} {M : List Nat} {w wr X : World} (hO : OwnF B (.slice (some ⟨g, 0, none⟩) M.length cp) M wr) (hM : M.length = n) (hB : Below B w wr) (hg : B ≤ g) (d : Nat)
    (hX : X = ((wr.setCell ⟨g, i, none⟩ (.float .f32 z1)).setCell ⟨g, j, none⟩ (.float .f32 z2)).drewN d) : OwnF B (.slice (some ⟨g, 0, none⟩) n cp) ((M.set i z1).set j z2) X ∧ Below B w X := by
  subst hX
  have h1 := hO.stored i z1
  have h2 : OwnF B (.slice (some ⟨g, 0, none⟩) (M.set i z1).length cp) (M.set i z1) (wr.setCell ⟨g, i, none⟩ (.float .f32 z1)) := by rw [List.length_set]; exact h1
  have h3 := h2.stored j z2
  rw [List.length_set, hM] at h3
  exact ⟨h3, below_drewN ((hB.setCell (p := ⟨g, i, none⟩) hg _).setCell (p := ⟨g, j, none⟩) hg _) d⟩

set_option maxRecDepth 100000 in
set_option maxHeartbeats 4000000 in
theorem addSub_any (B g cp n t m cl ch : Nat) (L M : List Nat) (w : World) (hO : OwnF B (.slice (some ⟨g, 0, none⟩) n cp) M w) (hn : n ≤ 64) (hL : L.length = n) (hW : Way L t (m * (2 * 2 ^ t)) M) (hm : m * (2 * 2 ^ t) + 2 * 2 ^ t ≤ n) (hB : B ≤ g) :
    Calls Tryd.prog 74 #[.slice (some ⟨g, m * (2 * 2 ^ t), none⟩) (2 ^ t) cl, .slice (some ⟨g, m * (2 * 2 ^ t) + 2 ^ t, none⟩) (2 ^ t) ch] w fun e w' =>
      (∃ v, e = .returned v) ∧ ∃ M', OwnF B (.slice (some ⟨g, 0, none⟩) n cp) M' w' ∧ Way L t (m * (2 * 2 ^ t) + 2 ^ t) M' ∧ Below B w w' := by
  have hp : 0 < 2 ^ t := Nat.pow_pos (by omega)
  have HI : Hid (∀ k, k < 2 ^ t → (m * (2 * 2 ^ t) + k) / 2 ^ t % 2 = 0) := Lib.hid (fun k hk => by
    rw [show m * (2 * 2 ^ t) + k = k + 2 ^ t * (2 * m) by rw [← Nat.mul_assoc, Nat.mul_comm (m * 2), Nat.mul_comm m 2, Nat.add_comm], Nat.add_mul_div_left _ _ hp, Nat.div_eq_of_lt hk]
    omega)
  have HWS := Lib.hid (fun M i r1 r2 => way_step L M t i r1 r2)
  generalize hs : m * (2 * 2 ^ t) = s at *
  clear hs
  obtain ⟨h, hh⟩ : ∃ h, h = 2 ^ t := ⟨_, rfl⟩
  have HHE := Lib.hid hh
  rw [← hh] at hm hp HI ⊢
  have O0 := Lib.hid hO
  have W0 := Lib.hid hW
  have HL := Lib.hid hL
  clear hh hO hW hL
  go_enter Tryd.func74, Tryd.ntmps74
  go_wp2_with fail
  go_loopw [7] (fun i wr => ∃ k : Nat, ∃ M : List Nat, k ≤ h ∧ i = .int .i64 k ∧ Hid (OwnF B (.slice (some ⟨g, 0, none⟩) n cp) M wr) ∧ Hid (Way L t (s + k) M) ∧ Hid (Below B w wr)) (fun i _ => h - (intOf i).toNat)
  case atStart => exact ⟨0, M, by omega, rfl, O0, W0, Lib.hid (Below.refl _ _)⟩
  case round =>
    clear O0 W0
    obtain ⟨k, M, hk, rfl, O1, W1, B1⟩ := hrel
    by_cases hlt : k < h
    · have hdk : decide ((k : Int) < (h : Int)) = true := by simp; omega
      have hMn : M.length = n := W1.out.1.trans HL.out
      have o3 : OwnF B (.slice (some ⟨g, 0, none⟩) M.length cp) M wr := by rw [hMn]; exact O1.out
      have HWK := Lib.hid (fun r1 r2 => HWS.out M (s + k) r1 r2 W1.out (by rw [← HHE.out]; exact HI.out k hlt) (by rw [← HHE.out, HL.out]; omega))
      rw [← HHE.out] at HWK
      have hj : s + h + k < M.length := by omega
      have c1 := o3.cell (s + k) (by omega)
      have c2 := o3.cell (s + h + k) hj
      have f1 := o3.free (s + k)
      have f2 := o3.free (s + h + k)
      have HKE : Hid (s + k + h = s + h + k) := Lib.hid (by omega)
      rw [HKE.out] at HWK
      have hne : s + k ≠ s + h + k := by omega
      obtain ⟨x, hx⟩ : ∃ x, x = M.getD (s + k) 0 := ⟨_, rfl⟩
      obtain ⟨y, hy⟩ : ∃ x, x = M.getD (s + h + k) 0 := ⟨_, rfl⟩
      rw [← hx] at c1 HWK
      rw [← hy] at c2 HWK
      have HO := Lib.hid o3
      have HMN := Lib.hid hMn
      clear o3 hx hy hMn
      rcases add_run x y with ⟨g1, g2, g3⟩ | ⟨g1, ⟨z1, g2, g3⟩ | g3⟩
      · rcases sub_run x y with ⟨_, _, q3⟩ | ⟨q1, _⟩
        ·
          go_wp2_with fail
          go_region
          all_goals go_wp2_with fail
          all_goals exact ⟨⟨k + 1, _, by omega, by go_num, Lib.hid (as_left HO.out HMN.out B1.out hB 1 rfl).1, Lib.hid (HWK.out _ _ (.inl ⟨g1, g2, rfl⟩) (.inl ⟨g1, g2, rfl⟩)), Lib.hid (as_left HO.out HMN.out B1.out hB 1 rfl).2⟩, by simp [intOf]; omega⟩
        · rcases q1 with q1 | q1
          · rw [g1] at q1; cases q1
          · rw [g2] at q1; cases q1
      · rcases sub_run x y with ⟨q1, q2, _⟩ | ⟨_, ⟨z2, q2, q3⟩ | q3⟩
        · rcases g1 with g1 | g1
          · rw [g1] at q1; cases q1
          · rw [g1] at q2; cases q2
        ·
          go_wp2_with fail
          go_region
          all_goals go_wp2_with fail
          all_goals exact ⟨⟨k + 1, _, by omega, by go_num, Lib.hid (as_left HO.out HMN.out B1.out hB 1 rfl).1, Lib.hid (HWK.out _ _ (.inr ⟨g1, g2⟩) (.inr ⟨g1, q2⟩)), Lib.hid (as_left HO.out HMN.out B1.out hB 1 rfl).2⟩, by simp [intOf]; omega⟩
        ·
          go_wp2_with fail
          go_region
          all_goals go_wp2_with fail
          all_goals exact ⟨⟨k + 1, _, by omega, by go_num, Lib.hid (as_left HO.out HMN.out B1.out hB 2 rfl).1, Lib.hid (HWK.out _ _ (.inr ⟨g1, g2⟩) (.inr ⟨g1, nan_fin _⟩)), Lib.hid (as_left HO.out HMN.out B1.out hB 2 rfl).2⟩, by simp [intOf]; omega⟩
      · rcases sub_run x y with ⟨q1, q2, _⟩ | ⟨_, ⟨z2, q2, q3⟩ | q3⟩
        · rcases g1 with g1 | g1
          · rw [g1] at q1; cases q1
          · rw [g1] at q2; cases q2
        ·
          go_wp2_with fail
          go_region
          all_goals go_wp2_with fail
          all_goals exact ⟨⟨k + 1, _, by omega, by go_num, Lib.hid (as_left HO.out HMN.out B1.out hB 2 rfl).1, Lib.hid (HWK.out _ _ (.inr ⟨g1, nan_fin _⟩) (.inr ⟨g1, q2⟩)), Lib.hid (as_left HO.out HMN.out B1.out hB 2 rfl).2⟩, by simp [intOf]; omega⟩
        ·
          go_wp2_with fail
          go_region
          all_goals go_wp2_with fail
          all_goals exact ⟨⟨k + 1, _, by omega, by go_num, Lib.hid (as_left HO.out HMN.out B1.out hB 3 rfl).1, Lib.hid (HWK.out _ _ (.inr ⟨g1, nan_fin _⟩) (.inr ⟨g1, nan_fin _⟩)), Lib.hid (as_left HO.out HMN.out B1.out hB 3 rfl).2⟩, by simp [intOf]; omega⟩
    · obtain rfl : k = h := by omega
      go_wp2_with fail
      go_end0
      exact ⟨⟨_, rfl⟩, M, O1.out, W1.out, B1.out⟩

end Go.Proofs.YtclflnpbiiimiaaDoor

namespace Go.Proofs.YtclflnpbiiimiaaDoor
open Go Go.RowKit Go.Shelf Ieee

theorem way_skips (L M : List Nat) (t : Nat) : ∀ (d i : Nat), Way L t i M → (∀ q, i ≤ q → q < i + d → q / 2 ^ t % 2 ≠ 0) → Way L t (i + d) M
  | 0, _, h, _ => h
  | d + 1, i, h, hq => by
    have h1 := way_skips L M t d i h (fun q h1 h2 => hq q h1 (by omega))
    exact way_skip L M t (i + d) h1 (hq (i + d) (by omega) (by omega))

theorem odd_part (a h q : Nat) (h1 : a * (2 * h) + h ≤ q) (h2 : q < a * (2 * h) + h + h) : q / h % 2 ≠ 0 := by
  have e : q / h = 2 * a + 1 := by
    have e2 : a * (2 * h) = (2 * a) * h := by rw [← Nat.mul_assoc, Nat.mul_comm a 2]
    rw [e2] at h1 h2
    refine Nat.div_eq_of_lt_le ?_ ?_
    · rw [Nat.succ_mul]; exact h1
    · rw [Nat.succ_mul, Nat.succ_mul]; exact h2
  omega
theorem addSub_enters : ∀ (args : Array Value) w, (callFunc 74 args).run Tryd.prog w = .ok (.enter 74 args) w := enters_of Tryd.func74 (by kernel_rfl) rfl

set_option maxRecDepth 100000 in
set_option maxHeartbeats 800000 in
theorem rounds_any (B g cp n : Nat) (L : List Nat) (w : World) (hn : lenI (n : Int) = true) (hL : L.length = n) (hO : OwnF B (.slice (some ⟨g, 0, none⟩) n cp) L w) (hf : L.all fin = true) (hB : B ≤ g) :
    Calls Tryd.prog 73 #[.slice (some ⟨g, 0, none⟩) n cp, .func (.func 74) #[] #[]] w fun e w' =>
      (∃ v, e = .returned v) ∧ ∃ M, OwnF B (.slice (some ⟨g, 0, none⟩) n cp) M w' ∧ M.length = n ∧ ((okRnd L (lg n) = true ∧ M = rnds L (lg n)) ∨ (okRnd L (lg n) = false ∧ M.all fin = false)) ∧ Below B w w' := by
  obtain ⟨hpow, hlg⟩ := lg_pow hn
  have hn64 : 1 ≤ n ∧ n ≤ 64 := by rcases lenI_yes hn with e | e | e | e | e | e | e <;> omega
  have hcap := hO.cap
  have HF : Hid (okRnd L 0 = true) := Lib.hid (by rw [okRnd_zero]; exact hf)
  have O1 := Lib.hid hO
  have HLN := Lib.hid hL
  obtain ⟨m, hm⟩ : ∃ m, m = lg n := ⟨_, rfl⟩
  rw [← hm] at hpow hlg ⊢
  have HPOW := Lib.hid hpow
  have hnc : n ≤ cp := by rw [← hL]; exact hcap.2.1
  clear hO hL hn hf hm hpow hcap
  go_enter Tryd.func73, Tryd.ntmps73
  go_wp2_with fail
  go_loopw [4] (fun i wr => ∃ t : Nat, ∃ M : List Nat, t ≤ m ∧ i = .int .i64 (pw2 t) ∧ Hid (OwnF B (.slice (some ⟨g, 0, none⟩) n cp) M wr) ∧ Hid (M.length = L.length ∧ ((okRnd L t = true ∧ M = rnds L t) ∨ (okRnd L t = false ∧ M.all fin = false))) ∧ Hid (Below B w wr)) (fun i _ => (1000 - (intOf i)).toNat)
  case atStart => exact ⟨0, L, by omega, rfl, O1, Lib.hid ⟨rfl, .inl ⟨HF.out, rfl⟩⟩, Lib.hid (Below.refl _ _)⟩
  case round =>
    clear O1
    obtain ⟨t, M, ht, rfl, O2, HM, B2⟩ := hrel
    by_cases hlt : t < m
    · have hp1 : 2 ^ (t + 1) ≤ 2 ^ m := Nat.pow_le_pow_right (by omega) (by omega)
      have hp2 : 0 < 2 ^ t := Nat.pow_pos (by omega)
      have hp3 : 2 ^ (t + 1) = 2 * 2 ^ t := by rw [Nat.pow_succ]; omega
      have hpw : pw2 t = ((2 ^ t : Nat) : Int) := rfl
      have hpw2 : pw2 (t + 1) = ((2 ^ (t + 1) : Nat) : Int) := rfl
      have hdiv : n = 2 ^ (m - t - 1) * (2 * 2 ^ t) := by
        rw [HPOW.out, ← hp3, ← Nat.pow_add, show m - t - 1 + (t + 1) = m by omega]
      have HW0 := Lib.hid (way_start L M t HM.out)
      obtain ⟨h, hh⟩ : ∃ h, h = 2 ^ t := ⟨_, rfl⟩
      obtain ⟨P, hP⟩ : ∃ P, P = 2 ^ (m - t - 1) := ⟨_, rfl⟩
      have hP1 : 1 ≤ P := by rw [hP]; exact Nat.pow_pos (by omega)
      have HHE := Lib.hid hh
      have hhe : pw2 t = (h : Int) := by rw [hh]; rfl
      have hhe2 : pw2 (t + 1) = 2 * (h : Int) := by rw [hpw2, hp3, ← hh]; omega
      rw [← hP, ← hh] at hdiv
      have hh1 : 1 ≤ h ∧ h ≤ 32 := by
        have := HPOW.out
        rw [hh]
        omega
      have hdk : decide ((h : Int) < (n : Int)) = true := by
        have : h < n := by have := HPOW.out; omega
        simp; omega
      have hlt2 : h < n := by have := HPOW.out; omega
      have hw2 : IntKind.i64.wrap ((h : Int) * 2) = 2 * (h : Int) := (IntWalk.i64_in _ (by omega)).trans (by omega)
      have hw3 : IntKind.i64.wrap (2 * (h : Int)) = 2 * (h : Int) := IntWalk.i64_in _ (by omega)
      have HP2 := Lib.hid hhe2
      have HDV := Lib.hid hdiv
      rw [hhe]
      clear hp1 hp2 hp3 hpw hpw2 HM hhe hhe2 hh hP hdiv
      go_wp2_with fail
      go_loopw [5] (fun i wv => ∃ a : Nat, ∃ M : List Nat, a ≤ P ∧ i = .int .i64 ((a * (2 * h) : Nat) : Int) ∧ Hid (OwnF B (.slice (some ⟨g, 0, none⟩) n cp) M wv) ∧ Hid (Way L t (a * (2 * h)) M) ∧ Hid (Below B w wv)) (fun i _ => 1000 - (intOf i).toNat)
      case atStart => exact ⟨0, M, by omega, by simp, O2, by rw [Nat.zero_mul]; exact HW0, B2⟩
      case round =>
        clear O2 HW0 B2
        obtain ⟨a, M, ha, rfl, O3, HW, B3⟩ := hrel
        by_cases hlq : a < P
        · have hup : a * (2 * h) + 2 * h ≤ n := by
            rw [HDV.out, ← Nat.succ_mul]
            exact Nat.mul_le_mul_right _ hlq
          have HAS := Lib.hid (addSub_any B g cp n t a h h L M _ O3.out.drew hn64.2 HLN.out (by rw [← HHE.out]; exact HW.out) (by rw [← HHE.out]; exact hup) hB)
          have HSK : Hid (∀ M', Way L t (a * (2 * 2 ^ t) + 2 ^ t) M' → Way L t ((a + 1) * (2 * h)) M') := Lib.hid (fun M' h' => by
            have := way_skips L M' t (2 ^ t) _ h' (fun q h1 h2 => odd_part a (2 ^ t) q h1 h2)
            rw [HHE.out, Nat.succ_mul]
            rwa [show a * (2 * 2 ^ t) + 2 * 2 ^ t = a * (2 * 2 ^ t) + 2 ^ t + 2 ^ t by omega])
          rw [← HHE.out] at HAS HSK
          have HSU : Hid ((a + 1) * (2 * h) = a * (2 * h) + 2 * h) := Lib.hid (Nat.succ_mul _ _)
          generalize hs : a * (2 * h) = s at *
          have hlt3 : s < n := by omega
          obtain ⟨u, hu⟩ : ∃ u, u = s + h := ⟨_, rfl⟩
          obtain ⟨v, hv⟩ : ∃ v, v = s + 2 * h := ⟨_, rfl⟩
          have hk1 : IntKind.i64.wrap ((s : Int) + (h : Int)) = (u : Int) := (IntWalk.i64_in _ (by omega)).trans (by omega)
          have hk2 : IntKind.i64.wrap ((s : Int) + 2 * (h : Int)) = (v : Int) := (IntWalk.i64_in _ (by omega)).trans (by omega)
          have hdk2 : decide ((s : Int) < (n : Int)) = true := by simp; omega
          have HVE : Hid ((v : Int) = (s : Int) + 2 * (h : Int)) := Lib.hid (by omega)
          have HIJ : Hid (s < u ∧ u < v ∧ v ≤ cp) := Lib.hid (by omega)
          rw [← hu] at HAS HSK
          have HU1 : Hid (u - s = h) := Lib.hid (by omega)
          have HU2 : Hid (v - u = h) := Lib.hid (by omega)
          have HSV : Hid ((a + 1) * (2 * h) = v) := Lib.hid (by rw [HSU.out, hv])
          have HWR : Hid (Below B w wr.drew) := Lib.hid B3.out.drew
          clear hu hv hup hs
          go_wp2_with fail
          obtain ⟨j1, j2, j3⟩ := HIJ.out
          have j5 : ¬ u = s := by omega
          have j6 : ¬ v = u := by omega
          have j4 : u ≤ cp := by omega
          have i1 : (0 : Int) ≤ (s : Int) := by omega
          have i2 : (s : Int) ≤ (u : Int) := by omega
          have i3 : (u : Int) ≤ (v : Int) := by omega
          have i4 : (v : Int) ≤ (cp : Int) := by omega
          have i5 : (u : Int) ≤ (cp : Int) := by omega
          clear hk1 hk2
          go_region_held3 (fun _ => True) (first | trivial | go_keep)
            (first
              | (go_at_call 74; rw [HU1.out, HU2.out]; refine HAS.out.mono ?_; rintro e w' ⟨⟨r, rfl⟩, M', hO', hW', hB'⟩; have O5 := Lib.hid hO'; have W5 := Lib.hid (HSK.out M' hW'); have B5 := Lib.hid (HWR.out.trans hB'); clear hO' hW' hB'))
          all_goals go_wp2_with fail
          all_goals exact ⟨⟨a + 1, M', by omega, by rw [HSV.out, HVE.out], O5, W5, B5⟩, by have := HSU.out; have := HSV.out; simp [intOf]; omega⟩
        · obtain rfl : a = P := by omega
          have hdk2 : decide (((a * (2 * h) : Nat) : Int) < (n : Int)) = false := by rw [← HDV.out]; simp
          have HWE : Hid (Way L t n M) := Lib.hid (by rw [HDV.out]; exact HW.out)
          have HWR := Lib.hid (way_end L M t (by rw [HLN.out]; exact HWE.out))
          have hnl : ¬ a * (2 * h) < n := by have := HDV.out; omega
          have HAE := Lib.hid HDV.out
          generalize a * (2 * h) = s at *
          go_wp2_with fail
          exact ⟨⟨t + 1, M, by omega, by rw [HP2.out], O3, HWR, B3⟩, by have := HP2.out; simp [intOf]; omega⟩
    · obtain rfl : t = m := by omega
      have hdk : decide (pw2 t < (n : Int)) = false := by
        have : pw2 t = ((2 ^ t : Nat) : Int) := rfl
        have := HPOW.out
        simp; omega
      have HML : Hid (M.length = n) := Lib.hid (HM.out.1.trans HLN.out)
      generalize pw2 t = P at *
      go_wp2_with fail
      go_end0
      exact ⟨⟨_, rfl⟩, M, O2.out, HML.out, HM.out.2, B2.out⟩

end Go.Proofs.YtclflnpbiiimiaaDoor
